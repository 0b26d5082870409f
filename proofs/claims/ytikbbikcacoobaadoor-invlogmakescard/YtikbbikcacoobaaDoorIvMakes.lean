/-
  The walk of the statement on what is no log. No conditions.
-/
import Derived.Test.YtikbbikcacoobaaDoorIvAwake
import Derived.Deep.CutRange
namespace Go.Proofs.YtikbbikcacoobaaDoor.Pd.Iv
open Go.RowKit Oc Dm W Dw Sr Gt
set_option linter.unusedVariables false
set_option maxRecDepth 100000
attribute [local go_sem ↓] Go.wp_at_zero Go.wp_at_succ
section
variable {w : World} {F : Nat → Prop} {D pw n la lg k f ep : Nat} {p : Pn.Pl} {m : Vs}
/-- what Open answers on a new device of k sectors -/
theorem open_new (h : PD w F D pw k 0 m) (he : Env w) (hE : ∀ b, Al F pw b → 0 < b) (hp : Pln p la lg n) (hm : m.s.off = false → m = m00) (c : Int) (hc : c = chk k p.a12 f ep m.s.off) :
    Calls Tryd.prog 9 #[.pointer (some ⟨D, 0, none⟩), (.agg #[.int .i64 p.a0, .int .i64 p.a1, .int .i64 p.a2, .int .i64 p.a3, .int .i64 p.a4, .int .i64 p.a5, .int .i64 p.a6, .int .i64 p.a7, .int .i64 p.a8, .int .i64 p.a9, .int .i64 p.a10, .int .i64 p.a11, .int .i64 p.a12]), .int .u64 (f : Int), .int .u64 (ep : Int)] w fun e w' => ∃ T A c2, e = .returned (.tuple #[.pointer T, .slice A 0 c2, .int .i64 c]) ∧ (c = 0 → ∃ t, T = some ⟨t, 0, none⟩) ∧ (¬ c = 0 → T = none) ∧ PD w' F D pw k 0 m ∧ Chg F w w' := by
  by_cases h0 : c = 0
  · subst h0
    have hcc := hc
    unfold chk at hcc
    split at hcc
    · cases hcc
    · rename_i hn
      split at hcc
      · cases hcc
      · rename_i ho
        have ho : m.s.off = false := by simpa using ho
        have hkn : k = n := by have := hp.h12; omega
        subst hkn
        have hf : f ≤ most := by omega
        have hep : ep ≤ most := by omega
        have hm0 := hm ho
        subst hm0
        exact (open_yes h he (fun b x => hE b (.inl x)) hp ho hp.h12.symm hf hep ([], m00) (rdl_blank _ _ _ _ _ _)).mono fun e w' ⟨A, c2, e1, _, _, e4, e5⟩ => ⟨_, A, c2, e1, fun _ => ⟨_, rfl⟩, fun x => absurd rfl x, e4, e5⟩
  · exact (open_no h f ep c hc h0).mono fun e w' ⟨e1, e2⟩ => ⟨none, none, 0, e1, fun x => absurd x h0, fun _ => rfl, h.below e2, Chg.of_below e2⟩
end
set_option maxHeartbeats 8000000 in
theorem makes_walk (x s f ep : Nat) (off : Bool) (hx : x ≤ 65535) (hs : s ≤ 65535) (hf : f < 18446744073709551616) (hep : ep < 18446744073709551616) (w : World) (he : Env w) :
    Calls Tryd.prog 3 #[.int .u16 (x : Int), .int .u16 (s : Int), .int .u64 (f : Int), .int .u64 (ep : Int), .bool off] w fun e w' => e = .returned (.bool true) ∧ Below w.heap.size w w' := by
  obtain ⟨sm, hsm⟩ : ∃ f : Nat, (s : Int) % 300 = (f : Int) := ⟨s % 300, by omega⟩
  have hs2 : sm ≤ 299 := by omega
  obtain ⟨c, hc⟩ : ∃ c, c = Pn.cfOf (1 + (0 : Int) % 512) (1 + (0 : Int) % 192) (1 + (x : Int) % 256) := ⟨_, rfl⟩
  obtain ⟨p, hp⟩ : ∃ p, p = Pn.planOf c.c0 c.c1 c.c2 := ⟨_, rfl⟩
  have hm : Pn.May c := by rw [hc]; exact ⟨⟨(show (1 : Int) ≤ 1 by decide), (show (1 : Int) ≤ 512 by decide)⟩, ⟨(show (1 : Int) ≤ 1 by decide), (show (1 : Int) ≤ 192 by decide)⟩, ⟨by show 1 ≤ 1 + (x : Int) % 256; omega, by show 1 + (x : Int) % 256 ≤ 256; omega⟩, ⟨(show (1 : Int) ≤ 10 by decide), (show (10 : Int) ≤ 4096 by decide)⟩, ⟨(show (0 : Int) ≤ 100 by decide), (show (100 : Int) ≤ 1048576 by decide)⟩, ⟨(show (0 : Int) ≤ 0 by decide), (show (0 : Int) ≤ 1048576 by decide)⟩⟩
  obtain ⟨la, lg, n, hP⟩ : ∃ la lg n, Pln p la lg n := by
    have e : p = Pn.planOf 1 1 (1 + ((x % 256 : Nat) : Int)) := by
      rw [hp, hc]
      show Pn.planOf (1 + (0 : Int) % 512) (1 + (0 : Int) % 192) (1 + (x : Int) % 256) = _
      rw [show (x : Int) % 256 = ((x % 256 : Nat) : Int) by omega]
      rfl
    rw [e]
    exact ⟨_, _, _, pln_plan (x % 256) (by omega)⟩
  have ONE := Lib.hid (show (#[.int .i64 c.c0, .int .i64 c.c1, .int .i64 c.c2, .int .i64 c.c3, .int .i64 c.c4, c.c5, c.c6, c.c7, c.c8, .int .i64 c.c9] : Array Value).all (fun x => x.oneCell') = true by rw [hc]; simp [Pn.cfOf, Value.oneCell'])
  have CONF := Lib.hid (fun w => Pn.conf_any 0 0 (x : Int) c hc w (by decide) (by decide) (by decide) (by decide) (by omega) (by omega))
  have OF := Lib.hid (fun w => Pn.of_yes c p hp hm w)
  have ROF := Lib.hid (fun w => Pn.rof_any c p hp w hm.1.1 hm.1.2 hm.2.1.1 hm.2.1.2 hm.2.2.1.1 hm.2.2.1.2)
  have HE := Lib.hid he
  have HP := Lib.hid hP
  have hn2 : n ≤ 4096 := hP.hn2
  clear hc hp hP he hm
  go_enter Tryd.func3, Tryd.ntmps3
  go_wp2_with fail
  refine (CONF.out _).mono ?_; rintro e w1 ⟨rfl, b1⟩
  have B1 := Lib.hid b1
  clear b1
  go_wp2_with (first | ((with_reducible apply Pn.L_storeRow (N := 10) Pn.info_conf); exact rfl; exact rfl; exact heap_alloc_new _ _; exact rfl; exact rfl; (first | exact ONE.out | (simp [Value.oneCell'])); intro w2 h2 g2; have H2 := Lib.hid h2; have B2 := Lib.hid (bthen B1.out ((balloc _ _).grown g2 (by simp) (fun k e => by injection e with e; omega))); clear h2 g2) | ((with_reducible apply Pn.L_loadConf); exact rfl; exact H2.out; exact rfl))
  refine (OF.out _).mono ?_; rintro e w3 ⟨rfl, b3⟩
  have C3 := Lib.hid (kept_below H2.out b3)
  have B3 := Lib.hid (bthen B2.out b3)
  have Z1 : Hid (w.heap.size ≤ w1.heap.size) := B1.out.size
  have Z3 : Hid (w1.heap.size < w3.heap.size) := lt_of_heap C3.out
  clear b3 B1 B2 H2
  go_wp2_with fail
  refine (newpower_any _).mono ?_; rintro e w5 ⟨rfl, p5, b5, s5⟩
  have P5 := Lib.hid p5
  have C5 := Lib.hid (kept_below (kept_below C3.out (balloc w3 (.cells #[.int .i64 p.a0, .int .i64 p.a1, .int .i64 p.a2, .int .i64 p.a3, .int .i64 p.a4, .int .i64 p.a5, .int .i64 p.a6, .int .i64 p.a7, .int .i64 p.a8, .int .i64 p.a9, .int .i64 p.a10, .int .i64 p.a11, .int .i64 p.a12] 34))) b5)
  have X5 := Lib.hid (kept_below (heap_alloc_new w3 (.cells #[.int .i64 p.a0, .int .i64 p.a1, .int .i64 p.a2, .int .i64 p.a3, .int .i64 p.a4, .int .i64 p.a5, .int .i64 p.a6, .int .i64 p.a7, .int .i64 p.a8, .int .i64 p.a9, .int .i64 p.a10, .int .i64 p.a11, .int .i64 p.a12] 34)) b5)
  have B5 := Lib.hid (bthen (bthen B3.out (balloc w3 (.cells #[.int .i64 p.a0, .int .i64 p.a1, .int .i64 p.a2, .int .i64 p.a3, .int .i64 p.a4, .int .i64 p.a5, .int .i64 p.a6, .int .i64 p.a7, .int .i64 p.a8, .int .i64 p.a9, .int .i64 p.a10, .int .i64 p.a11, .int .i64 p.a12] 34))) b5)
  have Z5 : Hid ((w3.alloc (.cells #[.int .i64 p.a0, .int .i64 p.a1, .int .i64 p.a2, .int .i64 p.a3, .int .i64 p.a4, .int .i64 p.a5, .int .i64 p.a6, .int .i64 p.a7, .int .i64 p.a8, .int .i64 p.a9, .int .i64 p.a10, .int .i64 p.a11, .int .i64 p.a12] 34)).heap.size = w3.heap.size + 1) := World.size_alloc _ _
  generalize (w3.alloc (.cells #[.int .i64 p.a0, .int .i64 p.a1, .int .i64 p.a2, .int .i64 p.a3, .int .i64 p.a4, .int .i64 p.a5, .int .i64 p.a6, .int .i64 p.a7, .int .i64 p.a8, .int .i64 p.a9, .int .i64 p.a10, .int .i64 p.a11, .int .i64 p.a12] 34)).heap.size = pw at P5 Z5 s5 ⊢
  clear b5 p5 B3 C3
  go_wp2_with fail
  refine (new_pd P5.out (show sm ≤ 4096 by omega)).mono ?_; rintro e w6 ⟨D, rfl, hD, p6, b6⟩
  have P6 := Lib.hid p6
  have B6 := Lib.hid (bthen B5.out b6)
  have X6 := Lib.hid (kept_below X5.out b6)
  have C6 := Lib.hid (kept_below C5.out b6)
  have FR : Hid (∀ b, Al (Fresh w5 w6) pw b → w3.heap.size < b) := fun b y => by
    have := Z5.out
    have : w5.heap.size = pw + 1 := s5
    rcases y with y | y
    · have := y.1; omega
    · subst y; omega
  generalize Fresh w5 w6 = F at P6 FR
  clear b6 p6 hD B5 X5 C5 P5 s5
  have MZ : Hid ((∀ m : Vs, m = { m00 with s := { m00.s with off := true } } → m.s.off = true) ∧ m00.s.off = false) := ⟨fun m h => by subst h; rfl, rfl⟩
  have S7 : ∃ m7 : Vs, m7.s.off = off ∧ (m7.s.off = false → m7 = m00) ∧ m7 = (if off = true then { m00 with s := { m00.s with off := true } } else m00) := by
    cases off
    · exact ⟨m00, rfl, fun _ => rfl, rfl⟩
    · exact ⟨{ m00 with s := { m00.s with off := true } }, rfl, (fun h => by cases h), rfl⟩
  obtain ⟨m7, ho7, hm7, he7⟩ := S7
  obtain ⟨c0, hc0⟩ : ∃ c0 : Int, c0 = chk sm p.a12 f ep m7.s.off := ⟨_, rfl⟩
  have HC0 := Lib.hid hc0
  have HM7 := Lib.hid hm7
  have HO7 := Lib.hid ho7
  have HE7 := Lib.hid he7
  clear hc0 hm7 ho7 he7 MZ
  go_upto_if 47 with fail
  go_cut [16] from 47 to 49 (fun s16 wc => s16 = .pointer (some ⟨D, 0, none⟩) ∧ Hid (∃ F7, PD wc F7 D pw sm 0 m7 ∧ (∀ b, Al F7 pw b → w3.heap.size < b) ∧ Below w.heap.size w wc ∧ wc.heap[w3.heap.size]? = some (.cells #[.int .i64 p.a0, .int .i64 p.a1, .int .i64 p.a2, .int .i64 p.a3, .int .i64 p.a4, .int .i64 p.a5, .int .i64 p.a6, .int .i64 p.a7, .int .i64 p.a8, .int .i64 p.a9, .int .i64 p.a10, .int .i64 p.a11, .int .i64 p.a12] 34 (0, 0)) ∧ wc.heap[w1.heap.size]? = some (.cells #[.int .i64 c.c0, .int .i64 c.c1, .int .i64 c.c2, .int .i64 c.c3, .int .i64 c.c4, c.c5, c.c6, c.c7, c.c8, .int .i64 c.c9] 26 (0, 0))))
  case first =>
    cases off
    · go_wp2
      go_meet
      exact ⟨rfl, F, by rw [HE7.out]; exact P6.out, FR.out, B6.out, X6.out, C6.out⟩
    · go_wp2_with fail
      refine (cut_any P6.out.pw).mono ?_; rintro e w7 ⟨rfl, q7, g7, _⟩
      obtain ⟨p7, k7⟩ := P6.out.pow q7 g7 (Nat.le_refl _) (by decide) (by decide)
      have P7 : Hid (PD w7 (Ext F w6 w7) D pw sm 0 m7) := by rw [HE7.out]; exact p7
      have X7 := Lib.hid ((k7.block _ (lt_of_heap X6.out) (fun y => by have := FR.out _ y; omega)).trans X6.out)
      have C7 := Lib.hid ((k7.block _ (lt_of_heap C6.out) (fun y => by have := FR.out _ y; have := Z3.out; omega)).trans C6.out)
      have FR7 : Hid (∀ b, Al (Ext F w6 w7) pw b → w3.heap.size < b) := fun b y => by
        rcases y with (y | y) | y
        · exact FR.out b (.inl y)
        · have := y.1; have := lt_of_heap X6.out; omega
        · exact FR.out b (.inr y)
      have B7 := Lib.hid (B6.out.trans (k7.below B6.out.size (fun b hb y => by have := FR.out b y; have := Z3.out; have := Z1.out; omega)))
      clear q7 g7 p7 k7
      go_wp2
      go_meet
      exact ⟨rfl, Ext F w6 w7, P7.out, FR7.out, B7.out, X7.out, C7.out⟩
  case rest =>
    obtain ⟨rfl, hcc⟩ := hcut
    obtain ⟨F7, p7, fr7, b7, x7, cc7⟩ := hcc
    have P7 := Lib.hid p7
    have X7 := Lib.hid x7
    have C7 := Lib.hid cc7
    have FR7 := Lib.hid fr7
    have B7 := Lib.hid b7
    clear p7 x7 cc7 fr7 b7 P6 X6 C6 FR B6
    have EG : Hid (∀ b, Al F7 pw b → 0 < b) := fun b y => by
      obtain ⟨t, fr, hh⟩ := HE.out
      have := lt_of_heap hh
      have := FR7.out b y
      have := Z3.out
      have := Z1.out
      omega
    go_wp2_with ((with_reducible apply Pn.L_loadMap); exact rfl; exact X7.out; exact rfl)
    refine (open_new P7.out (HE.out.below B7.out) EG.out HP.out HM7.out c0 HC0.out).mono ?_; rintro e w8 ⟨T, A, cp, rfl, t1, t2, p8, k8⟩
    have P8 := Lib.hid p8
    have T1 := Lib.hid t1
    have T2 := Lib.hid t2
    have X8 := Lib.hid ((k8.block _ (lt_of_heap X7.out) (fun y => by have := FR7.out _ (.inl y); omega)).trans X7.out)
    have C8 := Lib.hid ((k8.block _ (lt_of_heap C7.out) (fun y => by have := FR7.out _ (.inl y); have := Z3.out; omega)).trans C7.out)
    have B8 := Lib.hid (B7.out.trans (k8.below B7.out.size (fun b hb y => by have := FR7.out b (.inl y); have := Z3.out; have := Z1.out; omega)))
    clear p8 k8 t1 t2 X7 C7 B7 P7
    go_wp2_with ((with_reducible apply Pn.L_loadMap); exact rfl; exact X8.out; exact rfl)
    refine (open_nil p f ep _).mono ?_; rintro e w9 ⟨rfl, b9⟩
    have P9 := Lib.hid (P8.out.below b9)
    have C9 := Lib.hid (kept_below C8.out b9)
    have B9 := Lib.hid (bthen B8.out b9)
    clear b9 X8 C8 B8 P8
    go_wp2_with fail
    refine (open_no (p := Pn.noPlan) P9.out f ep 1 (by unfold chk; rw [if_pos (.inl rfl)]) (by decide)).mono ?_; rintro e w10 ⟨rfl, b10⟩
    have C10 := Lib.hid (kept_below C9.out b10)
    have B10 := Lib.hid (bthen B9.out b10)
    clear b10 C9 B9 P9
    have hch : c0 = if ¬ sm = n ∨ most < f ∨ most < ep then 1 else if m7.s.off = true then 80 else 0 := by
      have h12 := HP.out.h12
      have hl1 := HP.out.hl
      have hn1 := HP.out.hn
      have := HC0.out
      unfold chk at this
      by_cases hb : ¬ sm = n ∨ most < f ∨ most < ep
      · rw [if_pos (by rcases hb with h | h | h; exact .inr (.inl (by omega)); exact .inr (.inr (.inl h)); exact .inr (.inr (.inr h)))] at this
        rw [if_pos hb]; exact this
      · rw [if_neg (by rintro (h | h | h | h); omega; exact hb (.inl (by omega)); exact hb (.inr (.inl h)); exact hb (.inr (.inr h)))] at this
        rw [if_neg hb]; exact this
    rw [HO7.out] at hch
    clear HC0 HM7 HE7 HO7
    obtain ⟨ow, how⟩ : ∃ ow : Int, ow = if off = true then 80 else 0 := ⟨_, rfl⟩
    rw [← how] at hch
    have HCH := Lib.hid hch
    have HOW := Lib.hid how
    clear hch how
    go_upto_if 76 with fail
    go_cut [27] from 76 to 76 (fun s27 wc => s27 = .int .i64 ow ∧ wc = w10)
    case first =>
      cases off
      · go_wp2
        go_meet
        exact ⟨by rw [HOW.out]; rfl, rfl⟩
      · go_wp2
        go_meet
        exact ⟨by rw [HOW.out]; rfl, rfl⟩
    case rest =>
      obtain ⟨rfl, hw⟩ := hcut
      subst hw
      go_upto_region 14 with fail
      go_cut [89] from 77 to 88 (fun s89 wx => ∃ b : Bool, s89 = .bool b ∧ Hid ((b = true → c0 = 1) ∧ (b = false → c0 = ow)) ∧ Hid (Below w.heap.size w wx))
      case first =>
        go_wp2_with ((with_reducible apply Pn.L_loadConf); exact rfl; exact C10.out; exact rfl)
        refine (ROF.out _).mono ?_; rintro e w11 ⟨rfl, b11⟩
        have B11 := Lib.hid (bthen B10.out b11)
        have hfd : (Instr.field 30 (.agg #[.int .i64 p.a0, .int .i64 p.a1, .int .i64 p.a2, .int .i64 p.a3, .int .i64 p.a4, .int .i64 p.a5, .int .i64 p.a6, .int .i64 p.a7, .int .i64 p.a8, .int .i64 p.a9, .int .i64 p.a10, .int .i64 p.a11, .int .i64 p.a12]) 11).run Tryd.prog w11 = .ok (.int .i64 (n : Int)) w11 := by rw [field_11, HP.out.h12]
        clear b11 T1 T2
        by_cases hq : sm = n
        · subst hq
          by_cases hf1 : most < f
          · have hf2 : (4611686014132420608 : Int) < (f : Int) := by unfold most at hf1; omega
            have CC : Hid (c0 = 1) := by have := HCH.out; rwa [if_pos (.inr (.inl hf1))] at this
            clear hf1 HCH
            go_wp2
            go_meet
            exact ⟨true, rfl, ⟨fun _ => CC.out, (fun h => by cases h)⟩, B11.out⟩
          · have hf2 : ¬ (4611686014132420608 : Int) < (f : Int) := by unfold most at hf1; omega
            by_cases he1 : most < ep
            · have he2 : (4611686014132420608 : Int) < (ep : Int) := by unfold most at he1; omega
              have CC : Hid (c0 = 1) := by have := HCH.out; rwa [if_pos (.inr (.inr he1))] at this
              clear hf1 he1 HCH
              go_wp2
              go_meet
              exact ⟨true, rfl, ⟨fun _ => CC.out, (fun h => by cases h)⟩, B11.out⟩
            · have he2 : ¬ (4611686014132420608 : Int) < (ep : Int) := by unfold most at he1; omega
              have CC : Hid (c0 = ow) := by have := HCH.out; rwa [if_neg (by rintro (h | h | h); exact h rfl; exact hf1 h; exact he1 h)] at this
              clear hf1 he1 HCH
              go_wp2
              go_meet
              exact ⟨false, by simp [hf2, he2], ⟨(fun h => by cases h), fun _ => CC.out⟩, B11.out⟩
        · have hq2 : ¬ (sm : Int) = (n : Int) := by omega
          have CC : Hid (c0 = 1) := by have := HCH.out; rwa [if_pos (.inl hq)] at this
          clear hq HCH
          go_wp2
          go_meet
          exact ⟨true, rfl, ⟨fun _ => CC.out, (fun h => by cases h)⟩, B11.out⟩
      case rest =>
        obtain ⟨b, rfl, CB, B11⟩ := hcut
        clear HCH HOW C10 B10
        cases b
        · have hco := CB.out.2 rfl
          subst hco
          by_cases h0 : c0 = 0
          · obtain ⟨tt, hT⟩ := T1.out h0
            subst hT h0
            clear T1 T2 CB
            go_wp2_with fail
            refine (append_not (.inl rfl) _ _ _).mono ?_; rintro e w' ⟨rfl, rfl⟩
            have B12 := Lib.hid (bthen B11.out (balloc wc (.cells #[.pointer none, .int .i64 0, .int .i64 0, .int .i64 0, .int .i64 0, .int .i64 0, .int .i64 0, .int .i64 0, .int .i64 0, .int .i64 0, .int .i64 0, .int .i64 0, .int .i64 0, .int .i64 0, .int .u64 0, .int .u64 0, .int .u64 0] 51)))
            have OD : Hid (Odd (wc.alloc (.cells #[.pointer none, .int .i64 0, .int .i64 0, .int .i64 0, .int .i64 0, .int .i64 0, .int .i64 0, .int .i64 0, .int .i64 0, .int .i64 0, .int .i64 0, .int .i64 0, .int .i64 0, .int .i64 0, .int .u64 0, .int .u64 0, .int .u64 0] 51)) (.pointer (some ⟨wc.heap.size, 0, none⟩))) := .inr ⟨_, rfl, cell_of_row _ _ 0 _ _ _ (heap_alloc_new wc (.cells #[.pointer none, .int .i64 0, .int .i64 0, .int .i64 0, .int .i64 0, .int .i64 0, .int .i64 0, .int .i64 0, .int .i64 0, .int .i64 0, .int .i64 0, .int .i64 0, .int .i64 0, .int .i64 0, .int .u64 0, .int .u64 0, .int .u64 0] 51))⟩
            generalize wc.alloc (.cells #[.pointer none, .int .i64 0, .int .i64 0, .int .i64 0, .int .i64 0, .int .i64 0, .int .i64 0, .int .i64 0, .int .i64 0, .int .i64 0, .int .i64 0, .int .i64 0, .int .i64 0, .int .i64 0, .int .u64 0, .int .u64 0, .int .u64 0] 51) = w12 at B12 OD ⊢
            go_wp2_with fail
            refine (append_not OD.out _ _ _).mono ?_; rintro e w' ⟨rfl, rfl⟩
            go_wp2_with fail
            refine (cut_not (.inl rfl) _).mono ?_; rintro e w' ⟨rfl, rfl⟩
            go_wp2_with fail
            refine (begin_not OD.out _).mono ?_; rintro e w' ⟨rfl, rfl⟩
            go_wp2_with fail
            refine (first_not (.inl rfl)).mono ?_; rintro e w' ⟨rfl, rfl⟩
            go_wp2_with fail
            refine (next_not OD.out).mono ?_; rintro e w' ⟨rfl, rfl⟩
            go_wp2_with fail
            refine (epoch_not OD.out).mono ?_; rintro e w' ⟨rfl, rfl⟩
            go_wp2_with fail
            refine (room_not (.inl rfl)).mono ?_; rintro e w' ⟨rfl, rfl⟩
            go_wp2_with fail
            refine (room_not OD.out).mono ?_; rintro e w' ⟨rfl, rfl⟩
            go_wp2_with fail
            refine (awake_any _ (HE.out.below B12.out)).mono ?_; rintro e w13 ⟨rfl, b13⟩
            have B13 := Lib.hid (bthen B12.out b13)
            clear b13
            go_wp2
            go_ret
            exact ⟨rfl, B13.out⟩
          · have hT := T2.out h0
            subst hT
            have h0b : (c0 == 0) = false := by simpa using h0
            clear T1 T2 CB
            go_wp2_with fail
            refine (append_not (.inl rfl) _ _ _).mono ?_; rintro e w' ⟨rfl, rfl⟩
            have B12 := Lib.hid (bthen B11.out (balloc wc (.cells #[.pointer none, .int .i64 0, .int .i64 0, .int .i64 0, .int .i64 0, .int .i64 0, .int .i64 0, .int .i64 0, .int .i64 0, .int .i64 0, .int .i64 0, .int .i64 0, .int .i64 0, .int .i64 0, .int .u64 0, .int .u64 0, .int .u64 0] 51)))
            have OD : Hid (Odd (wc.alloc (.cells #[.pointer none, .int .i64 0, .int .i64 0, .int .i64 0, .int .i64 0, .int .i64 0, .int .i64 0, .int .i64 0, .int .i64 0, .int .i64 0, .int .i64 0, .int .i64 0, .int .i64 0, .int .i64 0, .int .u64 0, .int .u64 0, .int .u64 0] 51)) (.pointer (some ⟨wc.heap.size, 0, none⟩))) := .inr ⟨_, rfl, cell_of_row _ _ 0 _ _ _ (heap_alloc_new wc (.cells #[.pointer none, .int .i64 0, .int .i64 0, .int .i64 0, .int .i64 0, .int .i64 0, .int .i64 0, .int .i64 0, .int .i64 0, .int .i64 0, .int .i64 0, .int .i64 0, .int .i64 0, .int .i64 0, .int .u64 0, .int .u64 0, .int .u64 0] 51))⟩
            generalize wc.alloc (.cells #[.pointer none, .int .i64 0, .int .i64 0, .int .i64 0, .int .i64 0, .int .i64 0, .int .i64 0, .int .i64 0, .int .i64 0, .int .i64 0, .int .i64 0, .int .i64 0, .int .i64 0, .int .i64 0, .int .u64 0, .int .u64 0, .int .u64 0] 51) = w12 at B12 OD ⊢
            go_wp2_with fail
            refine (append_not OD.out _ _ _).mono ?_; rintro e w' ⟨rfl, rfl⟩
            go_wp2_with fail
            refine (cut_not (.inl rfl) _).mono ?_; rintro e w' ⟨rfl, rfl⟩
            go_wp2_with fail
            refine (begin_not OD.out _).mono ?_; rintro e w' ⟨rfl, rfl⟩
            go_wp2_with fail
            refine (first_not (.inl rfl)).mono ?_; rintro e w' ⟨rfl, rfl⟩
            go_wp2_with fail
            refine (next_not OD.out).mono ?_; rintro e w' ⟨rfl, rfl⟩
            go_wp2_with fail
            refine (epoch_not OD.out).mono ?_; rintro e w' ⟨rfl, rfl⟩
            go_wp2_with fail
            refine (room_not (.inl rfl)).mono ?_; rintro e w' ⟨rfl, rfl⟩
            go_wp2_with fail
            refine (room_not OD.out).mono ?_; rintro e w' ⟨rfl, rfl⟩
            go_wp2_with fail
            refine (awake_any _ (HE.out.below B12.out)).mono ?_; rintro e w13 ⟨rfl, b13⟩
            have B13 := Lib.hid (bthen B12.out b13)
            clear b13
            go_wp2
            go_ret
            exact ⟨rfl, B13.out⟩
        · have hco := CB.out.1 rfl
          have hT := T2.out (by rw [hco]; decide)
          subst hco hT
          clear T1 T2 CB
          go_wp2_with fail
          refine (append_not (.inl rfl) _ _ _).mono ?_; rintro e w' ⟨rfl, rfl⟩
          have B12 := Lib.hid (bthen B11.out (balloc wc (.cells #[.pointer none, .int .i64 0, .int .i64 0, .int .i64 0, .int .i64 0, .int .i64 0, .int .i64 0, .int .i64 0, .int .i64 0, .int .i64 0, .int .i64 0, .int .i64 0, .int .i64 0, .int .i64 0, .int .u64 0, .int .u64 0, .int .u64 0] 51)))
          have OD : Hid (Odd (wc.alloc (.cells #[.pointer none, .int .i64 0, .int .i64 0, .int .i64 0, .int .i64 0, .int .i64 0, .int .i64 0, .int .i64 0, .int .i64 0, .int .i64 0, .int .i64 0, .int .i64 0, .int .i64 0, .int .i64 0, .int .u64 0, .int .u64 0, .int .u64 0] 51)) (.pointer (some ⟨wc.heap.size, 0, none⟩))) := .inr ⟨_, rfl, cell_of_row _ _ 0 _ _ _ (heap_alloc_new wc (.cells #[.pointer none, .int .i64 0, .int .i64 0, .int .i64 0, .int .i64 0, .int .i64 0, .int .i64 0, .int .i64 0, .int .i64 0, .int .i64 0, .int .i64 0, .int .i64 0, .int .i64 0, .int .i64 0, .int .u64 0, .int .u64 0, .int .u64 0] 51))⟩
          generalize wc.alloc (.cells #[.pointer none, .int .i64 0, .int .i64 0, .int .i64 0, .int .i64 0, .int .i64 0, .int .i64 0, .int .i64 0, .int .i64 0, .int .i64 0, .int .i64 0, .int .i64 0, .int .i64 0, .int .i64 0, .int .u64 0, .int .u64 0, .int .u64 0] 51) = w12 at B12 OD ⊢
          go_wp2_with fail
          refine (append_not OD.out _ _ _).mono ?_; rintro e w' ⟨rfl, rfl⟩
          go_wp2_with fail
          refine (cut_not (.inl rfl) _).mono ?_; rintro e w' ⟨rfl, rfl⟩
          go_wp2_with fail
          refine (begin_not OD.out _).mono ?_; rintro e w' ⟨rfl, rfl⟩
          go_wp2_with fail
          refine (first_not (.inl rfl)).mono ?_; rintro e w' ⟨rfl, rfl⟩
          go_wp2_with fail
          refine (next_not OD.out).mono ?_; rintro e w' ⟨rfl, rfl⟩
          go_wp2_with fail
          refine (epoch_not OD.out).mono ?_; rintro e w' ⟨rfl, rfl⟩
          go_wp2_with fail
          refine (room_not (.inl rfl)).mono ?_; rintro e w' ⟨rfl, rfl⟩
          go_wp2_with fail
          refine (room_not OD.out).mono ?_; rintro e w' ⟨rfl, rfl⟩
          go_wp2_with fail
          refine (awake_any _ (HE.out.below B12.out)).mono ?_; rintro e w13 ⟨rfl, b13⟩
          have B13 := Lib.hid (bthen B12.out b13)
          clear b13
          go_wp2
          go_ret
          exact ⟨rfl, B13.out⟩
theorem makes_law (W : World) (a0 : Int) (w0 : (Lit.int .u16 a0).wf = true) (a1 : Int) (w1 : (Lit.int .u16 a1).wf = true) (a2 : Int) (w2 : (Lit.int .u64 a2).wf = true) (a3 : Int) (w3 : (Lit.int .u64 a3).wf = true) (a4 : Bool) (he : Env W) :
    Calls Tryd.prog 3 #[.int .u16 a0, .int .u16 a1, .int .u64 a2, .int .u64 a3, .bool a4] W fun e w' => e = .returned (.bool true) ∧ Below W.heap.size W w' := by
  simp [Lit.wf, IntKind.min, IntKind.max, IntKind.signed, IntKind.bits] at w0 w1 w2 w3
  obtain ⟨x, rfl⟩ := Int.eq_ofNat_of_zero_le w0.1
  obtain ⟨y, rfl⟩ := Int.eq_ofNat_of_zero_le w1.1
  obtain ⟨f, rfl⟩ := Int.eq_ofNat_of_zero_le w2.1
  obtain ⟨e, rfl⟩ := Int.eq_ofNat_of_zero_le w3.1
  exact makes_walk x y f e a4 (by omega) (by omega) (by omega) (by omega) W he
end Go.Proofs.YtikbbikcacoobaaDoor.Pd.Iv
