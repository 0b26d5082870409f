/-
  The walk of the statement on what is no store. No conditions.
-/
import Derived.Test.YtapklelkcicjlaaGreatDoorSlAwake
import Derived.Test.YtapklelkcicjlaaGreatDoorSlOdd
import Derived.Deep.CutRange
namespace Go.Proofs.YtapklelkcicjlaaGreatDoor.Pd.Sl
set_option maxRecDepth 100000
open Go.RowKit Oc Dm W Dw Sr Gt W.Hd
set_option linter.unusedVariables false
set_option maxRecDepth 100000
attribute [local go_sem ↓] Go.wp_at_zero Go.wp_at_succ
theorem odd_below {w w' : World} {x : Value} (h : Odd w x) (hb : Below w.heap.size w w') : Odd w' x := by
  rcases h with h | ⟨T, h, c⟩
  · exact .inl h
  · exact .inr ⟨T, h, (hb.cell (p := ⟨T, 0, none⟩) (World.block_lt_of_cell? w _ c)).trans c⟩
section
variable {w : World} {F : Nat → Prop} {D pw n la ns k : Nat} {p : Pn.Pl} {m : Vs}
/-- what Open answers on a new device of k sectors -/
theorem open_new (h : PD w F D pw k 0 m) (he : EBl w F pw pw) (hp : Pln p la ns n) (hm : m.s.off = false → m = m00) (c : Int) (hc : c = chk k p.a12 m.s.off) :
    Calls Tryz.prog 21 #[.pointer (some ⟨D, 0, none⟩), (.agg #[.int .i64 p.a0, .int .i64 p.a1, .int .i64 p.a2, .int .i64 p.a3, .int .i64 p.a4, .int .i64 p.a5, .int .i64 p.a6, .int .i64 p.a7, .int .i64 p.a8, .int .i64 p.a9, .int .i64 p.a10, .int .i64 p.a11, .int .i64 p.a12])] w fun e w' => ∃ T, e = .returned (.tuple #[.pointer T, .int .i64 c]) ∧ (c = 0 → ∃ t, T = some ⟨t, 0, none⟩) ∧ (¬ c = 0 → T = none) ∧ PD w' F D pw k 0 m ∧ Chg F w w' := by
  by_cases h0 : c = 0
  · subst h0
    have hcc := hc
    unfold chk at hcc
    split at hcc
    · cases hcc
    · rename_i hn
      split at hcc
      · cases hcc
      · rename_i ho
        have ho : m.s.off = false := by simpa using ho
        have hkn : k = n := by have := hp.h12; omega
        subst hkn
        have hm0 := hm ho
        subst hm0
        exact (open_yes h he hp ho (fresh ns, m00) (opn_blank la ns 0)).mono fun e w' ⟨t, g, e1, _, _, _, e4, e5⟩ => ⟨_, e1, fun _ => ⟨_, rfl⟩, fun x => absurd rfl x, e4, e5⟩
  · exact (open_no h c hc h0).mono fun e w' ⟨e1, e2⟩ => ⟨none, e1, fun x => absurd x h0, fun _ => rfl, h.below e2, Chg.of_below e2⟩
end
set_option maxHeartbeats 8000000 in
theorem makes_walk (x s : Nat) (off : Bool) (hx : x ≤ 65535) (hs : s ≤ 65535) (w : World) (he : EnvH w) :
    Calls Tryz.prog 5 #[.int .u16 (x : Int), .int .u16 (s : Int), .bool off] w fun e w' => e = .returned (.bool true) ∧ Below w.heap.size w w' := by
  obtain ⟨sm, hsm⟩ : ∃ f : Nat, (s : Int) % 700 = (f : Int) := ⟨s % 700, by omega⟩
  have hs2 : sm ≤ 699 := by omega
  obtain ⟨c, hc⟩ : ∃ c, c = Pn.cfOf (1 + (0 : Int) % 512) (1 + (x : Int) % 192) (1 + (0 : Int) % 256) := ⟨_, rfl⟩
  obtain ⟨p, hp⟩ : ∃ p, p = Pn.planOf c.c0 c.c1 c.c2 := ⟨_, rfl⟩
  have hm : Pn.May c := by rw [hc]; exact ⟨⟨(show (1 : Int) ≤ 1 by decide), (show (1 : Int) ≤ 512 by decide)⟩, ⟨by show 1 ≤ 1 + (x : Int) % 192; omega, by show 1 + (x : Int) % 192 ≤ 192; omega⟩, ⟨(show (1 : Int) ≤ 1 by decide), (show (1 : Int) ≤ 256 by decide)⟩, ⟨(show (1 : Int) ≤ 10 by decide), (show (10 : Int) ≤ 4096 by decide)⟩, ⟨(show (0 : Int) ≤ 100 by decide), (show (100 : Int) ≤ 1048576 by decide)⟩, ⟨(show (0 : Int) ≤ 0 by decide), (show (0 : Int) ≤ 1048576 by decide)⟩⟩
  obtain ⟨la, hP0⟩ := pln_any x c hc p hp
  obtain ⟨ns, hns⟩ : ∃ ns, ns = 1 + x % 192 := ⟨_, rfl⟩
  obtain ⟨n, hn⟩ : ∃ n, n = la + 2 * ns := ⟨_, rfl⟩
  have hP : Pln p la ns n := by rw [hn, hns]; exact hP0
  have ONE := Lib.hid (show (#[.int .i64 c.c0, .int .i64 c.c1, .int .i64 c.c2, .int .i64 c.c3, .int .i64 c.c4, c.c5, c.c6, c.c7, c.c8, .int .i64 c.c9] : Array Value).all (fun x => x.oneCell') = true by rw [hc]; simp [Pn.cfOf, Value.oneCell'])
  have CONF := Lib.hid (fun w => Pn.conf_any 0 (x : Int) 0 c hc w (by decide) (by decide) (by omega) (by omega) (by decide) (by decide))
  have OF := Lib.hid (fun w => Pn.of_yes c p hp hm w)
  have ROF := Lib.hid (fun w => Pn.rof_any c p hp w hm.1.1 hm.1.2 hm.2.1.1 hm.2.1.2 hm.2.2.1.1 hm.2.2.1.2)
  have HE := Lib.hid he
  have HP := Lib.hid hP
  have hn2 : n ≤ 4096 := hP.hn2
  clear hc hp hP0 hP he hm hns hn
  go_enter Tryz.func5, Tryz.ntmps5
  go_wp2_with fail
  refine (CONF.out _).mono ?_; rintro e w1 ⟨rfl, b1⟩
  have B1 := Lib.hid b1
  clear b1
  go_wp2_with (first | ((with_reducible apply Pn.L_storeRow (N := 10) Pn.info_conf); exact rfl; exact rfl; exact heap_alloc_new _ _; exact rfl; exact rfl; (first | exact ONE.out | (simp [Value.oneCell'])); intro w2 h2 g2; have H2 := Lib.hid h2; have B2 := Lib.hid (bthen B1.out ((balloc _ _).grown g2 (by simp) (fun k e => by injection e with e; omega))); clear h2 g2) | ((with_reducible apply Pn.L_loadConf); exact rfl; exact H2.out; exact rfl))
  refine (OF.out _).mono ?_; rintro e w3 ⟨rfl, b3⟩
  have C3 := Lib.hid (kept_below H2.out b3)
  have B3 := Lib.hid (bthen B2.out b3)
  have Z1 : Hid (w.heap.size ≤ w1.heap.size) := B1.out.size
  have Z3 : Hid (w1.heap.size < w3.heap.size) := lt_of_heap C3.out
  clear b3 B1 B2 H2
  go_wp2_with fail
  refine (newpower_any _).mono ?_; rintro e w5 ⟨rfl, p5, b5, s5⟩
  have P5 := Lib.hid p5
  have C5 := Lib.hid (kept_below (kept_below C3.out (balloc w3 (.cells #[.int .i64 p.a0, .int .i64 p.a1, .int .i64 p.a2, .int .i64 p.a3, .int .i64 p.a4, .int .i64 p.a5, .int .i64 p.a6, .int .i64 p.a7, .int .i64 p.a8, .int .i64 p.a9, .int .i64 p.a10, .int .i64 p.a11, .int .i64 p.a12] 45))) b5)
  have X5 := Lib.hid (kept_below (heap_alloc_new w3 (.cells #[.int .i64 p.a0, .int .i64 p.a1, .int .i64 p.a2, .int .i64 p.a3, .int .i64 p.a4, .int .i64 p.a5, .int .i64 p.a6, .int .i64 p.a7, .int .i64 p.a8, .int .i64 p.a9, .int .i64 p.a10, .int .i64 p.a11, .int .i64 p.a12] 45)) b5)
  have B5 := Lib.hid (bthen (bthen B3.out (balloc w3 (.cells #[.int .i64 p.a0, .int .i64 p.a1, .int .i64 p.a2, .int .i64 p.a3, .int .i64 p.a4, .int .i64 p.a5, .int .i64 p.a6, .int .i64 p.a7, .int .i64 p.a8, .int .i64 p.a9, .int .i64 p.a10, .int .i64 p.a11, .int .i64 p.a12] 45))) b5)
  have Z5 : Hid ((w3.alloc (.cells #[.int .i64 p.a0, .int .i64 p.a1, .int .i64 p.a2, .int .i64 p.a3, .int .i64 p.a4, .int .i64 p.a5, .int .i64 p.a6, .int .i64 p.a7, .int .i64 p.a8, .int .i64 p.a9, .int .i64 p.a10, .int .i64 p.a11, .int .i64 p.a12] 45)).heap.size = w3.heap.size + 1) := World.size_alloc _ _
  generalize (w3.alloc (.cells #[.int .i64 p.a0, .int .i64 p.a1, .int .i64 p.a2, .int .i64 p.a3, .int .i64 p.a4, .int .i64 p.a5, .int .i64 p.a6, .int .i64 p.a7, .int .i64 p.a8, .int .i64 p.a9, .int .i64 p.a10, .int .i64 p.a11, .int .i64 p.a12] 45)).heap.size = pw at P5 Z5 s5 ⊢
  clear b5 p5 B3 C3
  go_wp2_with fail
  refine (new_pd P5.out (show sm ≤ 4096 by omega)).mono ?_; rintro e w6 ⟨D, rfl, hD, p6, b6⟩
  have P6 := Lib.hid p6
  have B6 := Lib.hid (bthen B5.out b6)
  have X6 := Lib.hid (kept_below X5.out b6)
  have C6 := Lib.hid (kept_below C5.out b6)
  have FR : Hid (∀ b, Al (Fresh w5 w6) pw b → w3.heap.size < b) := fun b y => by
    have := Z5.out
    have : w5.heap.size = pw + 1 := s5
    rcases y with y | y
    · have := y.1; omega
    · subst y; omega
  generalize Fresh w5 w6 = F at P6 FR
  clear b6 p6 hD B5 X5 C5 P5 s5
  have S7 : ∃ m7 : Vs, m7.s.off = off ∧ (m7.s.off = false → m7 = m00) ∧ m7 = (if off = true then { m00 with s := { m00.s with off := true } } else m00) := by
    cases off
    · exact ⟨m00, rfl, fun _ => rfl, rfl⟩
    · exact ⟨{ m00 with s := { m00.s with off := true } }, rfl, (fun h => by cases h), rfl⟩
  obtain ⟨m7, ho7, hm7, he7⟩ := S7
  obtain ⟨c0, hc0⟩ : ∃ c0 : Int, c0 = chk sm p.a12 m7.s.off := ⟨_, rfl⟩
  have HC0 := Lib.hid hc0
  have HM7 := Lib.hid hm7
  have HO7 := Lib.hid ho7
  have HE7 := Lib.hid he7
  clear hc0 hm7 ho7 he7
  go_upto_if 43 with fail
  go_cut [11] from 43 to 45 (fun s11 wc => s11 = .pointer (some ⟨D, 0, none⟩) ∧ Hid (∃ F7, PD wc F7 D pw sm 0 m7 ∧ (∀ b, Al F7 pw b → w3.heap.size < b) ∧ Below w.heap.size w wc ∧ wc.heap[w3.heap.size]? = some (.cells #[.int .i64 p.a0, .int .i64 p.a1, .int .i64 p.a2, .int .i64 p.a3, .int .i64 p.a4, .int .i64 p.a5, .int .i64 p.a6, .int .i64 p.a7, .int .i64 p.a8, .int .i64 p.a9, .int .i64 p.a10, .int .i64 p.a11, .int .i64 p.a12] 45 (0, 0)) ∧ wc.heap[w1.heap.size]? = some (.cells #[.int .i64 c.c0, .int .i64 c.c1, .int .i64 c.c2, .int .i64 c.c3, .int .i64 c.c4, c.c5, c.c6, c.c7, c.c8, .int .i64 c.c9] 77 (0, 0))))
  case first =>
    cases off
    · go_wp2
      go_meet
      exact ⟨rfl, F, by rw [HE7.out]; exact P6.out, FR.out, B6.out, X6.out, C6.out⟩
    · go_wp2_with fail
      refine (cut_any P6.out.pw).mono ?_; rintro e w7 ⟨rfl, q7, g7, _⟩
      obtain ⟨p7, k7⟩ := P6.out.pow q7 g7 (Nat.le_refl _) (by decide) (by decide)
      have P7 : Hid (PD w7 (Ext F w6 w7) D pw sm 0 m7) := by rw [HE7.out]; exact p7
      have X7 := Lib.hid ((k7.block _ (lt_of_heap X6.out) (fun y => by have := FR.out _ y; omega)).trans X6.out)
      have C7 := Lib.hid ((k7.block _ (lt_of_heap C6.out) (fun y => by have := FR.out _ y; have := Z3.out; omega)).trans C6.out)
      have FR7 : Hid (∀ b, Al (Ext F w6 w7) pw b → w3.heap.size < b) := fun b y => by
        rcases y with (y | y) | y
        · exact FR.out b (.inl y)
        · have := y.1; have := lt_of_heap X6.out; omega
        · exact FR.out b (.inr y)
      have B7 := Lib.hid (B6.out.trans (k7.below B6.out.size (fun b hb y => by have := FR.out b y; have := Z3.out; have := Z1.out; omega)))
      clear q7 g7 p7 k7
      go_wp2
      go_meet
      exact ⟨rfl, Ext F w6 w7, P7.out, FR7.out, B7.out, X7.out, C7.out⟩
  case rest =>
    obtain ⟨rfl, hcc⟩ := hcut
    obtain ⟨F7, p7, fr7, b7, x7, cc7⟩ := hcc
    have P7 := Lib.hid p7
    have X7 := Lib.hid x7
    have C7 := Lib.hid cc7
    have FR7 := Lib.hid fr7
    have B7 := Lib.hid b7
    clear p7 x7 cc7 fr7 b7 P6 X6 C6 FR B6
    have EG : Hid (EBl wc F7 pw pw) := ⟨HE.out.below B7.out, fun b y => by
      obtain ⟨⟨t, fr, hh⟩, t2, fr2, hh2⟩ := HE.out
      have := lt_of_heap hh
      have := lt_of_heap hh2
      have : w3.heap.size < b := y.elim (fun y => FR7.out b y) (fun e => e ▸ FR7.out pw (.inr rfl))
      have := Z3.out
      have := Z1.out
      omega⟩
    go_wp2_with ((with_reducible apply Pn.L_loadMap); exact rfl; exact X7.out; exact rfl)
    refine (open_new P7.out EG.out HP.out HM7.out c0 HC0.out).mono ?_; rintro e w8 ⟨T, rfl, t1, t2, p8, k8⟩
    have P8 := Lib.hid p8
    have T1 := Lib.hid t1
    have T2 := Lib.hid t2
    have X8 := Lib.hid ((k8.block _ (lt_of_heap X7.out) (fun y => by have := FR7.out _ (.inl y); omega)).trans X7.out)
    have C8 := Lib.hid ((k8.block _ (lt_of_heap C7.out) (fun y => by have := FR7.out _ (.inl y); have := Z3.out; omega)).trans C7.out)
    have B8 := Lib.hid (B7.out.trans (k8.below B7.out.size (fun b hb y => by have := FR7.out b (.inl y); have := Z3.out; have := Z1.out; omega)))
    clear p8 k8 t1 t2 X7 C7 B7 P7
    go_wp2_with ((with_reducible apply Pn.L_loadMap); exact rfl; exact X8.out; exact rfl)
    refine (open_nil p _).mono ?_; rintro e w9 ⟨rfl, b9⟩
    have P9 := Lib.hid (P8.out.below b9)
    have C9 := Lib.hid (kept_below C8.out b9)
    have B9 := Lib.hid (bthen B8.out b9)
    clear b9 X8 C8 B8 P8
    go_wp2_with fail
    refine (open_no (p := Pn.noPlan) P9.out 1 (by unfold chk; rw [if_pos (.inl rfl)]) (by decide)).mono ?_; rintro e w10 ⟨rfl, b10⟩
    have C10 := Lib.hid (kept_below C9.out b10)
    have B10 := Lib.hid (bthen B9.out b10)
    clear b10 C9 B9 P9
    obtain ⟨ow, how⟩ : ∃ ow : Int, ow = if off = true then 80 else 0 := ⟨_, rfl⟩
    have HCH : Hid ((sm = n → c0 = ow) ∧ (¬ sm = n → c0 = 1)) := by
      have h12 := HP.out.h12
      have hl1 := HP.out.hl
      have hn1 := HP.out.hn
      have h := HC0.out
      unfold chk at h
      rw [HO7.out, ← how] at h
      exact ⟨fun e => by rw [h, if_neg (by rintro (x | x) <;> omega)], fun e => by rw [h, if_pos (.inr (by omega))]⟩
    have HOW := Lib.hid how
    clear how HC0 HM7 HE7 HO7
    go_upto_if 63 with fail
    go_cut [19] from 63 to 63 (fun s19 wc => s19 = .int .i64 ow ∧ wc = w10)
    case first =>
      cases off
      · go_wp2
        go_meet
        exact ⟨by rw [HOW.out]; rfl, rfl⟩
      · go_wp2
        go_meet
        exact ⟨by rw [HOW.out]; rfl, rfl⟩
    case rest =>
      obtain ⟨rfl, hw⟩ := hcut
      subst hw
      go_wp2_with ((with_reducible apply Pn.L_loadConf); exact rfl; exact C10.out; exact rfl)
      refine (ROF.out _).mono ?_; rintro e w11 ⟨rfl, b11⟩
      have B11 := Lib.hid (bthen B10.out b11)
      have hfd : (Instr.field 41 (.agg #[.int .i64 p.a0, .int .i64 p.a1, .int .i64 p.a2, .int .i64 p.a3, .int .i64 p.a4, .int .i64 p.a5, .int .i64 p.a6, .int .i64 p.a7, .int .i64 p.a8, .int .i64 p.a9, .int .i64 p.a10, .int .i64 p.a11, .int .i64 p.a12]) 11).run Tryz.prog w11 = .ok (.int .i64 (n : Int)) w11 := by rw [field_11, HP.out.h12]
      clear b11 HOW C10 B10
      go_upto_if 70 with fail
      go_cut [19] from 64 to 70 (fun s19 wx => s19 = .int .i64 c0 ∧ wx = w11)
      case first =>
        by_cases hq : sm = n
        · have hc0 := HCH.out.1 hq
          subst hq hc0
          go_wp2
          go_meet
          exact ⟨rfl, rfl⟩
        · have hc0 := HCH.out.2 hq
          have hq2 : ¬ (sm : Int) = (n : Int) := by omega
          subst hc0
          go_wp2
          go_meet
          exact ⟨rfl, rfl⟩
      case rest =>
        obtain ⟨rfl, hw⟩ := hcut
        subst hw
        clear HCH hfd
        by_cases h0 : c0 = 0
        · obtain ⟨tt, hT⟩ := T1.out h0
          subst hT h0
          clear T1 T2
          go_upto_region 17 with fail
          have B12 := Lib.hid (bthen B11.out (balloc wc (.cells #[.pointer none, .int .i64 0, .int .i64 0, .int .i64 0, .int .i64 0, .int .i64 0, .int .i64 0, .int .i64 0, .int .i64 0, .int .i64 0, .int .i64 0, .int .i64 0, .int .i64 0, .int .i64 0, .slice none 0 0] 87)))
          have OD : Hid (Odd (wc.alloc (.cells #[.pointer none, .int .i64 0, .int .i64 0, .int .i64 0, .int .i64 0, .int .i64 0, .int .i64 0, .int .i64 0, .int .i64 0, .int .i64 0, .int .i64 0, .int .i64 0, .int .i64 0, .int .i64 0, .slice none 0 0] 87)) (.pointer (some ⟨wc.heap.size, 0, none⟩))) := .inr ⟨_, rfl, cell_of_row _ _ 0 _ _ _ (heap_alloc_new wc (.cells #[.pointer none, .int .i64 0, .int .i64 0, .int .i64 0, .int .i64 0, .int .i64 0, .int .i64 0, .int .i64 0, .int .i64 0, .int .i64 0, .int .i64 0, .int .i64 0, .int .i64 0, .int .i64 0, .slice none 0 0] 87))⟩
          generalize hb12 : wc.heap.size = b12 at OD ⊢
          clear hb12
          generalize wc.alloc (.cells #[.pointer none, .int .i64 0, .int .i64 0, .int .i64 0, .int .i64 0, .int .i64 0, .int .i64 0, .int .i64 0, .int .i64 0, .int .i64 0, .int .i64 0, .int .i64 0, .int .i64 0, .int .i64 0, .slice none 0 0] 87) = w12 at B12 OD ⊢
          go_wp2_with fail
          refine (read_odd (.inl rfl) _ _).mono ?_; rintro e w' ⟨rfl, rfl⟩
          go_wp2_with fail
          have B13 := Lib.hid (bthen B12.out (balloc w12 (.cells #[.int .i64 0] 3)))
          have OD2 : Hid (Odd (w12.alloc (.cells #[.int .i64 0] 3)) (.pointer (some ⟨b12, 0, none⟩))) := odd_below OD.out (balloc _ _)
          refine (least_odd OD2.out (cell_of_row _ _ 0 _ _ _ (heap_alloc_new w12 (.cells #[.int .i64 0] 3)))).mono ?_; rintro e w' ⟨rfl, rfl⟩
          generalize w12.alloc (.cells #[.int .i64 0] 3) = w13 at B13 OD2 ⊢
          go_wp2_with fail
          refine (fill_nil _ _ _ 1 _).mono ?_; rintro e w14 ⟨rfl, b14⟩
          have B14 := Lib.hid (bthen B13.out b14)
          have OD3 := Lib.hid (odd_below OD2.out b14)
          clear b14 OD OD2 B12 B13
          go_wp2_with fail
          refine (free_odd OD3.out _).mono ?_; rintro e w' ⟨rfl, rfl⟩
          go_wp2_with fail
          refine (fault_odd (.inl rfl) _).mono ?_; rintro e w' ⟨rfl, rfl⟩
          go_wp2_with fail
          refine (bad_odd OD3.out _).mono ?_; rintro e w' ⟨rfl, rfl⟩
          go_wp2_with fail
          refine (heal_odd (.inl rfl)).mono ?_; rintro e w' ⟨rfl, rfl⟩
          go_wp2_with fail
          refine (len_not OD3.out).mono ?_; rintro e w' ⟨rfl, rfl⟩
          go_wp2_with fail
          refine (wear_odd (.inl rfl) _).mono ?_; rintro e w' ⟨rfl, rfl⟩
          go_wp2_with fail
          refine (total_odd OD3.out).mono ?_; rintro e w' ⟨rfl, rfl⟩
          go_wp2_with fail
          refine (awake_any _ (HE.out.below B14.out)).mono ?_; rintro e w15 ⟨rfl, b15⟩
          have B15 := Lib.hid (bthen B14.out b15)
          clear b15
          go_wp2
          go_ret
          exact ⟨rfl, B15.out⟩
        · have hT := T2.out h0
          subst hT
          have h0b : (c0 == 0) = false := by simpa using h0
          clear T1 T2
          go_upto_region 17 with fail
          have B12 := Lib.hid (bthen B11.out (balloc wc (.cells #[.pointer none, .int .i64 0, .int .i64 0, .int .i64 0, .int .i64 0, .int .i64 0, .int .i64 0, .int .i64 0, .int .i64 0, .int .i64 0, .int .i64 0, .int .i64 0, .int .i64 0, .int .i64 0, .slice none 0 0] 87)))
          have OD : Hid (Odd (wc.alloc (.cells #[.pointer none, .int .i64 0, .int .i64 0, .int .i64 0, .int .i64 0, .int .i64 0, .int .i64 0, .int .i64 0, .int .i64 0, .int .i64 0, .int .i64 0, .int .i64 0, .int .i64 0, .int .i64 0, .slice none 0 0] 87)) (.pointer (some ⟨wc.heap.size, 0, none⟩))) := .inr ⟨_, rfl, cell_of_row _ _ 0 _ _ _ (heap_alloc_new wc (.cells #[.pointer none, .int .i64 0, .int .i64 0, .int .i64 0, .int .i64 0, .int .i64 0, .int .i64 0, .int .i64 0, .int .i64 0, .int .i64 0, .int .i64 0, .int .i64 0, .int .i64 0, .int .i64 0, .slice none 0 0] 87))⟩
          generalize hb12 : wc.heap.size = b12 at OD ⊢
          clear hb12
          generalize wc.alloc (.cells #[.pointer none, .int .i64 0, .int .i64 0, .int .i64 0, .int .i64 0, .int .i64 0, .int .i64 0, .int .i64 0, .int .i64 0, .int .i64 0, .int .i64 0, .int .i64 0, .int .i64 0, .int .i64 0, .slice none 0 0] 87) = w12 at B12 OD ⊢
          go_wp2_with fail
          refine (read_odd (.inl rfl) _ _).mono ?_; rintro e w' ⟨rfl, rfl⟩
          go_wp2_with fail
          have B13 := Lib.hid (bthen B12.out (balloc w12 (.cells #[.int .i64 0] 3)))
          have OD2 : Hid (Odd (w12.alloc (.cells #[.int .i64 0] 3)) (.pointer (some ⟨b12, 0, none⟩))) := odd_below OD.out (balloc _ _)
          refine (least_odd OD2.out (cell_of_row _ _ 0 _ _ _ (heap_alloc_new w12 (.cells #[.int .i64 0] 3)))).mono ?_; rintro e w' ⟨rfl, rfl⟩
          generalize w12.alloc (.cells #[.int .i64 0] 3) = w13 at B13 OD2 ⊢
          go_wp2_with fail
          refine (fill_nil _ _ _ 1 _).mono ?_; rintro e w14 ⟨rfl, b14⟩
          have B14 := Lib.hid (bthen B13.out b14)
          have OD3 := Lib.hid (odd_below OD2.out b14)
          clear b14 OD OD2 B12 B13
          go_wp2_with fail
          refine (free_odd OD3.out _).mono ?_; rintro e w' ⟨rfl, rfl⟩
          go_wp2_with fail
          refine (fault_odd (.inl rfl) _).mono ?_; rintro e w' ⟨rfl, rfl⟩
          go_wp2_with fail
          refine (bad_odd OD3.out _).mono ?_; rintro e w' ⟨rfl, rfl⟩
          go_wp2_with fail
          refine (heal_odd (.inl rfl)).mono ?_; rintro e w' ⟨rfl, rfl⟩
          go_wp2_with fail
          refine (len_not OD3.out).mono ?_; rintro e w' ⟨rfl, rfl⟩
          go_wp2_with fail
          refine (wear_odd (.inl rfl) _).mono ?_; rintro e w' ⟨rfl, rfl⟩
          go_wp2_with fail
          refine (total_odd OD3.out).mono ?_; rintro e w' ⟨rfl, rfl⟩
          go_wp2_with fail
          refine (awake_any _ (HE.out.below B14.out)).mono ?_; rintro e w15 ⟨rfl, b15⟩
          have B15 := Lib.hid (bthen B14.out b15)
          clear b15
          go_wp2
          go_ret
          exact ⟨rfl, B15.out⟩
theorem makes_law (W : World) (a0 : Int) (w0 : (Lit.int .u16 a0).wf = true) (a1 : Int) (w1 : (Lit.int .u16 a1).wf = true) (a2 : Bool) (he : EnvH W) :
    Calls Tryz.prog 5 #[.int .u16 a0, .int .u16 a1, .bool a2] W fun e w' => e = .returned (.bool true) ∧ Below W.heap.size W w' := by
  simp [Lit.wf, IntKind.min, IntKind.max, IntKind.signed, IntKind.bits] at w0 w1
  obtain ⟨x, rfl⟩ := Int.eq_ofNat_of_zero_le w0.1
  obtain ⟨y, rfl⟩ := Int.eq_ofNat_of_zero_le w1.1
  exact makes_walk x y a2 (by omega) (by omega) W he
end Go.Proofs.YtapklelkcicjlaaGreatDoor.Pd.Sl
