/-
  Open; Append. No conditions.
-/
import Derived.Test.YtikbbikcacoobaaGreatDoorIvOpen
namespace Go.Proofs.YtikbbikcacoobaaGreatDoor.Pd.Iv
open Go.RowKit Oc Dm W Dw Sr
set_option linter.unusedVariables false
set_option maxRecDepth 100000
attribute [local go_sem ↓] Go.wp_at_zero Go.wp_at_succ

section
variable {w w' : World} {F : Nat → Prop} {D q n N la lg f ep : Nat} {m : Vs} {p : Pn.Pl}
theorem open_nil (p : Pn.Pl) (f e : Nat) (w : World) : Calls Tryz.prog 22 #[.pointer none, (.agg #[.int .i64 p.a0, .int .i64 p.a1, .int .i64 p.a2, .int .i64 p.a3, .int .i64 p.a4, .int .i64 p.a5, .int .i64 p.a6, .int .i64 p.a7, .int .i64 p.a8, .int .i64 p.a9, .int .i64 p.a10, .int .i64 p.a11, .int .i64 p.a12]), .int .u64 (f : Int), .int .u64 (e : Int)] w fun e w' => e = .returned (.tuple #[.pointer none, .slice none 0 0, .int .i64 2]) ∧ Below w.heap.size w w' := by
  go_enter Tryz.func22, Tryz.ntmps22
  go_wp2_with fail
  refine (check_nil p _ _ _).mono ?_; rintro e w1 ⟨rfl, b1⟩
  have B1 := Lib.hid (bthen (bthen (balloc w _) (balloc _ _)) b1)
  clear b1
  go_wp2
  go_ret3
  exact ⟨rfl, B1.out⟩
set_option maxHeartbeats 1000000 in
theorem open_no (h : PD w F D q n N m) (f e : Nat) (c : Int) (hc : c = chk n p.a12 f e m.s.off) (h0 : ¬ c = 0) : Calls Tryz.prog 22 #[.pointer (some ⟨D, 0, none⟩), (.agg #[.int .i64 p.a0, .int .i64 p.a1, .int .i64 p.a2, .int .i64 p.a3, .int .i64 p.a4, .int .i64 p.a5, .int .i64 p.a6, .int .i64 p.a7, .int .i64 p.a8, .int .i64 p.a9, .int .i64 p.a10, .int .i64 p.a11, .int .i64 p.a12]), .int .u64 (f : Int), .int .u64 (e : Int)] w fun e w' => e = .returned (.tuple #[.pointer none, .slice none 0 0, .int .i64 c]) ∧ Below w.heap.size w w' := by
  have H := Lib.hid h
  have HC := Lib.hid hc
  clear h hc
  go_enter Tryz.func22, Tryz.ntmps22
  go_wp2_with fail
  refine (check_any (H.out.below (bthen (balloc w (.cells #[.int .i64 p.a0, .int .i64 p.a1, .int .i64 p.a2, .int .i64 p.a3, .int .i64 p.a4, .int .i64 p.a5, .int .i64 p.a6, .int .i64 p.a7, .int .i64 p.a8, .int .i64 p.a9, .int .i64 p.a10, .int .i64 p.a11, .int .i64 p.a12] 43)) (balloc _ (.cells #[.pointer (some ⟨D, 0, none⟩), .int .i64 p.a0, .int .i64 p.a1, .int .i64 p.a2, .int .i64 p.a3, .int .i64 p.a4, .int .i64 p.a5, .int .i64 p.a6, .int .i64 p.a7, .int .i64 p.a8, .int .i64 p.a9, .int .i64 p.a10, .int .i64 p.a11, .int .i64 p.a12, .int .u64 (f : Int), .int .u64 (f : Int), .int .u64 (e : Int)] 101)))) f e c HC.out).mono ?_; rintro e w1 ⟨rfl, b1⟩
  have B1 := Lib.hid (bthen (bthen (balloc w _) (balloc _ _)) b1)
  clear b1
  go_wp2
  go_ret3
  exact ⟨rfl, B1.out⟩
set_option maxHeartbeats 2000000 in
theorem open_yes (h : PD w F D q n N m) (he : Env w) (hE : ∀ k, F k → 0 < k) (hp : Pln p la lg n) (hoff : m.s.off = false) (hn12 : (n : Int) = p.a12) (hf : f ≤ most) (hep : ep ≤ most) (R : List Rc × Vs) (hR : rdl la lg ep lg f 0 m = R) :
    Calls Tryz.prog 22 #[.pointer (some ⟨D, 0, none⟩), (.agg #[.int .i64 p.a0, .int .i64 p.a1, .int .i64 p.a2, .int .i64 p.a3, .int .i64 p.a4, .int .i64 p.a5, .int .i64 p.a6, .int .i64 p.a7, .int .i64 p.a8, .int .i64 p.a9, .int .i64 p.a10, .int .i64 p.a11, .int .i64 p.a12]), .int .u64 (f : Int), .int .u64 (ep : Int)] w fun e w' => ∃ A c, e = .returned (.tuple #[.pointer (some ⟨w.heap.size + 1, 0, none⟩), .slice A R.1.length c, .int .i64 0]) ∧ LgAt w' 101 (w.heap.size + 1) D p ⟨f, f + R.1.length, ep⟩ ∧ OwnS w' 31 5 (w.heap.size + 2) (.slice A R.1.length c) (R.1.map rcs) ∧ PD w' F D q n N R.2 ∧ Chg F w w' := by
  have H := Lib.hid h
  have HE := Lib.hid he
  have HG := Lib.hid hE
  have HP := Lib.hid hp
  have HR := Lib.hid hR
  have HB : Hid (∀ k, F k → k < w.heap.size) := fun k x => h.bound k (.inl x)
  have HF := Lib.hid hf
  have HEP := Lib.hid hep
  have HC : Hid (0 = chk n p.a12 f ep m.s.off) := by
    show (0 : Int) = _
    unfold chk
    rw [if_neg, hoff]
    · rfl
    · have := hp.h12
      have := hp.hn
      have := hp.hl
      rintro (x | x | x | x) <;> omega
  have RL : Hid (R.1.length ≤ 256) := by
    have := rdl_len (la := la) (lg := lg) (ep := ep) lg f 0 m
    rw [hR] at this
    exact Nat.le_trans this hp.hl2
  have hf2 : f ≤ 4611686014132420608 := hf
  clear h he hE hp hR hf hep hoff hn12
  go_enter Tryz.func22, Tryz.ntmps22
  go_wp2_with fail
  refine (check_any (H.out.below (bthen (balloc w (.cells #[.int .i64 p.a0, .int .i64 p.a1, .int .i64 p.a2, .int .i64 p.a3, .int .i64 p.a4, .int .i64 p.a5, .int .i64 p.a6, .int .i64 p.a7, .int .i64 p.a8, .int .i64 p.a9, .int .i64 p.a10, .int .i64 p.a11, .int .i64 p.a12] 43)) (balloc _ (.cells #[.pointer (some ⟨D, 0, none⟩), .int .i64 p.a0, .int .i64 p.a1, .int .i64 p.a2, .int .i64 p.a3, .int .i64 p.a4, .int .i64 p.a5, .int .i64 p.a6, .int .i64 p.a7, .int .i64 p.a8, .int .i64 p.a9, .int .i64 p.a10, .int .i64 p.a11, .int .i64 p.a12, .int .u64 (f : Int), .int .u64 (f : Int), .int .u64 (ep : Int)] 101)))) f ep 0 HC.out).mono ?_; rintro e w1 ⟨rfl, b1⟩
  have B1 := Lib.hid (bthen (bthen (balloc w (.cells #[.int .i64 p.a0, .int .i64 p.a1, .int .i64 p.a2, .int .i64 p.a3, .int .i64 p.a4, .int .i64 p.a5, .int .i64 p.a6, .int .i64 p.a7, .int .i64 p.a8, .int .i64 p.a9, .int .i64 p.a10, .int .i64 p.a11, .int .i64 p.a12] 43)) (balloc _ (.cells #[.pointer (some ⟨D, 0, none⟩), .int .i64 p.a0, .int .i64 p.a1, .int .i64 p.a2, .int .i64 p.a3, .int .i64 p.a4, .int .i64 p.a5, .int .i64 p.a6, .int .i64 p.a7, .int .i64 p.a8, .int .i64 p.a9, .int .i64 p.a10, .int .i64 p.a11, .int .i64 p.a12, .int .u64 (f : Int), .int .u64 (f : Int), .int .u64 (ep : Int)] 101))) b1)
  have S1 : Hid (w.heap.size + 2 ≤ w1.heap.size) := by have := b1.size; simp at this; show _ ≤ _; omega
  have X1 : Hid (LgAt w1 101 (w.heap.size + 1) D p ⟨f, f, ep⟩) := kept_below (heap_at_next w (.cells #[.int .i64 p.a0, .int .i64 p.a1, .int .i64 p.a2, .int .i64 p.a3, .int .i64 p.a4, .int .i64 p.a5, .int .i64 p.a6, .int .i64 p.a7, .int .i64 p.a8, .int .i64 p.a9, .int .i64 p.a10, .int .i64 p.a11, .int .i64 p.a12] 43) (.cells #[.pointer (some ⟨D, 0, none⟩), .int .i64 p.a0, .int .i64 p.a1, .int .i64 p.a2, .int .i64 p.a3, .int .i64 p.a4, .int .i64 p.a5, .int .i64 p.a6, .int .i64 p.a7, .int .i64 p.a8, .int .i64 p.a9, .int .i64 p.a10, .int .i64 p.a11, .int .i64 p.a12, .int .u64 (f : Int), .int .u64 (f : Int), .int .u64 (ep : Int)] 101)) b1
  clear b1
  go_wp2_with ((with_reducible apply L_ld); exact rfl; exact X1.out.place)
  refine (read_any (H.out.below B1.out) (HE.out.below B1.out) HG.out HP.out HF.out HEP.out R HR.out).mono ?_; rintro e w2 ⟨v, rfl, o2, p2, c2⟩
  obtain ⟨A, c, rfl, _, _⟩ := o2.form (n := R.1.length) (by rw [List.length_map])
  have O2 := Lib.hid o2
  have P2 := Lib.hid p2
  have C2 := Lib.hid c2
  have X2 := Lib.hid (X1.out.kept c2 (fun x => by have := HB.out _ x; omega))
  clear o2 p2 c2
  obtain ⟨x0, x14, x15, x16, xf⟩ := X2.out.cells
  have rl := RL.out
  obtain ⟨k, hk⟩ : ∃ k, R.1.length = k := ⟨_, rfl⟩
  rw [hk] at O2 rl ⊢
  have HK := Lib.hid hk
  clear x0 x14 x16 hk RL
  dsimp only at x15
  go_wp2
  go_ret3
  have e : ((f : Int) + (k : Int)) = ((f + k : Nat) : Int) := by omega
  rw [e, HK.out]
  have gs := grown_set w2 (w.heap.size + 1) 15 (.int .u64 ((f + k : Nat) : Int))
  refine ⟨A, c, rfl, X2.out.set_n (f + k), ?_, ?_, ?_⟩
  · exact (O2.out.keep (fun g hg => gs.block g (O2.out.ge g hg).2 (fun e => by injection e with e; have := (O2.out.ge g hg).1; have := S1.out; omega))).more S1.out
  · exact pd_row HB.out H.out.pw.lt P2.out gs (fun b e => by injection e with e; omega)
  · exact chg_row ((Chg.of_below (F := F) B1.out).trans C2.out (fun _ _ x => x)) gs (fun b e => by injection e with e; omega)
end
section
variable {w w' : World} {F : Nat → Prop} {D q n N la lg T B : Nat} {m : Vs} {p : Pn.Pl} {g : Lg}
set_option maxHeartbeats 4000000 in
theorem append_any (h : PD w F D q n N m) (hl : LgAt w 101 T D p g) (hT : ¬ Al F q T) (he : Env w) (hp : Pln p la lg n) (hg : GOk B lg g) (hN : N + 1 ≤ 1000000) (x : Int) (gn : Nat) (mk : UInt8) (R : Int × Lg × Vs) (hR : app la lg ⟨g.nx, g.ep, x, gn, mk⟩ g m = R) :
    Calls Tryz.prog 13 #[.pointer (some ⟨T, 0, none⟩), .int .i64 x, .int .u64 (gn : Int), .int .u8 (mk.toNat : Int)] w fun e w' => e = .returned (.int .i64 R.1) ∧ PD w' (Ext F w w') D q n (N + 1) R.2.2 ∧ LgAt w' 101 T D p R.2.1 ∧ Chg (fun b => Al F q b ∨ b = T) w w' := by
  have H := Lib.hid h
  have HL := Lib.hid hl
  have HT := Lib.hid hT
  have HE := Lib.hid he
  have HP := Lib.hid hp
  have HG := Lib.hid hg
  have UP : Hid (∀ y, Below w.heap.size w y → PD y (Ext F w y) D q n (N + 1) m ∧ LgAt y 101 T D p g ∧ Chg (fun b => Al F q b ∨ b = T) w y) := fun y hb =>
    ⟨((h.below hb).more (Nat.le_succ _) hN).wide (fun _ z => .inl z) (ext_bound (fun k z => h.bound k (.inl z)) hb.size) (ext_np (w1 := w) h rfl), hl.below hb, Chg.of_below hb⟩
  have CS : Hid (∀ x : World, LgAt x 101 T D p g → x.cell? ⟨T, 0, none⟩ = some (.pointer (some ⟨D, 0, none⟩)) ∧ x.cell? ⟨T, 1, none⟩ = some (.int .i64 p.a0) ∧ x.cell? ⟨T, 2, none⟩ = some (.int .i64 p.a1) ∧ x.cell? ⟨T, 3, none⟩ = some (.int .i64 p.a2) ∧ x.cell? ⟨T, 4, none⟩ = some (.int .i64 p.a3) ∧ x.cell? ⟨T, 5, none⟩ = some (.int .i64 p.a4) ∧ x.cell? ⟨T, 6, none⟩ = some (.int .i64 p.a5) ∧ x.cell? ⟨T, 7, none⟩ = some (.int .i64 p.a6) ∧ x.cell? ⟨T, 8, none⟩ = some (.int .i64 p.a7) ∧ x.cell? ⟨T, 9, none⟩ = some (.int .i64 p.a8) ∧ x.cell? ⟨T, 10, none⟩ = some (.int .i64 p.a9) ∧ x.cell? ⟨T, 11, none⟩ = some (.int .i64 p.a10) ∧ x.cell? ⟨T, 12, none⟩ = some (.int .i64 p.a11) ∧ x.cell? ⟨T, 13, none⟩ = some (.int .i64 p.a12) ∧ x.cell? ⟨T, 15, none⟩ = some (.int .u64 (g.nx : Int)) ∧ x.cell? ⟨T, 16, none⟩ = some (.int .u64 (g.ep : Int))) := fun x H => ⟨H.cell 0 rfl, H.cell 1 rfl, H.cell 2 rfl, H.cell 3 rfl, H.cell 4 rfl, H.cell 5 rfl, H.cell 6 rfl, H.cell 7 rfl, H.cell 8 rfl, H.cell 9 rfl, H.cell 10 rfl, H.cell 11 rfl, H.cell 12 rfl, H.cell 13 rfl, H.cell 15 rfl, H.cell 16 rfl⟩
  have hr : room lg g = (lg : Int) - ((g.nx - g.f : Nat) : Int) := rfl
  have hg1 := hg.h1
  have hg2 := hg.h2
  have hB : g.nx ≤ 1000000000 := Nat.le_trans hg.h3 hg.h5
  clear h hl hT he hp hg
  by_cases hf : g.nx - g.f = lg
  · have t0 : (room lg g == 0) = true := by simp; omega
    have HR : Hid (R = (5, g, m)) := by show _ = _; rw [← hR]; unfold app; rw [if_pos hf]
    have T0 := Lib.hid t0
    clear hR hf t0 hr
    go_enter Tryz.func13, Tryz.ntmps13
    go_wp2_with fail
    refine (made_any HL.out).mono ?_; rintro e w' ⟨rfl, rfl⟩
    go_wp2_with fail
    refine (room_any HL.out HP.out HG.out).mono ?_; rintro e w1 ⟨rfl, b1⟩
    have B1 := Lib.hid b1
    have t0 := T0.out
    clear b1
    go_wp2
    go_ret
    rw [HR.out]
    exact ⟨rfl, UP.out _ B1.out⟩
  · have t0 : (room lg g == 0) = false := by simp; omega
    have T0 := Lib.hid t0
    clear t0 hr
    by_cases hm : MayBe ⟨g.nx, g.ep, x, gn, mk⟩
    · obtain ⟨v, m', hv⟩ : ∃ v m', wr1 m (la + g.nx % lg) (sect ⟨g.nx, g.ep, x, gn, mk⟩) = (v, m') := ⟨_, _, rfl⟩
      have HR : Hid (R = (v, (if v = 0 then ⟨g.f, g.nx + 1, g.ep⟩ else g), m')) := by show _ = _; rw [← hR]; unfold app; rw [if_neg hf, if_neg (fun z => z hm), hv]
      have KW : Hid (∀ y, Below w.heap.size w y → Calls Tryz.prog 47 #[(.agg #[.pointer (some ⟨D, 0, none⟩), .int .i64 p.a0, .int .i64 p.a1, .int .i64 p.a2, .int .i64 p.a3, .int .i64 p.a4, .int .i64 p.a5, .int .i64 p.a6, .int .i64 p.a7, .int .i64 p.a8, .int .i64 p.a9, .int .i64 p.a10, .int .i64 p.a11, .int .i64 p.a12]), .agg #[.int .u64 (g.nx : Int), .int .u64 (g.ep : Int), .int .i64 x, .int .u64 (gn : Int), .int .u8 (mk.toNat : Int)]] y fun e y' => e = .returned (.int .i64 v) ∧ PD y' (Ext F w y') D q n (N + 1) m' ∧ LgAt y' 101 T D p g ∧ Chg (Al F q) w y') := fun y hy =>
        (write_any (x := ⟨g.nx, g.ep, x, gn, mk⟩) (H.out.below hy) (HE.out.below hy) HP.out hN hm).mono fun e y' ⟨e1, e2, e3⟩ => by
          rw [show (⟨g.nx, g.ep, x, gn, mk⟩ : Rc).q = g.nx from rfl, hv] at e1 e2
          exact ⟨e1, H.out.from_ hy.size e3.size e2, (HL.out.below hy).kept e3 HT.out, (Chg.of_below (F := Al F q) hy).trans e3 (fun _ _ z => z)⟩
      clear hR hf hm hv
      go_enter Tryz.func13, Tryz.ntmps13
      go_wp2_with fail
      refine (made_any HL.out).mono ?_; rintro e w' ⟨rfl, rfl⟩
      go_wp2_with fail
      refine (room_any HL.out HP.out HG.out).mono ?_; rintro e w1 ⟨rfl, b1⟩
      have B1 := Lib.hid b1
      have L1 := Lib.hid (HL.out.below b1)
      have t0 := T0.out
      clear b1
      obtain ⟨c0, c1, c2, c3, c4, c5, c6, c7, c8, c9, c10, c11, c12, c13, c15, c16⟩ := CS.out _ L1.out
      go_wp2_with fail
      go_region_held (fun x => x.cell? ⟨T, 0, none⟩ = some (.pointer (some ⟨D, 0, none⟩)) ∧ x.cell? ⟨T, 1, none⟩ = some (.int .i64 p.a0) ∧ x.cell? ⟨T, 2, none⟩ = some (.int .i64 p.a1) ∧ x.cell? ⟨T, 3, none⟩ = some (.int .i64 p.a2) ∧ x.cell? ⟨T, 4, none⟩ = some (.int .i64 p.a3) ∧ x.cell? ⟨T, 5, none⟩ = some (.int .i64 p.a4) ∧ x.cell? ⟨T, 6, none⟩ = some (.int .i64 p.a5) ∧ x.cell? ⟨T, 7, none⟩ = some (.int .i64 p.a6) ∧ x.cell? ⟨T, 8, none⟩ = some (.int .i64 p.a7) ∧ x.cell? ⟨T, 9, none⟩ = some (.int .i64 p.a8) ∧ x.cell? ⟨T, 10, none⟩ = some (.int .i64 p.a9) ∧ x.cell? ⟨T, 11, none⟩ = some (.int .i64 p.a10) ∧ x.cell? ⟨T, 12, none⟩ = some (.int .i64 p.a11) ∧ x.cell? ⟨T, 13, none⟩ = some (.int .i64 p.a12) ∧ x.cell? ⟨T, 15, none⟩ = some (.int .u64 (g.nx : Int)) ∧ x.cell? ⟨T, 16, none⟩ = some (.int .u64 (g.ep : Int))) (first | go_keep | exact CS.out _ L2.out)
        (first
          | (go_at_call 47; (with_reducible refine (KW.out _ (bthen B1.out (bdrew _))).mono ?_); rintro e w2 ⟨rfl, p2, l2, k2⟩; have P2 := Lib.hid p2; have L2 := Lib.hid l2; have K2 := Lib.hid k2; clear p2 l2 k2))
      all_goals
        clear c0 c1 c2 c3 c4 c5 c6 c7 c8 c9 c10 c11 c12 c13 c15 c16 t0
        by_cases hv0 : v = 0
        · subst hv0
          obtain ⟨x0, x14, x15, x16, xf⟩ := L2.out.cells
          clear x0 x14 x16
          go_wp2
          go_ret
          rw [HR.out]
          have e : ((g.nx : Int) + 1) = ((g.nx + 1 : Nat) : Int) := by omega
          rw [e]
          have gs := grown_set w2 T 15 (.int .u64 ((g.nx + 1 : Nat) : Int))
          have cs : Chg (fun b => b = T) w2 (w2.setCell ⟨T, 15, none⟩ (.int .u64 ((g.nx + 1 : Nat) : Int))) := Chg.of_grown gs (fun k e _ => by injection e with e; exact e.symm)
          have hs : (w2.setCell ⟨T, 15, none⟩ (.int .u64 ((g.nx + 1 : Nat) : Int))).heap.size = w2.heap.size := by simp [World.setCell]
          refine ⟨rfl, ?_, L2.out.set_n (g.nx + 1), (K2.out.mono (fun _ _ z => .inl z)).trans cs (fun _ _ z => .inr z)⟩
          have e2 : Ext F w (w2.setCell ⟨T, 15, none⟩ (.int .u64 ((g.nx + 1 : Nat) : Int))) = Ext F w w2 := by unfold Ext; rw [hs]
          rw [e2]
          exact P2.out.kept cs (fun k z e => by
            subst e
            rcases z with (z | z) | z
            · exact HT.out (.inl z)
            · have := HL.out.lt; have := z.1; omega
            · exact HT.out (.inr z))
        · go_wp2
          go_ret
          rw [HR.out, if_neg hv0]
          exact ⟨rfl, P2.out, L2.out, K2.out.mono (fun _ _ z => .inl z)⟩
    · have HR : Hid (R = (1, g, m)) := by show _ = _; rw [← hR]; unfold app; rw [if_neg hf, if_pos hm]
      have KW : Hid (∀ y, Calls Tryz.prog 47 #[(.agg #[.pointer (some ⟨D, 0, none⟩), .int .i64 p.a0, .int .i64 p.a1, .int .i64 p.a2, .int .i64 p.a3, .int .i64 p.a4, .int .i64 p.a5, .int .i64 p.a6, .int .i64 p.a7, .int .i64 p.a8, .int .i64 p.a9, .int .i64 p.a10, .int .i64 p.a11, .int .i64 p.a12]), .agg #[.int .u64 (g.nx : Int), .int .u64 (g.ep : Int), .int .i64 x, .int .u64 (gn : Int), .int .u8 (mk.toNat : Int)]] y fun e y' => e = .returned (.int .i64 1) ∧ Below y.heap.size y y') := fun y =>
        write_no (x := ⟨g.nx, g.ep, x, gn, mk⟩) hm D p y
      clear hR hf hm
      go_enter Tryz.func13, Tryz.ntmps13
      go_wp2_with fail
      refine (made_any HL.out).mono ?_; rintro e w' ⟨rfl, rfl⟩
      go_wp2_with fail
      refine (room_any HL.out HP.out HG.out).mono ?_; rintro e w1 ⟨rfl, b1⟩
      have B1 := Lib.hid b1
      have L1 := Lib.hid (HL.out.below b1)
      have t0 := T0.out
      clear b1
      obtain ⟨c0, c1, c2, c3, c4, c5, c6, c7, c8, c9, c10, c11, c12, c13, c15, c16⟩ := CS.out _ L1.out
      go_wp2_with fail
      go_region_held (fun x => x.cell? ⟨T, 0, none⟩ = some (.pointer (some ⟨D, 0, none⟩)) ∧ x.cell? ⟨T, 1, none⟩ = some (.int .i64 p.a0) ∧ x.cell? ⟨T, 2, none⟩ = some (.int .i64 p.a1) ∧ x.cell? ⟨T, 3, none⟩ = some (.int .i64 p.a2) ∧ x.cell? ⟨T, 4, none⟩ = some (.int .i64 p.a3) ∧ x.cell? ⟨T, 5, none⟩ = some (.int .i64 p.a4) ∧ x.cell? ⟨T, 6, none⟩ = some (.int .i64 p.a5) ∧ x.cell? ⟨T, 7, none⟩ = some (.int .i64 p.a6) ∧ x.cell? ⟨T, 8, none⟩ = some (.int .i64 p.a7) ∧ x.cell? ⟨T, 9, none⟩ = some (.int .i64 p.a8) ∧ x.cell? ⟨T, 10, none⟩ = some (.int .i64 p.a9) ∧ x.cell? ⟨T, 11, none⟩ = some (.int .i64 p.a10) ∧ x.cell? ⟨T, 12, none⟩ = some (.int .i64 p.a11) ∧ x.cell? ⟨T, 13, none⟩ = some (.int .i64 p.a12) ∧ x.cell? ⟨T, 15, none⟩ = some (.int .u64 (g.nx : Int)) ∧ x.cell? ⟨T, 16, none⟩ = some (.int .u64 (g.ep : Int))) (first | go_keep | exact CS.out _ L2.out)
        (first
          | (go_at_call 47; (with_reducible refine (KW.out _).mono ?_); rintro e w2 ⟨rfl, b2⟩; have B2 : Hid (Below w.heap.size w w2) := bthen (bthen B1.out (bdrew _)) b2; have L2 := Lib.hid (HL.out.below B2.out); clear b2))
      all_goals
        clear c0 c1 c2 c3 c4 c5 c6 c7 c8 c9 c10 c11 c12 c13 c15 c16 t0
        go_wp2
        go_ret
        rw [HR.out]
        exact ⟨rfl, UP.out _ B2.out⟩
end
end Go.Proofs.YtikbbikcacoobaaGreatDoor.Pd.Iv
