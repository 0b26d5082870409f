/-
  The contract of Put. No conditions.
-/
import Derived.Test.YthclgehifomkhaaDoorGpNewer
namespace Go.Proofs.YthclgehifomkhaaDoor.W
open Go.RowKit Oc
set_option linter.unusedVariables false

/-- what a call leaves that puts a generation page -/
def GPut (w : World) (p : Gp) (e : Ending) (w' : World) : Prop :=
  (MayBe p ∧ ∃ v, e = .returned (.tuple #[v, .int .i64 0]) ∧ Own w' 5 w.heap.size v (sect p) ∧ Below w.heap.size w w') ∨ (¬ MayBe p ∧ e = .returned (.tuple #[.slice none 0 0, .int .i64 1]) ∧ Below w.heap.size w w')
theorem putE_pay (p : Gp) : putE 1 (pay p 6).length = 0 := by rw [pay58]; exact putE_ok (k := 1) r1 (by omega)
theorem putL_pay (p : Gp) : putL 1 (pay p 6) = sect p := putL_ok (k := 1) r1 (by rw [pay58]; exact Nat.le_refl _)
theorem isG64 {n : Nat} (h : isG n) : n < 18446744073709551616 := by have := h.2; omega

set_option maxHeartbeats 2000000 in
theorem gput_no (p : Gp) (w : World) (h : ¬ MayBe p) : Calls Tryd.prog 6 #[(.agg #[.int .i64 p.no, .int .u64 (p.v : Int), .int .u64 (p.g 0 : Int), .int .u64 (p.g 1 : Int), .int .u64 (p.g 2 : Int), .int .u64 (p.g 3 : Int), .int .u64 (p.g 4 : Int), .int .u64 (p.g 5 : Int)])] w fun e w' => e = .returned (.tuple #[.slice none 0 0, .int .i64 1]) ∧ Below w.heap.size w w' := by
  have H := Lib.hid h
  clear h
  go_enter Tryd.func6, Tryd.ntmps6
  go_wp2_with fail
  refine (maybe_any p false _ ⟨fun h => (by cases h), fun h => absurd h H.out⟩).mono ?_; rintro e w1 ⟨rfl, b1⟩
  have B1 : Hid (Below w.heap.size w w1) := bthen (balloc _ _) b1
  clear b1
  go_wp2
  go_ret2
  exact ⟨rfl, B1.out⟩

set_option maxHeartbeats 2000000 in
theorem gput_ok (p : Gp) (w : World) (h : MayBe p) (he : Env w) : Calls Tryd.prog 6 #[(.agg #[.int .i64 p.no, .int .u64 (p.v : Int), .int .u64 (p.g 0 : Int), .int .u64 (p.g 1 : Int), .int .u64 (p.g 2 : Int), .int .u64 (p.g 3 : Int), .int .u64 (p.g 4 : Int), .int .u64 (p.g 5 : Int)])] w fun e w' => ∃ v, e = .returned (.tuple #[v, .int .i64 0]) ∧ Own w' 5 w.heap.size v (sect p) ∧ Below w.heap.size w w' := by
  have H := Lib.hid h
  have HE := Lib.hid he
  obtain ⟨N, hN, hN2⟩ : ∃ N : Nat, p.no = (N : Int) ∧ N < 65536 := ⟨p.no.toNat, by have := h.1; omega, by have := h.1; omega⟩
  have HN := Lib.hid hN
  have HT : Hid (p.no.toNat = N) := by show _ = _; omega
  have HV := Lib.hid h.2.1
  have HG := Lib.hid h.2.2
  clear h he hN
  go_enter Tryd.func6, Tryd.ntmps6
  go_wp2_with fail
  refine (maybe_any p true _ ⟨fun _ => H.out, fun _ => rfl⟩).mono ?_; rintro e w1 ⟨rfl, b1⟩
  have X1 := Lib.hid (kept_below (heap_alloc_new w (.cells #[.int .i64 p.no, .int .u64 (p.v : Int), .int .u64 (p.g 0 : Int), .int .u64 (p.g 1 : Int), .int .u64 (p.g 2 : Int), .int .u64 (p.g 3 : Int), .int .u64 (p.g 4 : Int), .int .u64 (p.g 5 : Int)] 25)) b1)
  have B1 : Hid (Below w.heap.size w w1) := bthen (balloc _ _) b1
  clear b1
  obtain ⟨x0, x1, x2, x3, x4, x5, x6, x7⟩ := gp_cells X1.out
  rw [HN.out] at x0
  go_wp2_with fail
  refine (put_yes none 0 0 [] N 2 _ (by omega) (Oct.nil _ _) (by omega) (by omega) (by omega)).mono ?_; rintro e w2 ⟨v2, rfl, o2, b2⟩
  rw [List.nil_append] at o2
  obtain ⟨A2, c2, rfl, l2, s2⟩ := o2.form (octs_length N 2)
  have X2 := Lib.hid (kept_below X1.out b2)
  have S2 := Lib.hid s2
  have B2 : Hid (Below w.heap.size w w2) := bthen B1.out b2
  clear o2 b2 s2 x0 x1 x2 x3 x4 x5 x6 x7
  obtain ⟨x0, x1, x2, x3, x4, x5, x6, x7⟩ := gp_cells X2.out
  go_wp2_with fail
  refine (put_yes A2 2 c2 (octs N 2) p.v 8 _ (by omega) S2.out (isG64 HV.out) (by omega) (by omega)).mono ?_; rintro e w3 ⟨v3, rfl, o3, b3⟩
  have X3 := Lib.hid (kept_below X2.out b3)
  have O3 : Hid (Own w3 5 w.heap.size v3 (pay p 0)) := by
    show Own _ _ _ _ _
    have e : pay p 0 = octs N 2 ++ octs p.v 8 := by simp [pay, gens, HT.out]
    rw [e]
    exact o3.more B2.out.size
  have B3 : Hid (Below w.heap.size w w3) := bthen B2.out b3
  clear o3 b3 x0 x1 x2 x3 x4 x5 x6 x7
  obtain ⟨x0, x1, x2, x3, x4, x5, x6, x7⟩ := gp_cells X3.out
  go_wp2
  go_loopw [4, 6, 20] (fun v _ q wr => ∃ j : Nat, j ≤ 6 ∧ q = .int .i64 j ∧ Hid (Own wr 5 w.heap.size v (pay p j)) ∧ Hid (Below w.heap.size w wr)) (fun _ _ q _ => 6 - (intOf q).toNat)
  case atStart => exact ⟨0, by omega, rfl, O3, B3⟩
  case round =>
    obtain ⟨j, hj, rfl, OJ, BJ⟩ := hrel
    obtain ⟨A4, c4, rfl, l4, s4⟩ := OJ.out.form (pay_length p j)
    have S4 := Lib.hid s4
    clear s4
    by_cases hlt : j < 6
    · have hx := index_gen p.g hlt
      go_wp2_with fail
      refine (put_yes A4 _ c4 (pay p j) (p.g j) 8 _ (by omega) S4.out (isG64 (HG.out j hlt)) (by omega) (by omega)).mono ?_; rintro e w5 ⟨v5, rfl, o5, b5⟩
      rw [← pay_succ] at o5
      have O5 := Lib.hid (o5.more BJ.out.size)
      have B5 : Hid (Below w.heap.size w w5) := bthen BJ.out b5
      clear o5 b5
      go_wp2
      go_roundw
      case rel => exact ⟨j + 1, by omega, rfl, O5, B5⟩
      case measure => simp [intOf]; omega
    · have h6 : j = 6 := by omega
      have h58 : 10 + 8 * j = 58 := by omega
      have S6 : Hid (Oct wr A4 58 (pay p 6)) := by have h := S4.out; rw [h58, h6] at h; exact h
      rw [h58]
      clear h6
      go_wp2_with fail
      refine (pput_any A4 58 c4 (pay p 6) 1 _ (by omega) S6.out (HE.out.below BJ.out)).mono ?_; rintro e w6 ⟨v6, rfl, o6, b6⟩
      rw [putE_pay]
      rw [putL_pay] at o6
      have O6 := Lib.hid (o6.more BJ.out.size)
      have B6 : Hid (Below w.heap.size w w6) := bthen BJ.out b6
      clear o6 b6
      go_wp2
      go_ret2
      exact ⟨v6, rfl, O6.out, B6.out⟩
theorem gput_any (p : Gp) (w : World) (he : Env w) : Calls Tryd.prog 6 #[(.agg #[.int .i64 p.no, .int .u64 (p.v : Int), .int .u64 (p.g 0 : Int), .int .u64 (p.g 1 : Int), .int .u64 (p.g 2 : Int), .int .u64 (p.g 3 : Int), .int .u64 (p.g 4 : Int), .int .u64 (p.g 5 : Int)])] w (GPut w p) := by
  by_cases h : MayBe p
  · exact (gput_ok p w h he).mono fun e w' h2 => .inl ⟨h, h2⟩
  · exact (gput_no p w h).mono fun e w' h2 => .inr ⟨h, h2⟩
end Go.Proofs.YthclgehifomkhaaDoor.W
