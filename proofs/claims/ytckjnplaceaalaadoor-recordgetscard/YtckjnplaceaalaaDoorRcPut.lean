/-
  The contract of Put. No conditions.
-/
import Derived.Test.YtckjnplaceaalaaDoorRcMay
namespace Go.Proofs.YtckjnplaceaalaaDoor.W
open Go.RowKit Oc
set_option linter.unusedVariables false

/-- what a call leaves that puts a record -/
def RPut (w : World) (p : Rc) (e : Ending) (w' : World) : Prop :=
  (MayBe p ∧ ∃ v, e = .returned (.tuple #[v, .int .i64 0]) ∧ Own w' 5 w.heap.size v (sect p) ∧ Below w.heap.size w w') ∨ (¬ MayBe p ∧ e = .returned (.tuple #[.slice none 0 0, .int .i64 1]) ∧ Below w.heap.size w w')
theorem putE_pay (p : Rc) : putE 2 (pay p).length = 0 := putE_ok (k := 2) r2 (pay_fits p)
theorem putL_pay (p : Rc) : putL 2 (pay p) = sect p := putL_ok (k := 2) r2 (pay_fits p)

set_option maxHeartbeats 2000000 in
theorem rcput_no (p : Rc) (w : World) (h : ¬ MayBe p) : Calls Tryd.prog 6 #[(.agg #[.int .u64 (p.q : Int), .int .u64 (p.h : Int), .int .i64 p.x, .int .u64 (p.g : Int), .int .u8 (p.m.toNat : Int)])] w fun e w' => e = .returned (.tuple #[.slice none 0 0, .int .i64 1]) ∧ Below w.heap.size w w' := by
  have H := Lib.hid h
  clear h
  go_enter Tryd.func6, Tryd.ntmps6
  go_wp2_with fail
  refine (maybe_any p false _ ⟨fun h => (by cases h), fun h => absurd h H.out⟩).mono ?_; rintro e w1 ⟨rfl, b1⟩
  have B1 : Hid (Below w.heap.size w w1) := bthen (balloc _ _) b1
  clear b1
  go_wp2
  go_ret2
  exact ⟨rfl, B1.out⟩

/-- a box that bears a slice of octets -/
def PB (w : World) (B : Nat) (xs : List UInt8) : Prop := ∃ A c, w.heap[B]? = some (.cells #[.slice A xs.length c] 25 (0, 0)) ∧ Oct w A xs.length xs
theorem pb_new (w : World) : PB (w.alloc (.cells #[.slice none 0 0] 25)) w.heap.size [] := ⟨none, 0, heap_alloc_new w _, Oct.nil _ _⟩
theorem pb_below {w w' : World} {B : Nat} {xs : List UInt8} (h : PB w B xs) (hb : Below w.heap.size w w') : PB w' B xs := by
  obtain ⟨A, c, h1, h2⟩ := h
  exact ⟨A, c, kept_below h1 hb, h2.below hb⟩
theorem pb_set {w w1 : World} {B : Nat} {ys : List UInt8} {v u : Value} (hB : w.heap[B]? = some (.cells #[u] 25 (0, 0))) (ho : Own w1 5 w.heap.size v ys) (hb : Below w.heap.size w w1) :
    PB (w1.setCell ⟨B, 0, none⟩ v) B ys ∧ w.grownBy (w1.setCell ⟨B, 0, none⟩ v) (some B) := by
  have hlt := (Array.getElem?_eq_some_iff.1 hB).1
  have h1 := kept_below hB hb
  have hg := grown_set w1 B 0 v
  obtain ⟨A, c, rfl, l, s⟩ := ho.slice
  refine ⟨⟨A, c, ?_, ?_⟩, grown_trans (grown_of_below hb _) hg⟩
  · rw [heap_setCell_same w1 B 0 _ _ _ h1]; rfl
  · exact s.grown hg fun off hn e => by
      have := (ho.ge B (by rw [e]; rfl)).1
      omega

set_option maxHeartbeats 1000000 in
theorem write_any {w : World} {B : Nat} {xs : List UInt8} (h : PB w B xs) (hn : xs.length ≤ 1000000000) (N k : Nat) (hN : N < 18446744073709551616) (h1 : 1 ≤ k) (h8 : k ≤ 8) :
    Calls Tryd.prog 17 #[.int .u64 (N : Int), .int .i64 (k : Int), .pointer (some ⟨B, 0, none⟩)] w fun e w' => e = .returned (.tuple #[]) ∧ PB w' B (xs ++ octs N k) ∧ w.grownBy w' (some B) := by
  obtain ⟨A, c, hB, ho⟩ := h
  have HB := Lib.hid hB
  have HO := Lib.hid ho
  have x0 : w.cell? ⟨B, 0, none⟩ = some (.slice A xs.length c) := by rw [cell_of_row _ _ _ _ _ _ hB]; rfl
  have hlt := (Array.getElem?_eq_some_iff.1 hB).1
  clear hB ho
  go_enter Tryd.func17, Tryd.ntmps17
  go_wp2_with fail
  refine (put_yes A xs.length c xs N k _ hn HO.out hN h1 h8).mono ?_; rintro e w2 ⟨v2, rfl, o2, b2⟩
  have O2 := Lib.hid o2
  obtain ⟨A2, c2, rfl, l2, s2⟩ := o2.form (n := xs.length + k) (by simp [octs_length])
  clear s2
  have B2 := Lib.hid b2
  have y0 : w2.frozen? ⟨B, 0, none⟩ = false := frozen_of_row w2 B 0 _ _ (kept_below HB.out b2)
  have y1 : w2.cell? ⟨B, 0, none⟩ = some (.slice A xs.length c) := by rw [cell_of_row _ _ _ _ _ _ (kept_below HB.out b2)]; rfl
  clear o2 b2
  go_wp2
  go_end0
  have h := pb_set HB.out O2.out B2.out
  exact ⟨rfl, h.1, h.2⟩

theorem write8 {w : World} {B : Nat} {xs : List UInt8} (h : PB w B xs) (hn : xs.length ≤ 1000) (N : Nat) (hN : N < 18446744073709551616) : Calls Tryd.prog 17 #[.int .u64 (N : Int), .int .i64 8, .pointer (some ⟨B, 0, none⟩)] w fun e w' => e = .returned (.tuple #[]) ∧ PB w' B (xs ++ octs N 8) ∧ w.grownBy w' (some B) := write_any h (by omega) N 8 hN (by omega) (by omega)
theorem write2 {w : World} {B : Nat} {xs : List UInt8} (h : PB w B xs) (hn : xs.length ≤ 1000) (N : Nat) (hN : N < 18446744073709551616) : Calls Tryd.prog 17 #[.int .u64 (N : Int), .int .i64 2, .pointer (some ⟨B, 0, none⟩)] w fun e w' => e = .returned (.tuple #[]) ∧ PB w' B (xs ++ octs N 2) ∧ w.grownBy w' (some B) := write_any h (by omega) N 2 hN (by omega) (by omega)
theorem write1 {w : World} {B : Nat} {xs : List UInt8} (h : PB w B xs) (hn : xs.length ≤ 1000) (N : Nat) (hN : N < 18446744073709551616) : Calls Tryd.prog 17 #[.int .u64 (N : Int), .int .i64 1, .pointer (some ⟨B, 0, none⟩)] w fun e w' => e = .returned (.tuple #[]) ∧ PB w' B (xs ++ octs N 1) ∧ w.grownBy w' (some B) := write_any h (by omega) N 1 hN (by omega) (by omega)

set_option maxHeartbeats 2000000 in
theorem rcput_ok (p : Rc) (w : World) (h : MayBe p) (he : Env w) : Calls Tryd.prog 6 #[(.agg #[.int .u64 (p.q : Int), .int .u64 (p.h : Int), .int .i64 p.x, .int .u64 (p.g : Int), .int .u8 (p.m.toNat : Int)])] w fun e w' => ∃ v, e = .returned (.tuple #[v, .int .i64 0]) ∧ Own w' 5 w.heap.size v (sect p) ∧ Below w.heap.size w w' := by
  have H := Lib.hid h
  have HE := Lib.hid he
  obtain ⟨N, hN, hN2⟩ : ∃ N : Nat, p.x = (N : Int) ∧ N < 65536 := ⟨p.x.toNat, by have := h.2.2.1; omega, by have := h.2.2.1; omega⟩
  obtain ⟨M, hM, hM2⟩ : ∃ M : Nat, p.m.toNat = M ∧ M < 256 := ⟨p.m.toNat, rfl, p.m.toNat_lt⟩
  have HQ : Hid (p.q < 18446744073709551616) := by have := h.1; show _ < _; omega
  have HH : Hid (p.h < 18446744073709551616) := by have := h.2.1; show _ < _; omega
  have HG : Hid (p.g < 18446744073709551616) := by have := h.2.2.2.1.2; show _ < _; omega
  have HN := Lib.hid hN
  have HM := Lib.hid hM
  have HT : Hid (p.x.toNat = N) := by show _ = _; omega
  clear h he hN hM
  go_enter Tryd.func6, Tryd.ntmps6
  go_wp2_with fail
  refine (maybe_any p true _ ⟨fun _ => H.out, fun _ => rfl⟩).mono ?_; rintro e w1 ⟨rfl, b1⟩
  have X1 := Lib.hid (kept_below (heap_alloc_new w (.cells #[.int .u64 (p.q : Int), .int .u64 (p.h : Int), .int .i64 p.x, .int .u64 (p.g : Int), .int .u8 (p.m.toNat : Int)] 24)) b1)
  have B1 : Hid (Below w.heap.size w w1) := bthen (balloc _ _) b1
  clear b1
  obtain ⟨B, hB⟩ : ∃ B, B = w1.heap.size := ⟨_, rfl⟩
  have P1 : Hid (PB (w1.alloc (.cells #[.slice none 0 0] 25)) B []) := by show PB _ _ _; rw [hB]; exact pb_new w1
  have X2 := Lib.hid (kept_below X1.out (balloc w1 (.cells #[.slice none 0 0] 25)))
  have C1 : Hid (Below w.heap.size w (w1.alloc (.cells #[.slice none 0 0] 25))) := bthen B1.out (balloc _ _)
  have hwB : w.heap.size ≠ B := by have := (Array.getElem?_eq_some_iff.1 X1.out).1; omega
  have hle : w.heap.size ≤ B := by have := (Array.getElem?_eq_some_iff.1 X1.out).1; omega
  have HWB := Lib.hid hwB
  have HLE := Lib.hid hle
  clear hwB hle
  obtain ⟨x0, x1, x2, x3, x4⟩ := rc_cells X2.out
  subst hB
  go_wp2_with fail
  refine (write8 P1.out (by simp) p.q HQ.out).mono ?_; rintro e w3 ⟨rfl, q3, g3⟩
  rw [List.nil_append] at q3
  have P3 := Lib.hid q3
  have X3 := Lib.hid (kept_by X2.out g3 HWB.out)
  have C3 : Hid (Below w.heap.size w w3) := below_up C1.out g3 HLE.out
  clear q3 g3 x0 x1 x2 x3 x4
  obtain ⟨x0, x1, x2, x3, x4⟩ := rc_cells X3.out
  go_wp2_with fail
  refine (write8 P3.out (by simp [octs_length]) p.h HH.out).mono ?_; rintro e w4 ⟨rfl, q4, g4⟩
  have P4 := Lib.hid q4
  have X4 := Lib.hid (kept_by X3.out g4 HWB.out)
  have C4 : Hid (Below w.heap.size w w4) := below_up C3.out g4 HLE.out
  clear q4 g4 x0 x1 x2 x3 x4
  obtain ⟨x0, x1, x2, x3, x4⟩ := rc_cells X4.out
  rw [HN.out] at x2
  go_wp2_with fail
  refine (write2 P4.out (by simp [octs_length]) N (by omega)).mono ?_; rintro e w5 ⟨rfl, q5, g5⟩
  have P5 := Lib.hid q5
  have X5 := Lib.hid (kept_by X4.out g5 HWB.out)
  have C5 : Hid (Below w.heap.size w w5) := below_up C4.out g5 HLE.out
  clear q5 g5 x0 x1 x2 x3 x4
  obtain ⟨x0, x1, x2, x3, x4⟩ := rc_cells X5.out
  go_wp2_with fail
  refine (write8 P5.out (by simp [octs_length]) p.g HG.out).mono ?_; rintro e w6 ⟨rfl, q6, g6⟩
  have P6 := Lib.hid q6
  have X6 := Lib.hid (kept_by X5.out g6 HWB.out)
  have C6 : Hid (Below w.heap.size w w6) := below_up C5.out g6 HLE.out
  clear q6 g6 x0 x1 x2 x3 x4
  obtain ⟨x0, x1, x2, x3, x4⟩ := rc_cells X6.out
  rw [HM.out] at x4
  go_wp2_with fail
  refine (write1 P6.out (by simp [octs_length]) M (by omega)).mono ?_; rintro e w7 ⟨rfl, q7, g7⟩
  have P7 : Hid (PB w7 w1.heap.size (pay p)) := by
    show PB _ _ _
    rw [show pay p = octs p.q 8 ++ octs p.h 8 ++ octs N 2 ++ octs p.g 8 ++ octs M 1 by unfold pay; rw [HT.out, HM.out]]
    exact q7
  have C7 : Hid (Below w.heap.size w w7) := below_up C6.out g7 HLE.out
  clear q7 g7 x0 x1 x2 x3 x4
  obtain ⟨A8, c8, h8, s8⟩ := P7.out
  rw [pay_length] at h8 s8
  have z0 : w7.cell? ⟨w1.heap.size, 0, none⟩ = some (.slice A8 27 c8) := by rw [cell_of_row _ _ _ _ _ _ h8]; rfl
  have S8 := Lib.hid s8
  clear h8 s8
  go_wp2_with fail
  refine (pput_any A8 27 c8 (pay p) 2 _ (by omega) S8.out (HE.out.below C7.out)).mono ?_; rintro e w9 ⟨v9, rfl, o9, b9⟩
  rw [putE_pay]
  rw [putL_pay] at o9
  have O9 := Lib.hid (o9.more C7.out.size)
  have B9 : Hid (Below w.heap.size w w9) := bthen C7.out b9
  clear o9 b9
  go_wp2
  go_ret2
  exact ⟨v9, rfl, O9.out, B9.out⟩
theorem rcput_any (p : Rc) (w : World) (he : Env w) : Calls Tryd.prog 6 #[(.agg #[.int .u64 (p.q : Int), .int .u64 (p.h : Int), .int .i64 p.x, .int .u64 (p.g : Int), .int .u8 (p.m.toNat : Int)])] w (RPut w p) := by
  by_cases h : MayBe p
  · exact (rcput_ok p w h he).mono fun e w' h2 => .inl ⟨h, h2⟩
  · exact (rcput_no p w h).mono fun e w' h2 => .inr ⟨h, h2⟩
end Go.Proofs.YtckjnplaceaalaaDoor.W
