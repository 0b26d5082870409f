/-
  Contracts of Of, Front, Back. No conditions.
-/
import Derived.Test.YtngfhcapjonkcaaLsMem
namespace Go.Proofs.Ytngfhcapjonkcaa.W
open Go.RowKit Rw
set_option linter.unusedVariables false

theorem quiet {P : Program} {f : FuncId} {args : Array Value} {w : World} {n : Nat} {v : Value} (h : Calls P f args (w.drewN n) fun e w' => e = .returned v ∧ w.drewN n = w') : Calls P f args (w.drewN n) fun e w'' => e = .returned v ∧ ∃ m, w'' = w.drewN m :=
  h.mono fun _ _ ⟨he, hm⟩ => ⟨he, n, hm.symm⟩
/-- what a call tells that only draws -/
def Tells (w : World) (u : Value) (e : Ending) (w' : World) : Prop := e = .returned u ∧ ∃ k, w' = w.drewN k
section
variable {w : World} {R g1 g2 n m N : Nat} {f : Nat → Lnk} {s : Nat → Nat}
theorem St.dn (h : St w R g1 g2 n m N f s) (k : Nat) : St (w.drewN k) R g1 g2 n m N f s := h.below (below_drewN (Below.refl _ _) k)

theorem of_out (h : St w R g1 g2 n m N f s) (i : Int) (h0 : ¬ (0 ≤ i ∧ i < (n : Int))) :
    Calls Try.prog 18 #[.pointer (some ⟨R, 0, none⟩), .int .i64 i] w fun e w' => e = .returned (.tuple #[.int .i64 0, .bool false]) ∧ w = w' := by
  have H := Lib.hid h
  have H0 := Lib.hid h0
  clear h h0
  go_enter Try.func18, Try.ntmps18
  go_wp2_with fail
  refine (hasNode_no H.out _ H0.out).mono ?_; rintro e w' ⟨rfl, rfl⟩
  go_wp2
  go_ret2
  exact ⟨rfl, rfl⟩
theorem of_free (h : St w R g1 g2 n m N f s) (i : Nat) (hi : i < n) (hk : (f i).list = -1) :
    Calls Try.prog 18 #[.pointer (some ⟨R, 0, none⟩), .int .i64 (i : Int)] w fun e w' => e = .returned (.tuple #[.int .i64 0, .bool false]) ∧ w = w' := by
  obtain ⟨c0, c1, c2⟩ := h.cells
  have hN := h.sum
  have hiN : i < N := by omega
  have c3 := h.list hiN
  have hn := h.hn
  have hm := h.hm
  rw [hk] at c3
  have H := Lib.hid h
  clear h c0 c2 hk hN
  go_enter Try.func18, Try.ntmps18
  go_wp2_with fail
  refine (hasNode_yes H.out _ (by omega) (by omega)).mono ?_; rintro e w' ⟨rfl, rfl⟩
  go_wp2
  go_ret2
  exact ⟨rfl, rfl⟩
theorem of_nil (i : Int) (w : World) :
    Calls Try.prog 18 #[.pointer none, .int .i64 i] w fun e w' => e = .returned (.tuple #[.int .i64 0, .bool false]) ∧ w = w' := by
  go_enter Try.func18, Try.ntmps18
  go_wp2_with fail
  refine (hasNode_nil _ _).mono ?_; rintro e w' ⟨rfl, rfl⟩
  go_wp2
  go_ret2
  exact ⟨rfl, rfl⟩

theorem front_nil (k : Int) (w : World) :
    Calls Try.prog 16 #[.pointer none, .int .i64 k] w fun e w' => e = .returned (.tuple #[.int .i64 0, .bool false]) ∧ w = w' := by
  go_enter Try.func16, Try.ntmps16
  go_wp2_with fail
  refine (len_nil _ _).mono ?_; rintro e w' ⟨rfl, rfl⟩
  go_wp2
  go_ret2
  exact ⟨rfl, rfl⟩
theorem front_out (h : St w R g1 g2 n m N f s) (k : Int) (h0 : ¬ (0 ≤ k ∧ k < (m : Int))) :
    Calls Try.prog 16 #[.pointer (some ⟨R, 0, none⟩), .int .i64 k] w (Tells w (.tuple #[.int .i64 0, .bool false])) := by
  have H := Lib.hid h
  have H0 := Lib.hid h0
  clear h h0
  go_enter Try.func16, Try.ntmps16
  go_wp2_with fail
  refine (len_no H.out _ H0.out).mono ?_; rintro e w' ⟨rfl, rfl⟩
  go_wp2
  go_ret2
  exact ⟨rfl, 0, rfl⟩
theorem front_none (h : St w R g1 g2 n m N f s) (k : Nat) (hk : k < m) (h0 : s k = 0) :
    Calls Try.prog 16 #[.pointer (some ⟨R, 0, none⟩), .int .i64 (k : Int)] w (Tells w (.tuple #[.int .i64 0, .bool false])) := by
  have H := Lib.hid h
  have H0 := Lib.hid h0
  clear h h0
  go_enter Try.func16, Try.ntmps16
  go_wp2_with fail
  refine (len_yes H.out _ hk 0 H0.out).mono ?_; rintro e w' ⟨rfl, rfl⟩
  go_wp2
  go_ret2
  exact ⟨rfl, 0, rfl⟩
theorem front_some (h : St w R g1 g2 n m N f s) (k : Nat) (hk : k < m) (z : Nat) (hz : s k = z) (z0 : 0 < z) (a b : Nat) (ha : n + k = a) (hb : (f a).next = b) :
    Calls Try.prog 16 #[.pointer (some ⟨R, 0, none⟩), .int .i64 (k : Int)] w (Tells w (.tuple #[.int .i64 (b : Int), .bool true])) := by
  obtain ⟨c0, c1, c2⟩ := h.cells
  have hN := h.sum
  have hn := h.hn
  have hm := h.hm
  have haN : a < N := by omega
  have c3 := h.next haN
  rw [hb] at c3
  have HZ := Lib.hid hz
  have HA := Lib.hid ha
  have H := Lib.hid h
  have hi0 : (0 : Int) ≤ (a : Int) := by omega
  have hi1 : (a : Int) < (N : Int) := by omega
  clear h c0 c2 hb hN ha hz
  go_enter Try.func16, Try.ntmps16
  go_wp2_with fail
  refine (len_yes H.out _ hk z HZ.out).mono ?_; rintro e w' ⟨rfl, rfl⟩
  go_wp2_with fail
  go_quiet ((go_at_call 24; exact quiet (head_any (H.out.dn _) k (by omega) a HA.out)))
  go_wp2
  go_ret2
  exact ⟨rfl, _, rfl⟩
theorem back_nil (k : Int) (w : World) :
    Calls Try.prog 17 #[.pointer none, .int .i64 k] w fun e w' => e = .returned (.tuple #[.int .i64 0, .bool false]) ∧ w = w' := by
  go_enter Try.func17, Try.ntmps17
  go_wp2_with fail
  refine (len_nil _ _).mono ?_; rintro e w' ⟨rfl, rfl⟩
  go_wp2
  go_ret2
  exact ⟨rfl, rfl⟩
theorem back_out (h : St w R g1 g2 n m N f s) (k : Int) (h0 : ¬ (0 ≤ k ∧ k < (m : Int))) :
    Calls Try.prog 17 #[.pointer (some ⟨R, 0, none⟩), .int .i64 k] w (Tells w (.tuple #[.int .i64 0, .bool false])) := by
  have H := Lib.hid h
  have H0 := Lib.hid h0
  clear h h0
  go_enter Try.func17, Try.ntmps17
  go_wp2_with fail
  refine (len_no H.out _ H0.out).mono ?_; rintro e w' ⟨rfl, rfl⟩
  go_wp2
  go_ret2
  exact ⟨rfl, 0, rfl⟩
theorem back_none (h : St w R g1 g2 n m N f s) (k : Nat) (hk : k < m) (h0 : s k = 0) :
    Calls Try.prog 17 #[.pointer (some ⟨R, 0, none⟩), .int .i64 (k : Int)] w (Tells w (.tuple #[.int .i64 0, .bool false])) := by
  have H := Lib.hid h
  have H0 := Lib.hid h0
  clear h h0
  go_enter Try.func17, Try.ntmps17
  go_wp2_with fail
  refine (len_yes H.out _ hk 0 H0.out).mono ?_; rintro e w' ⟨rfl, rfl⟩
  go_wp2
  go_ret2
  exact ⟨rfl, 0, rfl⟩
theorem back_some (h : St w R g1 g2 n m N f s) (k : Nat) (hk : k < m) (z : Nat) (hz : s k = z) (z0 : 0 < z) (a b : Nat) (ha : n + k = a) (hb : (f a).prev = b) :
    Calls Try.prog 17 #[.pointer (some ⟨R, 0, none⟩), .int .i64 (k : Int)] w (Tells w (.tuple #[.int .i64 (b : Int), .bool true])) := by
  obtain ⟨c0, c1, c2⟩ := h.cells
  have hN := h.sum
  have hn := h.hn
  have hm := h.hm
  have haN : a < N := by omega
  have c3 := h.prev haN
  rw [hb] at c3
  have HZ := Lib.hid hz
  have HA := Lib.hid ha
  have H := Lib.hid h
  have hi0 : (0 : Int) ≤ (a : Int) := by omega
  have hi1 : (a : Int) < (N : Int) := by omega
  clear h c0 c2 hb hN ha hz
  go_enter Try.func17, Try.ntmps17
  go_wp2_with fail
  refine (len_yes H.out _ hk z HZ.out).mono ?_; rintro e w' ⟨rfl, rfl⟩
  go_wp2_with fail
  go_quiet ((go_at_call 24; exact quiet (head_any (H.out.dn _) k (by omega) a HA.out)))
  go_wp2
  go_ret2
  exact ⟨rfl, _, rfl⟩
end
end Go.Proofs.Ytngfhcapjonkcaa.W
