/-
  Lists behind a pointer: their head, the ring of links, the sizes. No conditions.
-/
import Derived.Test.YtngfhcapjonkcaaBitMem
import Derived.Test.YtngfhcapjonkcaaChecked
import Derived.WalkKit
import Derived.WalkLawsBesides
import Derived.Lib.Hide
import Derived.Deep.OwnRows
import Derived.RegionTactic
import Derived.Deep.QuietTactic
import Derived.BigQuiet
namespace Go.Proofs.Ytngfhcapjonkcaa.W
open Go.RowKit Rw
set_option linter.unusedVariables false

theorem ret_int {k : IntKind} {a b : Int} (h : a = b) : Ending.returned (.int k a) = .returned (.int k b) := by rw [h]
theorem below_drewN {B : Nat} {a w : World} (h : Below B a w) (n : Nat) : Below B a (w.drewN n) := ⟨h.os, h.tape, h.output, h.size, h.block⟩

/-- a link: who is ahead of it, who behind it, whose ring it is -/
structure Lnk where
  prev : Nat
  next : Nat
  list : Int
/-- links as cells, three each -/
def lc (f : Nat → Lnk) (j : Nat) : Value :=
  if j % 3 = 0 then .int .i64 ((f (j / 3)).prev : Int) else if j % 3 = 1 then .int .i64 ((f (j / 3)).next : Int) else .int .i64 (f (j / 3)).list
theorem lc0 (f : Nat → Lnk) (i : Nat) : lc f (i * 3) = .int .i64 ((f i).prev : Int) := by unfold lc; rw [if_pos (by omega), show i * 3 / 3 = i by omega]
theorem lc1 (f : Nat → Lnk) (i : Nat) : lc f (i * 3 + 1) = .int .i64 ((f i).next : Int) := by unfold lc; rw [if_neg (by omega), if_pos (by omega), show (i * 3 + 1) / 3 = i by omega]
theorem lc2 (f : Nat → Lnk) (i : Nat) : lc f (i * 3 + 2) = .int .i64 (f i).list := by unfold lc; rw [if_neg (by omega), if_neg (by omega), show (i * 3 + 2) / 3 = i by omega]
/-- sizes as cells -/
def sc (s : Nat → Nat) (k : Nat) : Value := .int .i64 (s k : Int)

/-- LISTS BEHIND A POINTER: n nodes, m lists, N links -/
structure St (w : World) (R g1 g2 n m N : Nat) (f : Nat → Lnk) (s : Nat → Nat) : Prop where
  head : w.heap[R]? = some (.cells #[.int .i64 (n : Int), .slice (some ⟨g1, 0, none⟩) N N, .slice (some ⟨g2, 0, none⟩) m m] 39 (0, 0))
  ring : w.rowIs g1 50 (N * 3) (lc f)
  sizes : w.rowIs g2 3 m (sc s)
  sum : n + m = N
  hn : n ≤ 1024
  hm : m ≤ 16
section
variable {w w' : World} {R g1 g2 n m N : Nat} {f : Nat → Lnk} {s : Nat → Nat}
theorem St.lt (h : St w R g1 g2 n m N f s) : R < w.heap.size ∧ g1 < w.heap.size ∧ g2 < w.heap.size := by
  refine ⟨?_, h.ring.lt, h.sizes.lt⟩
  rcases Nat.lt_or_ge R w.heap.size with h1 | h1
  · exact h1
  · have := h.head; rw [Array.getElem?_eq_none h1] at this; cases this
theorem St.cells (h : St w R g1 g2 n m N f s) : w.cell? ⟨R, 0, none⟩ = some (.int .i64 (n : Int)) ∧ w.cell? ⟨R, 1, none⟩ = some (.slice (some ⟨g1, 0, none⟩) N N) ∧ w.cell? ⟨R, 2, none⟩ = some (.slice (some ⟨g2, 0, none⟩) m m) := by
  refine ⟨?_, ?_, ?_⟩
  · rw [cell_of_row w R 0 _ _ (0, 0) h.head]; rfl
  · rw [cell_of_row w R 1 _ _ (0, 0) h.head]; rfl
  · rw [cell_of_row w R 2 _ _ (0, 0) h.head]; rfl
theorem St.blocks (h : St w R g1 g2 n m N f s) (e0 : w'.heap[R]? = w.heap[R]?) (e1 : w'.heap[g1]? = w.heap[g1]?) (e2 : w'.heap[g2]? = w.heap[g2]?) : St w' R g1 g2 n m N f s :=
  ⟨e0.trans h.head, h.ring.of_block e1, h.sizes.of_block e2, h.sum, h.hn, h.hm⟩
theorem St.below (h : St w R g1 g2 n m N f s) (hb : Below w.heap.size w w') : St w' R g1 g2 n m N f s := h.blocks (hb.block _ h.lt.1) (hb.block _ h.lt.2.1) (hb.block _ h.lt.2.2)
theorem St.prev (h : St w R g1 g2 n m N f s) {i : Nat} (hi : i < N) : w.cell? ⟨g1, i * 3, none⟩ = some (.int .i64 ((f i).prev : Int)) := by rw [h.ring.cell (by omega), lc0]
theorem St.next (h : St w R g1 g2 n m N f s) {i : Nat} (hi : i < N) : w.cell? ⟨g1, i * 3 + 1, none⟩ = some (.int .i64 ((f i).next : Int)) := by rw [h.ring.cell (by omega), lc1]
theorem St.list (h : St w R g1 g2 n m N f s) {i : Nat} (hi : i < N) : w.cell? ⟨g1, i * 3 + 2, none⟩ = some (.int .i64 (f i).list) := by rw [h.ring.cell (by omega), lc2]
theorem St.size (h : St w R g1 g2 n m N f s) {k : Nat} (hk : k < m) : w.cell? ⟨g2, k, none⟩ = some (.int .i64 (s k : Int)) := by rw [h.sizes.cell hk]; rfl
theorem St.apart (h : St w R g1 g2 n m N f s) : R ≠ g1 ∧ R ≠ g2 ∧ g1 ≠ g2 := by
  obtain ⟨c1, k1, _⟩ := h.ring
  obtain ⟨c2, k2, _⟩ := h.sizes
  have k0 := h.head
  refine ⟨fun e => ?_, fun e => ?_, fun e => ?_⟩
  · subst e; rw [k0] at k1; injection k1 with k1; injection k1 with _ k1; exact absurd k1 (by decide)
  · subst e; rw [k0] at k2; injection k2 with k2; injection k2 with _ k2; exact absurd k2 (by decide)
  · subst e; rw [k1] at k2; injection k2 with k2; injection k2 with _ k2; exact absurd k2 (by decide)
end

theorem head_any {w : World} {R g1 g2 n m N : Nat} {f : Nat → Lnk} {s : Nat → Nat} (h : St w R g1 g2 n m N f s) (k : Nat) (hk : k ≤ 1000000) (a : Nat) (ha : n + k = a) :
    Calls Try.prog 24 #[.pointer (some ⟨R, 0, none⟩), .int .i64 (k : Int)] w fun e w' => e = .returned (.int .i64 (a : Int)) ∧ w = w' := by
  obtain ⟨c0, c1, c2⟩ := h.cells
  have hn := h.hn
  have HA := Lib.hid ha
  clear h c1 c2 ha
  go_enter Try.func24, Try.ntmps24
  go_wp2
  go_ret
  exact ⟨ret_int (by rw [← HA.out]; omega), rfl⟩

theorem hasList_yes {w : World} {R g1 g2 n m N : Nat} {f : Nat → Lnk} {s : Nat → Nat} (h : St w R g1 g2 n m N f s) (k : Int) (h0 : 0 ≤ k) (h1 : k < (m : Int)) :
    Calls Try.prog 25 #[.pointer (some ⟨R, 0, none⟩), .int .i64 k] w fun e w' => e = .returned (.bool true) ∧ w = w' := by
  obtain ⟨c0, c1, c2⟩ := h.cells
  clear h c0 c1
  go_enter Try.func25, Try.ntmps25
  go_wp2
  go_ret
  exact ⟨rfl, rfl⟩
theorem hasList_no {w : World} {R g1 g2 n m N : Nat} {f : Nat → Lnk} {s : Nat → Nat} (h : St w R g1 g2 n m N f s) (k : Int) (h0 : ¬ (0 ≤ k ∧ k < (m : Int))) :
    Calls Try.prog 25 #[.pointer (some ⟨R, 0, none⟩), .int .i64 k] w fun e w' => e = .returned (.bool false) ∧ w = w' := by
  obtain ⟨c0, c1, c2⟩ := h.cells
  clear h c0 c1
  by_cases hi : k < 0
  · clear h0
    go_enter Try.func25, Try.ntmps25
    go_wp2
    go_ret
    exact ⟨rfl, rfl⟩
  · have h1 : (m : Int) ≤ k := by omega
    have hd : decide (k < (m : Int)) = false := by simpa using h1
    clear h0
    go_enter Try.func25, Try.ntmps25
    go_wp2
    go_ret
    exact ⟨rfl, rfl⟩
theorem hasList_nil (k : Int) (w : World) :
    Calls Try.prog 25 #[.pointer none, .int .i64 k] w fun e w' => e = .returned (.bool false) ∧ w = w' := by
  go_enter Try.func25, Try.ntmps25
  go_wp2
  go_ret
  exact ⟨rfl, rfl⟩
theorem hasNode_yes {w : World} {R g1 g2 n m N : Nat} {f : Nat → Lnk} {s : Nat → Nat} (h : St w R g1 g2 n m N f s) (k : Int) (h0 : 0 ≤ k) (h1 : k < (n : Int)) :
    Calls Try.prog 26 #[.pointer (some ⟨R, 0, none⟩), .int .i64 k] w fun e w' => e = .returned (.bool true) ∧ w = w' := by
  obtain ⟨c0, c1, c2⟩ := h.cells
  clear h c1 c2
  go_enter Try.func26, Try.ntmps26
  go_wp2
  go_ret
  exact ⟨rfl, rfl⟩
theorem hasNode_no {w : World} {R g1 g2 n m N : Nat} {f : Nat → Lnk} {s : Nat → Nat} (h : St w R g1 g2 n m N f s) (k : Int) (h0 : ¬ (0 ≤ k ∧ k < (n : Int))) :
    Calls Try.prog 26 #[.pointer (some ⟨R, 0, none⟩), .int .i64 k] w fun e w' => e = .returned (.bool false) ∧ w = w' := by
  obtain ⟨c0, c1, c2⟩ := h.cells
  clear h c1 c2
  by_cases hi : k < 0
  · clear h0
    go_enter Try.func26, Try.ntmps26
    go_wp2
    go_ret
    exact ⟨rfl, rfl⟩
  · have h1 : (n : Int) ≤ k := by omega
    have hd : decide (k < (n : Int)) = false := by simpa using h1
    clear h0
    go_enter Try.func26, Try.ntmps26
    go_wp2
    go_ret
    exact ⟨rfl, rfl⟩
theorem hasNode_nil (k : Int) (w : World) :
    Calls Try.prog 26 #[.pointer none, .int .i64 k] w fun e w' => e = .returned (.bool false) ∧ w = w' := by
  go_enter Try.func26, Try.ntmps26
  go_wp2
  go_ret
  exact ⟨rfl, rfl⟩
theorem hasLink_yes {w : World} {R g1 g2 n m N : Nat} {f : Nat → Lnk} {s : Nat → Nat} (h : St w R g1 g2 n m N f s) (k : Nat) (h1 : k < N) :
    Calls Try.prog 35 #[.pointer (some ⟨R, 0, none⟩), .int .i64 (k : Int)] w fun e w' => e = .returned (.bool true) ∧ w = w' := by
  obtain ⟨c0, c1, c2⟩ := h.cells
  clear h c0 c2
  go_enter Try.func35, Try.ntmps35
  go_wp2
  go_ret
  exact ⟨rfl, rfl⟩

theorem len_yes {w : World} {R g1 g2 n m N : Nat} {f : Nat → Lnk} {s : Nat → Nat} (h : St w R g1 g2 n m N f s) (k : Nat) (hk : k < m) (a : Nat) (ha : s k = a) :
    Calls Try.prog 19 #[.pointer (some ⟨R, 0, none⟩), .int .i64 (k : Int)] w fun e w' => e = .returned (.int .i64 (a : Int)) ∧ w = w' := by
  obtain ⟨c0, c1, c2⟩ := h.cells
  have c3 := h.size hk
  rw [ha] at c3
  have H := Lib.hid h
  clear h c1 c0 ha
  go_enter Try.func19, Try.ntmps19
  go_wp2_with fail
  refine (hasList_yes H.out _ (by omega) (by omega)).mono ?_; rintro e w' ⟨rfl, rfl⟩
  go_wp2
  go_ret
  exact ⟨rfl, rfl⟩
theorem len_no {w : World} {R g1 g2 n m N : Nat} {f : Nat → Lnk} {s : Nat → Nat} (h : St w R g1 g2 n m N f s) (k : Int) (h0 : ¬ (0 ≤ k ∧ k < (m : Int))) :
    Calls Try.prog 19 #[.pointer (some ⟨R, 0, none⟩), .int .i64 k] w fun e w' => e = .returned (.int .i64 0) ∧ w = w' := by
  have H := Lib.hid h
  have H0 := Lib.hid h0
  clear h h0
  go_enter Try.func19, Try.ntmps19
  go_wp2_with fail
  refine (hasList_no H.out _ H0.out).mono ?_; rintro e w' ⟨rfl, rfl⟩
  go_wp2
  go_ret
  exact ⟨rfl, rfl⟩
theorem len_nil (k : Int) (w : World) :
    Calls Try.prog 19 #[.pointer none, .int .i64 k] w fun e w' => e = .returned (.int .i64 0) ∧ w = w' := by
  go_enter Try.func19, Try.ntmps19
  go_wp2_with fail
  refine (hasList_nil _ _).mono ?_; rintro e w' ⟨rfl, rfl⟩
  go_wp2
  go_ret
  exact ⟨rfl, rfl⟩

theorem of_yes {w : World} {R g1 g2 n m N : Nat} {f : Nat → Lnk} {s : Nat → Nat} (h : St w R g1 g2 n m N f s) (i : Nat) (hi : i < n) (k : Nat) (hk : (f i).list = (k : Int)) :
    Calls Try.prog 18 #[.pointer (some ⟨R, 0, none⟩), .int .i64 (i : Int)] w fun e w' => e = .returned (.tuple #[.int .i64 (k : Int), .bool true]) ∧ w = w' := by
  obtain ⟨c0, c1, c2⟩ := h.cells
  have hN := h.sum
  have hiN : i < N := by omega
  have c3 := h.list hiN
  have hn := h.hn
  have hm := h.hm
  rw [hk] at c3
  have H := Lib.hid h
  clear h c0 c2 hk hN
  go_enter Try.func18, Try.ntmps18
  go_wp2_with fail
  refine (hasNode_yes H.out _ (by omega) (by omega)).mono ?_; rintro e w' ⟨rfl, rfl⟩
  go_wp2
  go_ret2
  exact ⟨rfl, rfl⟩
end Go.Proofs.Ytngfhcapjonkcaa.W
