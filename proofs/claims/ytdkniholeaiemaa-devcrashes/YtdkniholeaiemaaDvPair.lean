/-
  Two devices on one power, and the document's two on one: who owns which block, what a call of one of them leaves. No conditions.
-/
import Derived.Test.YtdkniholeaiemaaDvRrot
import Derived.Test.YtdkniholeaiemaaDvKeeps
namespace Go.Proofs.Ytdkniholeaiemaa.W
open Go.RowKit Oc Dm Gt Tn
set_option linter.unusedVariables false

/-- a device as the document tells of it, but for its power -/
structure DD where
  S : Nat → Sec
  rd : Nat
  wr : Nat
/-- new blocks are id's -/
def give (o : Nat → Nat) (w w' : World) (id : Nat) : Nat → Nat := fun b => if w.heap.size ≤ b ∧ b < w'.heap.size then id else o b
theorem give_old {o : Nat → Nat} {w w' : World} {id b : Nat} (h : b < w.heap.size) : give o w w' id b = o b := if_neg (by omega)
theorem give_new {o : Nat → Nat} {w w' : World} {id b : Nat} (h : w.heap.size ≤ b ∧ b < w'.heap.size) : give o w w' id b = id := if_pos h
/-- what nobody owned is as it was -/
structure Ex (o o' : Nat → Nat) (w w' : World) : Prop where
  own : ∀ b, b < w.heap.size → o' b = o b
  os : w'.os = w.os
  tape : w'.tape = w.tape
  output : w'.output = w.output
  size : w.heap.size ≤ w'.heap.size
  block : ∀ b, b < w.heap.size → o b = 0 → w'.heap[b]? = w.heap[b]?
theorem Ex.refl (o : Nat → Nat) (w : World) : Ex o o w w := ⟨fun _ _ => rfl, rfl, rfl, rfl, Nat.le_refl _, fun _ _ _ => rfl⟩
theorem Ex.trans {o o' o'' : Nat → Nat} {w w' w'' : World} (h : Ex o o' w w') (k : Ex o' o'' w' w'') : Ex o o'' w w'' :=
  ⟨fun b hb => (k.own b (Nat.lt_of_lt_of_le hb h.size)).trans (h.own b hb), k.os.trans h.os, k.tape.trans h.tape, k.output.trans h.output, Nat.le_trans h.size k.size,
   fun b hb ho => (k.block b (Nat.lt_of_lt_of_le hb h.size) ((h.own b hb).trans ho)).trans (h.block b hb ho)⟩
theorem Ex.of_below {o : Nat → Nat} {w w' : World} (h : Below w.heap.size w w') : Ex o o w w' := ⟨fun _ _ => rfl, h.os, h.tape, h.output, h.size, fun b hb _ => h.block b hb⟩
theorem Ex.below {o : Nat → Nat} {w w' : World} (h : Ex (fun _ => 0) o w w') : Below w.heap.size w w' := ⟨h.os, h.tape, h.output, h.size, fun b hb => h.block b hb rfl⟩
theorem Ex.cell {o o' : Nat → Nat} {w w' : World} (h : Ex o o' w w') {b : Nat} (hb : b < w.heap.size) (ho : o b = 0) (j : Nat) : w'.cell? ⟨b, j, none⟩ = w.cell? ⟨b, j, none⟩ := World.cell?_of_block (a := ⟨b, j, none⟩) (h.block b hb ho)

/-- TWO DEVICES AND THE DOCUMENT's TWO: o tells who owns a block -/
structure Mid (o : Nat → Nat) (w : World) (T p q : Nat) (D E ns : Nat → Nat) (N : Nat) (s : PS) (d : Nat → DD) (s2 : PS) (d2 : Nat → DD) : Prop where
  head : w.heap[T]? = some (.cells (tc (some p) (some (D 0)) (some (D 1)) (some q) (some (E 0)) (some (E 1))) 41 (0, 0))
  oT : o T = 1
  op : o p = 2
  oq : o q = 3
  lt : ∀ b, o b ≠ 0 → b < w.heap.size
  pw : Pw w p s
  qw : Qw w q s2
  dv : ∀ k, k < 2 → Dv w (fun b => o b = 4 + k) (D k) p (ns k) N (d k).S (d k).rd (d k).wr
  rv : ∀ k, k < 2 → ∃ gs vs, RvAt w (fun b => o b = 6 + k) (E k) q (ns k) (d2 k).S (d2 k).rd (d2 k).wr gs vs
  hN : N ≤ 1000000
  hs : s.done ≤ N
  hs2 : s2.done ≤ N
  hf2 : ∀ k, s2.fuse = some k → k ≤ 1048576
section
variable {o : Nat → Nat} {w w' : World} {T p q : Nat} {D E ns : Nat → Nat} {N N' : Nat} {s s' s2 s2' : PS} {d d2 : Nat → DD} {d' : DD} {k : Nat}
theorem Mid.below (h : Mid o w T p q D E ns N s d s2 d2) (hb : Below w.heap.size w w') : Mid o w' T p q D E ns N s d s2 d2 where
  head := (hb.block _ (lt_of_heap h.head)).trans h.head
  oT := h.oT
  op := h.op
  oq := h.oq
  lt := fun b x => Nat.lt_of_lt_of_le (h.lt b x) hb.size
  pw := h.pw.heap (hb.block _ h.pw.lt)
  qw := h.qw.heap (hb.block _ h.qw.lt)
  dv := fun k hk => (h.dv k hk).below hb
  rv := fun k hk => by obtain ⟨gs, vs, x⟩ := h.rv k hk; exact ⟨gs, vs, x.below hb⟩
  hN := h.hN
  hs := h.hs
  hs2 := h.hs2
  hf2 := h.hf2
theorem Mid.drewN (h : Mid o w T p q D E ns N s d s2 d2) (n : Nat) : Mid o (w.drewN n) T p q D E ns N s d s2 d2 := h.below ⟨rfl, rfl, rfl, Nat.le_refl _, fun _ _ => rfl⟩
theorem Mid.more (h : Mid o w T p q D E ns N s d s2 d2) (hN : N ≤ N') (hb : N' ≤ 1000000) : Mid o w T p q D E ns N' s d s2 d2 :=
  { h with dv := fun k hk => (h.dv k hk).more hN (by omega), hN := hb, hs := Nat.le_trans h.hs hN, hs2 := Nat.le_trans h.hs2 hN }
theorem Mid.cells (h : Mid o w T p q D E ns N s d s2 d2) : w.cell? ⟨T, 0, none⟩ = some (.pointer (some ⟨p, 0, none⟩)) ∧ w.cell? ⟨T, 3, none⟩ = some (.pointer (some ⟨q, 0, none⟩)) ∧ (∀ k, k < 2 → w.cell? ⟨T, 1 + k, none⟩ = some (.pointer (some ⟨D k, 0, none⟩)) ∧ w.cell? ⟨T, 4 + k, none⟩ = some (.pointer (some ⟨E k, 0, none⟩))) ∧ (∀ j, w.frozen? ⟨T, j, none⟩ = false) := by
  refine ⟨by rw [cell_of_row w T _ _ _ (0, 0) h.head]; rfl, by rw [cell_of_row w T _ _ _ (0, 0) h.head]; rfl, fun k hk => ?_, fun j => frozen_of_row w T j _ _ h.head⟩
  match k, hk with
  | 0, _ => exact ⟨by rw [cell_of_row w T _ _ _ (0, 0) h.head]; rfl, by rw [cell_of_row w T _ _ _ (0, 0) h.head]; rfl⟩
  | 1, _ => exact ⟨by rw [cell_of_row w T _ _ _ (0, 0) h.head]; rfl, by rw [cell_of_row w T _ _ _ (0, 0) h.head]; rfl⟩
/-- device k of the program turned, and its power -/
theorem Mid.dev (h : Mid o w T p q D E ns N s d s2 d2) (hk : k < 2) (hN : N ≤ N') (hb : N' ≤ 1000000) (hs : s'.done ≤ N') (hp : Pw w' p s') (hd : Dv w' (Ext (fun b => o b = 4 + k) w w') (D k) p (ns k) N' d'.S d'.rd d'.wr) (hc : Chg (fun b => o b = 4 + k ∨ b = p) w w') :
    Mid (give o w w' (4 + k)) w' T p q D E ns N' s' (upd d k d') s2 d2 ∧ Ex o (give o w w' (4 + k)) w w' := by
  have keep : ∀ b, b < w.heap.size → o b ≠ 4 + k → o b ≠ 2 → w'.heap[b]? = w.heap[b]? := fun b hb h1 h2 => hc.block b hb (fun x => x.elim h1 (fun e => h2 (e ▸ h.op)))
  refine ⟨⟨?_, ?_, ?_, ?_, fun b x => ?_, hp, ?_, fun j hj => ?_, fun j hj => ?_, hb, hs, Nat.le_trans h.hs2 hN, h.hf2⟩, ⟨fun b hb => give_old hb, hc.os, hc.tape, hc.output, hc.size, fun b hb ho => keep b hb (by omega) (by omega)⟩⟩
  · exact (keep T (lt_of_heap h.head) (by rw [h.oT]; omega) (by rw [h.oT]; omega)).trans h.head
  · rw [give_old (lt_of_heap h.head)]; exact h.oT
  · rw [give_old h.pw.lt]; exact h.op
  · rw [give_old h.qw.lt]; exact h.oq
  · by_cases e : w.heap.size ≤ b ∧ b < w'.heap.size
    · exact e.2
    · have : o b ≠ 0 := by unfold give at x; rw [if_neg e] at x; exact x
      exact Nat.lt_of_lt_of_le (h.lt b this) hc.size
  · exact h.qw.heap (keep q h.qw.lt (by rw [h.oq]; omega) (by rw [h.oq]; omega))
  · by_cases e : j = k
    · subst e
      rw [upd_same]
      refine hd.frame (fun b x => ?_) (fun b x => ?_) (fun _ _ => rfl)
      · rcases x with x | x
        · show give o w w' (4 + j) b = 4 + j
          rw [give_old (h.lt b (by omega))]; exact x
        · exact give_new x
      · by_cases e : w.heap.size ≤ b ∧ b < w'.heap.size
        · exact e.2
        · have x' : give o w w' (4 + j) b = 4 + j := x
          unfold give at x'
          rw [if_neg e] at x'
          exact Nat.lt_of_lt_of_le (h.lt b (by omega)) hc.size
    · rw [upd_other _ _ e]
      refine ((h.dv j hj).more hN (by omega)).frame (fun b x => ?_) (fun b x => ?_) (fun b x => keep b (h.lt b (by omega)) (by omega) (by omega))
      · show give o w w' (4 + k) b = 4 + j
        rw [give_old (h.lt b (by omega))]; exact x
      · have x' : give o w w' (4 + k) b = 4 + j := x
        by_cases e2 : w.heap.size ≤ b ∧ b < w'.heap.size
        · exact e2.2
        · unfold give at x'
          rw [if_neg e2] at x'
          exact Nat.lt_of_lt_of_le (h.lt b (by omega)) hc.size
  · obtain ⟨gs, vs, x0⟩ := h.rv j hj
    refine ⟨gs, vs, x0.frame (fun b x => ?_) (fun b x => ?_) (fun b x => keep b (h.lt b (by omega)) (by omega) (by omega))⟩
    · show give o w w' (4 + k) b = 6 + j
      rw [give_old (h.lt b (by omega))]; exact x
    · have x' : give o w w' (4 + k) b = 6 + j := x
      by_cases e2 : w.heap.size ≤ b ∧ b < w'.heap.size
      · exact e2.2
      · unfold give at x'
        rw [if_neg e2] at x'
        exact Nat.lt_of_lt_of_le (h.lt b (by omega)) hc.size
/-- device k of the document turned, and its power -/
theorem Mid.ref (h : Mid o w T p q D E ns N s d s2 d2) (hk : k < 2) (hs : s2'.done ≤ N) (hf : ∀ k, s2'.fuse = some k → k ≤ 1048576) (hq : Qw w' q s2') (hd : ∃ gs vs, RvAt w' (Ext (fun b => o b = 6 + k) w w') (E k) q (ns k) d'.S d'.rd d'.wr gs vs) (hc : Chg (fun b => o b = 6 + k ∨ b = q) w w') :
    Mid (give o w w' (6 + k)) w' T p q D E ns N s d s2' (upd d2 k d') ∧ Ex o (give o w w' (6 + k)) w w' := by
  have keep : ∀ b, b < w.heap.size → o b ≠ 6 + k → o b ≠ 3 → w'.heap[b]? = w.heap[b]? := fun b hb h1 h2 => hc.block b hb (fun x => x.elim h1 (fun e => h2 (e ▸ h.oq)))
  refine ⟨⟨?_, ?_, ?_, ?_, fun b x => ?_, ?_, hq, fun j hj => ?_, fun j hj => ?_, h.hN, h.hs, hs, hf⟩, ⟨fun b hb => give_old hb, hc.os, hc.tape, hc.output, hc.size, fun b hb ho => keep b hb (by omega) (by omega)⟩⟩
  · exact (keep T (lt_of_heap h.head) (by rw [h.oT]; omega) (by rw [h.oT]; omega)).trans h.head
  · rw [give_old (lt_of_heap h.head)]; exact h.oT
  · rw [give_old h.pw.lt]; exact h.op
  · rw [give_old h.qw.lt]; exact h.oq
  · by_cases e : w.heap.size ≤ b ∧ b < w'.heap.size
    · exact e.2
    · have : o b ≠ 0 := by unfold give at x; rw [if_neg e] at x; exact x
      exact Nat.lt_of_lt_of_le (h.lt b this) hc.size
  · exact h.pw.heap (keep p h.pw.lt (by rw [h.op]; omega) (by rw [h.op]; omega))
  · refine (h.dv j hj).frame (fun b x => ?_) (fun b x => ?_) (fun b x => keep b (h.lt b (by omega)) (by omega) (by omega))
    · show give o w w' (6 + k) b = 4 + j
      rw [give_old (h.lt b (by omega))]; exact x
    · have x' : give o w w' (6 + k) b = 4 + j := x
      by_cases e2 : w.heap.size ≤ b ∧ b < w'.heap.size
      · exact e2.2
      · unfold give at x'
        rw [if_neg e2] at x'
        exact Nat.lt_of_lt_of_le (h.lt b (by omega)) hc.size
  · by_cases e : j = k
    · subst e
      rw [upd_same]
      obtain ⟨gs, vs, x0⟩ := hd
      refine ⟨gs, vs, x0.frame (fun b x => ?_) (fun b x => ?_) (fun _ _ => rfl)⟩
      · rcases x with x | x
        · show give o w w' (6 + j) b = 6 + j
          rw [give_old (h.lt b (by omega))]; exact x
        · exact give_new x
      · by_cases e : w.heap.size ≤ b ∧ b < w'.heap.size
        · exact e.2
        · have x' : give o w w' (6 + j) b = 6 + j := x
          unfold give at x'
          rw [if_neg e] at x'
          exact Nat.lt_of_lt_of_le (h.lt b (by omega)) hc.size
    · rw [upd_other _ _ e]
      obtain ⟨gs, vs, x0⟩ := h.rv j hj
      refine ⟨gs, vs, x0.frame (fun b x => ?_) (fun b x => ?_) (fun b x => keep b (h.lt b (by omega)) (by omega) (by omega))⟩
      · show give o w w' (6 + k) b = 6 + j
        rw [give_old (h.lt b (by omega))]; exact x
      · have x' : give o w w' (6 + k) b = 6 + j := x
        by_cases e2 : w.heap.size ≤ b ∧ b < w'.heap.size
        · exact e2.2
        · unfold give at x'
          rw [if_neg e2] at x'
          exact Nat.lt_of_lt_of_le (h.lt b (by omega)) hc.size
end
end Go.Proofs.Ytdkniholeaiemaa.W
