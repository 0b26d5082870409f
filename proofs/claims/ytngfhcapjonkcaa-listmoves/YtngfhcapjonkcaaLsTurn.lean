/-
  Contracts of putBehind, Remove, Push, Append: what they leave in memory. No conditions.
-/
import Derived.Test.YtngfhcapjonkcaaLsAsk
namespace Go.Proofs.Ytngfhcapjonkcaa.W
open Go.RowKit Rw
set_option linter.unusedVariables false

def setPrev (f : Nat → Lnk) (i a : Nat) : Nat → Lnk := fun j => if j = i then ⟨a, (f j).next, (f j).list⟩ else f j
def setNext (f : Nat → Lnk) (i a : Nat) : Nat → Lnk := fun j => if j = i then ⟨(f j).prev, a, (f j).list⟩ else f j
def setLnk (f : Nat → Lnk) (i : Nat) (l : Lnk) : Nat → Lnk := fun j => if j = i then l else f j
def setSize (s : Nat → Nat) (i a : Nat) : Nat → Nat := fun j => if j = i then a else s j

theorem lc_prev (f : Nat → Lnk) (i a : Nat) : (fun j => if j = i * 3 then Value.int .i64 (a : Int) else lc f j) = lc (setPrev f i a) := by
  funext j
  by_cases h : j / 3 = i
  · have hs : setPrev f i a (j / 3) = ⟨a, (f (j / 3)).next, (f (j / 3)).list⟩ := if_pos h
    unfold lc
    rw [hs]
    by_cases h0 : j % 3 = 0
    · rw [if_pos (by omega), if_pos h0]
    · rw [if_neg (by omega), if_neg h0, if_neg h0]
  · have hs : setPrev f i a (j / 3) = f (j / 3) := if_neg h
    rw [if_neg (by omega)]
    unfold lc
    rw [hs]
theorem lc_next (f : Nat → Lnk) (i a : Nat) : (fun j => if j = i * 3 + 1 then Value.int .i64 (a : Int) else lc f j) = lc (setNext f i a) := by
  funext j
  by_cases h : j / 3 = i
  · have hs : setNext f i a (j / 3) = ⟨(f (j / 3)).prev, a, (f (j / 3)).list⟩ := if_pos h
    unfold lc
    rw [hs]
    by_cases h0 : j % 3 = 0
    · rw [if_neg (by omega), if_pos h0, if_pos h0]
    · by_cases h1 : j % 3 = 1
      · rw [if_pos (by omega), if_neg h0, if_pos h1]
      · rw [if_neg (by omega), if_neg h0, if_neg h1, if_neg h0, if_neg h1]
  · have hs : setNext f i a (j / 3) = f (j / 3) := if_neg h
    rw [if_neg (by omega)]
    unfold lc
    rw [hs]

/-- what a call leaves that turns two blocks -/
structure Turn2 (w w' : World) (g1 g2 : Nat) : Prop where
  os : w'.os = w.os
  tape : w'.tape = w.tape
  output : w'.output = w.output
  size : w.heap.size ≤ w'.heap.size
  block : ∀ k, k < w.heap.size → k ≠ g1 → k ≠ g2 → w'.heap[k]? = w.heap[k]?
theorem Turn2.refl (w : World) (g1 g2 : Nat) : Turn2 w w g1 g2 := ⟨rfl, rfl, rfl, Nat.le_refl _, fun _ _ _ _ => rfl⟩
theorem Turn2.trans {a b c : World} {g1 g2 : Nat} (h : Turn2 a b g1 g2) (k : Turn2 b c g1 g2) : Turn2 a c g1 g2 :=
  ⟨k.os.trans h.os, k.tape.trans h.tape, k.output.trans h.output, Nat.le_trans h.size k.size, fun i hi h1 h2 => (k.block i (Nat.lt_of_lt_of_le hi h.size) h1 h2).trans (h.block i hi h1 h2)⟩
theorem Turn2.below {a b : World} {g1 g2 : Nat} (h : Below a.heap.size a b) : Turn2 a b g1 g2 := ⟨h.os, h.tape, h.output, h.size, fun i hi _ _ => h.block i hi⟩
theorem Turn2.dn (w : World) (n g1 g2 : Nat) : Turn2 w (w.drewN n) g1 g2 := Turn2.below (below_drewN (Below.refl _ _) n)
theorem Turn2.set {a b : World} {g1 g2 : Nat} (h : Turn2 a b g1 g2) (x : Addr) (u : Value) (hx : x.block = g1 ∨ x.block = g2 ∨ a.heap.size ≤ x.block) : Turn2 a (b.setCell x u) g1 g2 :=
  ⟨h.os, h.tape, h.output, by simp [World.setCell]; exact h.size, fun i hi h1 h2 => (Below.heap_setCell _ _ _ _ (by omega)).trans (h.block i hi h1 h2)⟩
theorem Turn2.alloc {a b : World} {g1 g2 : Nat} (h : Turn2 a b g1 g2) (o : Obj) : Turn2 a (b.alloc o) g1 g2 :=
  h.trans (Turn2.below ((Below.refl _ _).alloc (Nat.le_refl _) o))
/-- what lies below B is as it was, if both blocks lie beyond -/
theorem Turn2.under {a b c : World} {g1 g2 B : Nat} (h : Turn2 b c g1 g2) (hb : Below B a b) (hB : B ≤ b.heap.size) (h1 : B ≤ g1) (h2 : B ≤ g2) : Below B a c :=
  hb.trans ⟨h.os, h.tape, h.output, h.size, fun k hk => h.block k (by omega) (by omega) (by omega)⟩

section
variable {w w' : World} {R g1 g2 n m N : Nat} {f : Nat → Lnk} {s : Nat → Nat}
theorem St.setPrev (h : St w R g1 g2 n m N f s) (i a : Nat) : St (w.setCell ⟨g1, i * 3, none⟩ (.int .i64 (a : Int))) R g1 g2 n m N (setPrev f i a) s :=
  ⟨(Below.heap_setCell _ _ _ _ h.apart.1).trans h.head, by rw [← lc_prev]; exact h.ring.set _ _, h.sizes.setOther h.apart.2.2.symm _, h.sum, h.hn, h.hm⟩
theorem St.setNext (h : St w R g1 g2 n m N f s) (i a : Nat) : St (w.setCell ⟨g1, i * 3 + 1, none⟩ (.int .i64 (a : Int))) R g1 g2 n m N (setNext f i a) s :=
  ⟨(Below.heap_setCell _ _ _ _ h.apart.1).trans h.head, by rw [← lc_next]; exact h.ring.set _ _, h.sizes.setOther h.apart.2.2.symm _, h.sum, h.hn, h.hm⟩
theorem St.setLnk (h : St w R g1 g2 n m N f s) (i p q : Nat) (k : Int) : St (((w.setCell ⟨g1, i * 3, none⟩ (.int .i64 (p : Int))).setCell ⟨g1, i * 3 + 1, none⟩ (.int .i64 (q : Int))).setCell ⟨g1, i * 3 + 2, none⟩ (.int .i64 k)) R g1 g2 n m N (setLnk f i ⟨p, q, k⟩) s := by
  have h2 := (h.setPrev i p).setNext i q
  refine ⟨(Below.heap_setCell _ _ _ _ h.apart.1).trans h2.head, ?_, h2.sizes.setOther h.apart.2.2.symm _, h.sum, h.hn, h.hm⟩
  rw [show lc (W.setLnk f i ⟨p, q, k⟩) = fun j => if j = i * 3 + 2 then Value.int .i64 k else lc (W.setNext (W.setPrev f i p) i q) j from ?_]
  · exact h2.ring.set _ _
  · funext j
    by_cases hj : j / 3 = i
    · have e1 : W.setLnk f i ⟨p, q, k⟩ (j / 3) = ⟨p, q, k⟩ := if_pos hj
      have e2 : W.setPrev f i p (j / 3) = ⟨p, (f (j / 3)).next, (f (j / 3)).list⟩ := if_pos hj
      have e3 : W.setNext (W.setPrev f i p) i q (j / 3) = ⟨p, q, (f (j / 3)).list⟩ := by
        have : W.setNext (W.setPrev f i p) i q (j / 3) = ⟨(W.setPrev f i p (j / 3)).prev, q, (W.setPrev f i p (j / 3)).list⟩ := if_pos hj
        rw [this, e2]
      unfold lc
      rw [e1, e3]
      by_cases h0 : j % 3 = 0
      · rw [if_pos h0, if_neg (by omega), if_pos h0]
      · by_cases h1 : j % 3 = 1
        · rw [if_neg h0, if_pos h1, if_neg (by omega), if_neg h0, if_pos h1]
        · rw [if_neg h0, if_neg h1, if_pos (by omega)]
    · have e1 : W.setLnk f i ⟨p, q, k⟩ (j / 3) = f (j / 3) := if_neg hj
      have e3 : W.setNext (W.setPrev f i p) i q (j / 3) = f (j / 3) := by
        have : W.setNext (W.setPrev f i p) i q (j / 3) = W.setPrev f i p (j / 3) := if_neg hj
        rw [this]
        exact if_neg hj
      rw [if_neg (by omega)]
      unfold lc
      rw [e1, e3]
theorem St.setSize (h : St w R g1 g2 n m N f s) (k z : Nat) : St (w.setCell ⟨g2, k, none⟩ (.int .i64 (z : Int))) R g1 g2 n m N f (setSize s k z) := by
  refine ⟨(Below.heap_setCell _ _ _ _ h.apart.2.1).trans h.head, h.ring.setOther h.apart.2.2 _, ?_, h.sum, h.hn, h.hm⟩
  refine (h.sizes.set k (.int .i64 (z : Int))).congr fun j _ => ?_
  unfold sc W.setSize
  by_cases e : j = k
  · rw [if_pos e, if_pos e]
  · rw [if_neg e, if_neg e]
theorem St.alloc (h : St w R g1 g2 n m N f s) (o : Obj) : St (w.alloc o) R g1 g2 n m N f s := h.below ((Below.refl _ _).alloc (Nat.le_refl _) o)
theorem St.other (h : St w R g1 g2 n m N f s) (x : Addr) (u : Value) (hx : w.heap.size ≤ x.block) : St (w.setCell x u) R g1 g2 n m N f s :=
  h.below ((Below.refl _ _).setCell hx u)
end

/-- what a call leaves that turns the lists -/
def Turned (w : World) (R g1 g2 n m N : Nat) (f : Nat → Lnk) (s : Nat → Nat) (u : Value) (e : Ending) (w' : World) : Prop := e = .returned u ∧ St w' R g1 g2 n m N f s ∧ Turn2 w w' g1 g2

set_option maxHeartbeats 2000000 in
theorem putBehind_any {w : World} {R g1 g2 n m N : Nat} {f : Nat → Lnk} {s : Nat → Nat} (h : St w R g1 g2 n m N f s) (p a q k z : Nat) (hp : p < N) (ha : a < N) (hq : q < N) (hk : k < m) (hpa : p ≠ a) (hqa : q ≠ a)
    (hpq : (f p).next = q) (hpk : (f p).list = (k : Int)) (hz : s k = z) (hz2 : z ≤ 2000) :
    Calls Try.prog 27 #[.pointer (some ⟨R, 0, none⟩), .int .i64 (p : Int), .int .i64 (a : Int)] w
      (Turned w R g1 g2 n m N (setPrev (setNext (setLnk f a ⟨p, q, (k : Int)⟩) p a) q a) (setSize s k (z + 1)) (.tuple #[])) := by
  obtain ⟨c0, c1, c2⟩ := h.cells
  obtain ⟨n1, n2, n3⟩ := h.apart
  have hN := h.sum
  have hn := h.hn
  have hm := h.hm
  have c3 := h.next hp
  have c4 := h.list hp
  have c5 := h.size hk
  have c6 := h.prev hq
  have a0 := h.prev ha
  have a1 := h.next ha
  have a2 := h.list ha
  have fr : ∀ i, w.frozen? ⟨g1, i, none⟩ = false := h.ring.frozen
  have fr2 : ∀ i, w.frozen? ⟨g2, i, none⟩ = false := h.sizes.frozen
  rw [hpq] at c3
  rw [hpk] at c4
  rw [hz] at c5
  have HE : Hid (∀ nq, Turned w R g1 g2 n m N (setPrev (setNext (setLnk f a ⟨p, q, (k : Int)⟩) p a) q a) (setSize s k (z + 1)) (.tuple #[]) (.returned (.tuple #[])) _) := fun nq => ⟨rfl, (((((h.dn nq).setLnk a p q (k : Int)).setNext p a).setPrev q a).setSize k (z + 1)), ((((((Turn2.dn w nq g1 g2).set _ _ (.inl rfl)).set _ _ (.inl rfl)).set _ _ (.inl rfl)).set _ _ (.inl rfl)).set _ _ (.inl rfl)).set _ _ (.inr (.inl rfl))⟩
  have hp0 : (0 : Int) ≤ (p : Int) := by omega
  have hp1 : (p : Int) < (N : Int) := by omega
  clear h c0 hN hpq hpk hz
  go_enter Try.func27, Try.ntmps27
  go_wp2_with fail
  go_quiet (fail)
  go_wp2
  go_end0
  exact HE.out _
end Go.Proofs.Ytngfhcapjonkcaa.W
