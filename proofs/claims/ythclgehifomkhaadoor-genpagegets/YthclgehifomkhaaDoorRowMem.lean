/-
  Rows of values of one cell each: slices that read as a list of values, rows of the call's own; make, append, stores. No conditions.
-/
import Derived.WalkKit
import Derived.Below
import Derived.OwnWalk
import Derived.Laws.OwnMore
import Derived.Laws.Rows
import Derived.Maps.AppendAt
import Derived.Deep.Draws
import Derived.Lib.Hide
namespace Go.Proofs.YthclgehifomkhaaDoor.Rw
open Go.RowKit

/-- what a slice's type must be: its elements take one cell each -/
structure ElTy (P : Program) (t e : TypeId) (z : Value) (bytes : Nat) : Prop where
  sl : P.underlying t = some (.slice e)
  info : (P.info? e).map (fun i => (i.zero, i.size, i.bytes)) = some (some z, 1, bytes)
  one : z.cells = #[z]
  small : bytes ≤ 64

/-- the slice at A, of n elements, reads as vs -/
def Sl (w : World) (A : Option Addr) (n : Nat) (vs : List Value) : Prop :=
  vs.length = n ∧ (0 < n → ∃ b off, A = some ⟨b, off, none⟩ ∧ ∀ (j : Nat) (u : Value), vs[j]? = some u → w.cell? ⟨b, off + j, none⟩ = some u)

section
variable {w w' : World} {A : Option Addr} {n k c R : Nat} {vs : List Value} {u : Value}
theorem Sl.len (h : Sl w A n vs) : vs.length = n := h.1
theorem Sl.nil (w : World) (A : Option Addr) : Sl w A 0 [] := ⟨rfl, fun h => absurd h (by omega)⟩
theorem Sl.at_ (h : Sl w A n vs) (hu : vs[k]? = some u) : ∃ b off, A = some ⟨b, off, none⟩ ∧ w.cell? ⟨b, off + k, none⟩ = some u := by
  have hk := (List.getElem?_eq_some_iff.1 hu).1
  obtain ⟨b, off, e, hc⟩ := h.2 (by have := h.1; omega)
  exact ⟨b, off, e, hc k u hu⟩
theorem Sl.lt {b off : Nat} (h : Sl w A n vs) (hn : 0 < n) (e : A = some ⟨b, off, none⟩) : b < w.heap.size := by
  have hl := h.1
  obtain ⟨b', off', e', hc⟩ := h.at_ (k := 0) (List.getElem?_eq_getElem (by omega))
  rw [e] at e'
  injection e' with e'
  injection e' with e1
  subst e1
  exact World.block_lt_of_cell? w _ hc
theorem Sl.heap (h : Sl w A n vs) (hk : ∀ b off, 0 < n → A = some ⟨b, off, none⟩ → w'.heap[b]? = w.heap[b]?) : Sl w' A n vs :=
  ⟨h.1, fun hn => by
    obtain ⟨b, off, e, hc⟩ := h.2 hn
    exact ⟨b, off, e, fun j x hx => (World.cell?_of_block (a := ⟨b, off + j, none⟩) (hk b off hn e)).trans (hc j x hx)⟩⟩
theorem Sl.below (h : Sl w A n vs) (hb : Below w.heap.size w w') : Sl w' A n vs := h.heap fun _ _ hn e => hb.block _ (h.lt hn e)
theorem Sl.alloc (h : Sl w A n vs) (o : Obj) : Sl (w.alloc o) A n vs := h.heap fun _ _ hn e => Below.heap_alloc w o _ (h.lt hn e)
theorem Sl.drewN (h : Sl w A n vs) (m : Nat) : Sl (w.drewN m) A n vs := h
theorem Sl.drew (h : Sl w A n vs) : Sl w.drew A n vs := h
theorem Sl.grown (h : Sl w A n vs) (hg : w.grownBy w' (some R)) (hne : ∀ off, 0 < n → A ≠ some ⟨R, off, none⟩) : Sl w' A n vs :=
  h.heap fun b off hn e => hg.block b (h.lt hn e) fun e' => by
    injection e' with e'
    subst e'
    exact hne off hn e
theorem Sl.take (h : Sl w A n vs) (hk : k ≤ n) : Sl w A k (vs.take k) :=
  ⟨by rw [List.length_take, h.1]; omega, fun hp => by
    obtain ⟨b, off, e, hc⟩ := h.2 (by omega)
    refine ⟨b, off, e, fun j x hx => hc j x ?_⟩
    rw [List.getElem?_take] at hx
    split at hx
    · exact hx
    · cases hx⟩
theorem Sl.map (h : Sl w A n vs) (hk : k ≤ n) : Sl w (Option.map (fun x => x.add k) A) (n - k) (vs.drop k) := by
  refine ⟨by rw [List.length_drop, h.1], fun hp => ?_⟩
  obtain ⟨b, off, rfl, hcell⟩ := h.2 (by omega)
  refine ⟨b, off + k, ?_, fun j x hx => ?_⟩
  · show some (Addr.add ⟨b, off, none⟩ k) = _
    rw [Go.WideShapes.add_plain]
  · rw [List.getElem?_drop] at hx
    rw [Nat.add_assoc]
    exact hcell _ x hx
end

/-- v is a slice of the call's own (from block B on) that holds vs -/
def OwnV (w : World) (e : TypeId) (B : Nat) (v : Value) (vs : List Value) : Prop := w.ownsRow B e 1 v vs.length vs

section
variable {w w' : World} {e : TypeId} {B : Nat} {v : Value} {vs : List Value}
theorem OwnV.nil (w : World) (e : TypeId) (B : Nat) : OwnV w e B (.slice none 0 0) [] := World.ownsRow_nil w B e 1
theorem OwnV.alloc (h : OwnV w e B v vs) (o : Obj) : OwnV (w.alloc o) e B v vs := World.ownsRow.alloc h o
theorem OwnV.drew (h : OwnV w e B v vs) : OwnV w.drew e B v vs := h
theorem OwnV.drewN (h : OwnV w e B v vs) (n : Nat) : OwnV (w.drewN n) e B v vs := h
theorem OwnV.more {B' : Nat} (h : OwnV w e B v vs) (hB : B' ≤ B) : OwnV w e B' v vs := by
  rcases h.2 with h0 | ⟨g, cap, cur, h1, h2, h3⟩
  · exact ⟨h.1, .inl h0⟩
  · exact ⟨h.1, .inr ⟨g, cap, cur, h1, by omega, h3⟩⟩
theorem OwnV.ge (h : OwnV w e B v vs) : ∀ g, v.ownBlock = some g → B ≤ g ∧ g < w.heap.size := by
  intro g hg
  rcases h.2 with ⟨rfl, _⟩ | ⟨g', cap, cur, rfl, hb, hh, _⟩
  · cases hg
  · have : g' = g := by simpa [Value.ownBlock] using hg
    subst this
    refine ⟨hb, ?_⟩
    rcases Nat.lt_or_ge g' w.heap.size with h1 | h1
    · exact h1
    · rw [Array.getElem?_eq_none h1] at hh; cases hh
/-- its form, and that it reads as vs -/
theorem OwnV.form {n : Nat} (h : OwnV w e B v vs) (hl : vs.length = n) : ∃ A c, v = .slice A n c ∧ n ≤ c ∧ c ≤ maxLen ∧ Sl w A n vs := by
  subst hl
  rcases h.2 with ⟨rfl, h0⟩ | ⟨g, cap, cur, rfl, hb, hh, hn, hm, hs, ht⟩
  · have hx : vs = [] := List.eq_nil_of_length_eq_zero h0
    subst hx
    exact ⟨none, 0, rfl, Nat.le_refl _, Nat.zero_le _, Sl.nil _ _⟩
  · refine ⟨_, cap, rfl, hn, hm, rfl, fun _ => ⟨g, 0, rfl, fun j x hx => ?_⟩⟩
    have hj : j < vs.length := (List.getElem?_eq_some_iff.1 hx).1
    have := World.ownsRow.cellAt (w := w) (base := B) (e := e) (size := 1) (g := g) (n := vs.length) (cap := cap) (xs := vs) h j (by omega)
    rw [Nat.zero_add, this]
    exact hx
theorem OwnV.here {n : Nat} (h : OwnV w e B v vs) (hn : vs.length = n) (h0 : 0 < n) : ∃ g cap, v = .slice (some ⟨g, 0, none⟩) n cap ∧ B ≤ g ∧ n ≤ cap := by
  rcases h.2 with ⟨_, hn⟩ | ⟨g, cap, cur, hv, hb, _, hc, _⟩
  · omega
  · exact ⟨g, cap, by rw [hv, hn], hb, by omega⟩
theorem OwnV.cell {g cap n j : Nat} {u : Value} (h : OwnV w e B (.slice (some ⟨g, 0, none⟩) n cap) vs) (hn : vs.length = n) (hx : vs[j]? = some u) : w.cell? ⟨g, j, none⟩ = some u ∧ w.frozen? ⟨g, j, none⟩ = false := by
  subst hn
  have hj : j < vs.length := (List.getElem?_eq_some_iff.1 hx).1
  refine ⟨?_, World.ownsRow.frozenAt (base := B) (e := e) (size := 1) (xs := vs) h j⟩
  have := World.ownsRow.cellAt (w := w) (base := B) (e := e) (size := 1) (xs := vs) h j (by omega)
  rw [this, hx]
theorem OwnV.set {g cap n j : Nat} (h : OwnV w e B (.slice (some ⟨g, 0, none⟩) n cap) vs) (hn : vs.length = n) (u : Value) :
    OwnV (w.setCell ⟨g, j, none⟩ u) e B (.slice (some ⟨g, 0, none⟩) n cap) (vs.set j u) ∧ w.grownBy (w.setCell ⟨g, j, none⟩ u) (some g) := by
  subst hn
  obtain ⟨h1, h2⟩ := World.ownsRow.stored (w := w) (base := B) (e := e) (size := 1) (xs := vs) h j u
  refine ⟨?_, h2⟩
  unfold OwnV
  rw [List.length_set]
  exact h1
theorem OwnV.keep (h : OwnV w e B v vs) (hk : ∀ g, v.ownBlock = some g → w'.heap[g]? = w.heap[g]?) : OwnV w' e B v vs := by
  rcases h.2 with h0 | ⟨g, cap, cur, rfl, hb, hh, h3⟩
  · exact ⟨h.1, .inl h0⟩
  · exact ⟨h.1, .inr ⟨g, cap, cur, rfl, hb, (hk g rfl).trans hh, h3⟩⟩
theorem OwnV.below (h : OwnV w e B v vs) (hb : Below w.heap.size w w') : OwnV w' e B v vs := h.keep fun g hg => hb.block g (h.ge g hg).2
end

/-- append of values onto a row of the call's own -/
theorem run_append_row {P : Program} {t e ty : TypeId} {z : Value} {bytes : Nat} {w : World} {B : Nat} {v : Value} {xs ys : List Value} {A : Option Addr} {m : Nat} (c : Nat) (hT : ElTy P t e z bytes) (hown : OwnV w e B v xs) (hs : Sl w A m ys)
    (h1 : ∀ u ∈ ys, u.oneCell' = true) (hl : xs.length + m ≤ 1000000000000) (hB : B ≤ w.heap.size) :
    ∃ v' w', (Builtin.append_ #[t, t] ty #[v, .slice A m c]).run P w = .ok v' w' ∧ OwnV w' e B v' (xs ++ ys) ∧ w.grownBy w' v.ownBlock ∧ (v'.ownBlock = v.ownBlock ∨ v'.ownBlock = some w.heap.size) := by
  obtain ⟨i, hi, hz0, hz1, hz2⟩ := info_parts hT.info
  rcases A with _ | ad
  · have hn : m = 0 := by
      rcases Nat.eq_zero_or_pos m with h0 | h0
      · exact h0
      · obtain ⟨_, _, e, _⟩ := hs.2 h0; cases e
    subst hn
    have hx : ys = [] := List.eq_nil_of_length_eq_zero hs.1
    subst hx
    refine ⟨v, w, ?_, by simpa using hown, World.grownBy.refl w _, .inl rfl⟩
    rcases hown.2 with ⟨rfl, _⟩ | ⟨g, cap, cur, rfl, _, _, hnc, _⟩
    · simp [Builtin.append_, run_underlying hT.sl, sizeOf, typeInfo, hi, Builtin.lenOf, Builtin.firstCells]
    · simp [Builtin.append_, run_underlying hT.sl, sizeOf, typeInfo, hi, Builtin.lenOf, Builtin.firstCells, hnc, storeCells]
  · have e := hs.1
    subst e
    have hb := hT.small
    have hbm : (xs.length + ys.length) * bytes ≤ 1000000000000 * 64 := Nat.mul_le_mul hl hb
    obtain ⟨v', w', hr, h2, h3, _, h5⟩ := run_append_own_at (P := P) w B t ty e i z 1 bytes hT.sl hi hz0 hz1 hz2 (by rw [hT.one]; rfl) (by decide) v xs.length xs hown ad ys.length c ys (by simp) (fun j u hu => by
        obtain ⟨b, off, e, hc⟩ := hs.at_ hu
        injection e with e
        subst e
        rw [Go.WideShapes.add_plain]; exact hc) h1 (by unfold maxLen; omega) (by omega) hB
    refine ⟨v', w', hr, ?_, h3, h5⟩
    unfold OwnV
    rw [List.length_append]
    exact h2

/-- the same, with the words of a walk whose own rows begin at block B -/
theorem wpList_append_row {P : Program} {w : World} {ops : Array Oper} {rest : List Oper} {o : Oper} {a : Act} {Q : Exit → Act → World → Prop} (hgd : o.guard = none) (s x : Operand) (t : TypeId)
    (ho : o.op = .call { callee := .builtin .append, args := #[s, x], argTypes := #[t, t] }) {e : TypeId} {z : Value} {bytes : Nat} (hT : ElTy P t e z bytes) {w0 : World} {v : Value} {xs : List Value} (hs : a.eval s = v) (hown : OwnV w e w0.heap.size v xs) (hb : Below w0.heap.size w0 w)
    {A : Option Addr} {m : Nat} (c : Nat) {ys : List Value} (hx : a.eval x = .slice A m c) (hr : Sl w A m ys) (h1 : ∀ u ∈ ys, u.oneCell' = true) (hl : xs.length + m ≤ 1000000000000)
    (h : ∀ v' w', OwnV w' e w0.heap.size v' (xs ++ ys) → Below w0.heap.size w0 w' → wpList P ops Q rest (a.put o.dst v') w') : wpList P ops Q (o :: rest) a w := by
  refine wpList_plain hgd fun K hK => ?_
  obtain ⟨v', w', hrun, h2, h3, _⟩ := run_append_row (P := P) (ty := o.type) c hT hown hr h1 hl hb.size
  unfold Oper.wp execOp
  simp only [ho, resolve, invoke, builtin, Sem.run_bind, Sem.run_pure, Result.andThen_ok, List.map_toArray, List.map_cons, List.map_nil, hs, hx, hrun]
  exact hK _ _ (h v' w' h2 (hb.grown h3 hb.size fun g hg => (hown.ge g hg).1))

/-- one value, laid in a block of its own -/
theorem Sl.one (w : World) (e : TypeId) (u : Value) : Sl (w.alloc (.cells #[u] e)) (some ⟨w.heap.size, 0, none⟩) 1 [u] := by
  refine ⟨rfl, fun _ => ⟨_, _, rfl, fun j y hy => ?_⟩⟩
  rw [cell_of_row _ _ _ _ _ _ (heap_alloc_new w _)]
  match j, hy with
  | 0, hy => simp at hy; subst hy; simp
/-- append of one value -/
theorem wpList_append_one {P : Program} {wr : World} {ops : Array Oper} {rest : List Oper} {o : Oper} {a : Act} {Q : Exit → Act → World → Prop} (hgd : o.guard = none) (s x : Operand) (t : TypeId)
    (ho : o.op = .call { callee := .builtin .append, args := #[s, x], argTypes := #[t, t] }) {e e' : TypeId} {z : Value} {bytes : Nat} (hT : ElTy P t e z bytes) {w0 : World} {v : Value} {xs : List Value} (hs : a.eval s = v) (hown : OwnV wr e w0.heap.size v xs) (hb : Below w0.heap.size w0 wr)
    (c : Nat) {u : Value} (hx : a.eval x = .slice (some ⟨wr.heap.size, 0, none⟩) 1 c) (h1 : u.oneCell' = true) (hl : xs.length + 1 ≤ 1000000000000)
    (h : ∀ v' w', OwnV w' e w0.heap.size v' (xs ++ [u]) → Below w0.heap.size w0 w' → wpList P ops Q rest (a.put o.dst v') w') : wpList P ops Q (o :: rest) a (wr.alloc (.cells #[u] e')) :=
  wpList_append_row hgd s x t ho hT hs (hown.alloc _) (hb.alloc hb.size _) c hx (Sl.one wr e' u) (by intro y hy; simp at hy; subst hy; exact h1) hl h

/-- make of n values -/
theorem wpList_make_row {P : Program} {w : World} {ops : Array Oper} {rest : List Oper} {o : Oper} {a : Act} {Q : Exit → Act → World → Prop} (hgd : o.guard = none) (l c : Operand) (t : TypeId) (hop : o.op = Op.makeSlice t l c)
    {e : TypeId} {z : Value} {bytes : Nat} (hT : ElTy P t e z bytes) (L C : Int) (n : Nat) (hl : a.eval l = .int .i64 L) (hc : a.eval c = .int .i64 C) (hL : L = (n : Int)) (hC : C = (n : Int)) (hn : n ≤ 1000000000000)
    (hK : ∀ w', OwnV w' e w.heap.size (.slice (some ⟨w.heap.size, 0, none⟩) n n) (List.replicate n z) → Below w.heap.size w w' → wpList P ops Q rest (a.put o.dst (.slice (some ⟨w.heap.size, 0, none⟩) n n)) w') : wpList P ops Q (o :: rest) a w := by
  obtain ⟨i, hi, hz0, hz1, hz2⟩ := info_parts hT.info
  have hb := hT.small
  have hbm : bytes * n ≤ 64 * 1000000000000 := Nat.mul_le_mul hb hn
  refine wpList_make_full w hgd l c t hop w.heap.size e i z 1 hT.sl hi hz0 hz1 .i64 .i64 L C n hl hc hL hC (by rw [hz2]; omega) (by unfold maxLen; omega) (Nat.le_refl _) fun w' h1 h2 => hK w' ?_ ?_
  · unfold OwnV
    rw [List.length_replicate]
    rwa [hT.one, Nat.mul_one, toList_madeCells_one] at h1
  · exact (Below.refl _ _).grown h2 (Nat.le_refl _) (fun _ h => by cases h)
end Go.Proofs.YthclgehifomkhaaDoor.Rw
