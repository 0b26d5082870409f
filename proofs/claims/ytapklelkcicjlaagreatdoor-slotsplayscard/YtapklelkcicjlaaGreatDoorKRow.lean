/-
  Elder texts, one behind the other: RowMem, BitMem, Gate. No conditions.
-/
import Derived.WalkKit
import Derived.Below
import Derived.OwnWalk
import Derived.Laws.OwnMore
import Derived.Laws.Rows
import Derived.Maps.AppendAt
import Derived.Deep.Draws
import Derived.Lib.Hide
import Derived.Lib.SliceRun
import Derived.OrdersHeld
/-! Rows of values of one cell each: slices that read as a list of values, rows of the call's own; make, append, stores. No conditions. -/
namespace Go.Proofs.YtapklelkcicjlaaGreatDoor.Rw
set_option maxRecDepth 100000
open Go.RowKit

/-- what a slice's type must be: its elements take one cell each -/
structure ElTy (P : Program) (t e : TypeId) (z : Value) (bytes : Nat) : Prop where
  sl : P.underlying t = some (.slice e)
  info : (P.info? e).map (fun i => (i.zero, i.size, i.bytes)) = some (some z, 1, bytes)
  one : z.cells = #[z]
  small : bytes ≤ 64

/-- the slice at A, of n elements, reads as vs -/
def Sl (w : World) (A : Option Addr) (n : Nat) (vs : List Value) : Prop :=
  vs.length = n ∧ (0 < n → ∃ b off, A = some ⟨b, off, none⟩ ∧ ∀ (j : Nat) (u : Value), vs[j]? = some u → w.cell? ⟨b, off + j, none⟩ = some u)

section
variable {w w' : World} {A : Option Addr} {n k c R : Nat} {vs : List Value} {u : Value}
theorem Sl.len (h : Sl w A n vs) : vs.length = n := h.1
theorem Sl.nil (w : World) (A : Option Addr) : Sl w A 0 [] := ⟨rfl, fun h => absurd h (by omega)⟩
theorem Sl.at_ (h : Sl w A n vs) (hu : vs[k]? = some u) : ∃ b off, A = some ⟨b, off, none⟩ ∧ w.cell? ⟨b, off + k, none⟩ = some u := by
  have hk := (List.getElem?_eq_some_iff.1 hu).1
  obtain ⟨b, off, e, hc⟩ := h.2 (by have := h.1; omega)
  exact ⟨b, off, e, hc k u hu⟩
theorem Sl.lt {b off : Nat} (h : Sl w A n vs) (hn : 0 < n) (e : A = some ⟨b, off, none⟩) : b < w.heap.size := by
  have hl := h.1
  obtain ⟨b', off', e', hc⟩ := h.at_ (k := 0) (List.getElem?_eq_getElem (by omega))
  rw [e] at e'
  injection e' with e'
  injection e' with e1
  subst e1
  exact World.block_lt_of_cell? w _ hc
theorem Sl.heap (h : Sl w A n vs) (hk : ∀ b off, 0 < n → A = some ⟨b, off, none⟩ → w'.heap[b]? = w.heap[b]?) : Sl w' A n vs :=
  ⟨h.1, fun hn => by
    obtain ⟨b, off, e, hc⟩ := h.2 hn
    exact ⟨b, off, e, fun j x hx => (World.cell?_of_block (a := ⟨b, off + j, none⟩) (hk b off hn e)).trans (hc j x hx)⟩⟩
theorem Sl.below (h : Sl w A n vs) (hb : Below w.heap.size w w') : Sl w' A n vs := h.heap fun _ _ hn e => hb.block _ (h.lt hn e)
theorem Sl.alloc (h : Sl w A n vs) (o : Obj) : Sl (w.alloc o) A n vs := h.heap fun _ _ hn e => Below.heap_alloc w o _ (h.lt hn e)
theorem Sl.drewN (h : Sl w A n vs) (m : Nat) : Sl (w.drewN m) A n vs := h
theorem Sl.drew (h : Sl w A n vs) : Sl w.drew A n vs := h
theorem Sl.grown (h : Sl w A n vs) (hg : w.grownBy w' (some R)) (hne : ∀ off, 0 < n → A ≠ some ⟨R, off, none⟩) : Sl w' A n vs :=
  h.heap fun b off hn e => hg.block b (h.lt hn e) fun e' => by
    injection e' with e'
    subst e'
    exact hne off hn e
theorem Sl.take (h : Sl w A n vs) (hk : k ≤ n) : Sl w A k (vs.take k) :=
  ⟨by rw [List.length_take, h.1]; omega, fun hp => by
    obtain ⟨b, off, e, hc⟩ := h.2 (by omega)
    refine ⟨b, off, e, fun j x hx => hc j x ?_⟩
    rw [List.getElem?_take] at hx
    split at hx
    · exact hx
    · cases hx⟩
theorem Sl.map (h : Sl w A n vs) (hk : k ≤ n) : Sl w (Option.map (fun x => x.add k) A) (n - k) (vs.drop k) := by
  refine ⟨by rw [List.length_drop, h.1], fun hp => ?_⟩
  obtain ⟨b, off, rfl, hcell⟩ := h.2 (by omega)
  refine ⟨b, off + k, ?_, fun j x hx => ?_⟩
  · show some (Addr.add ⟨b, off, none⟩ k) = _
    rw [Go.WideShapes.add_plain]
  · rw [List.getElem?_drop] at hx
    rw [Nat.add_assoc]
    exact hcell _ x hx
end

/-- v is a slice of the call's own (from block B on) that holds vs -/
def OwnV (w : World) (e : TypeId) (B : Nat) (v : Value) (vs : List Value) : Prop := w.ownsRow B e 1 v vs.length vs

section
variable {w w' : World} {e : TypeId} {B : Nat} {v : Value} {vs : List Value}
theorem OwnV.nil (w : World) (e : TypeId) (B : Nat) : OwnV w e B (.slice none 0 0) [] := World.ownsRow_nil w B e 1
theorem OwnV.alloc (h : OwnV w e B v vs) (o : Obj) : OwnV (w.alloc o) e B v vs := World.ownsRow.alloc h o
theorem OwnV.drew (h : OwnV w e B v vs) : OwnV w.drew e B v vs := h
theorem OwnV.drewN (h : OwnV w e B v vs) (n : Nat) : OwnV (w.drewN n) e B v vs := h
theorem OwnV.more {B' : Nat} (h : OwnV w e B v vs) (hB : B' ≤ B) : OwnV w e B' v vs := by
  rcases h.2 with h0 | ⟨g, cap, cur, h1, h2, h3⟩
  · exact ⟨h.1, .inl h0⟩
  · exact ⟨h.1, .inr ⟨g, cap, cur, h1, by omega, h3⟩⟩
theorem OwnV.ge (h : OwnV w e B v vs) : ∀ g, v.ownBlock = some g → B ≤ g ∧ g < w.heap.size := by
  intro g hg
  rcases h.2 with ⟨rfl, _⟩ | ⟨g', cap, cur, rfl, hb, hh, _⟩
  · cases hg
  · have : g' = g := by simpa [Value.ownBlock] using hg
    subst this
    refine ⟨hb, ?_⟩
    rcases Nat.lt_or_ge g' w.heap.size with h1 | h1
    · exact h1
    · rw [Array.getElem?_eq_none h1] at hh; cases hh
/-- its form, and that it reads as vs -/
theorem OwnV.form {n : Nat} (h : OwnV w e B v vs) (hl : vs.length = n) : ∃ A c, v = .slice A n c ∧ n ≤ c ∧ c ≤ maxLen ∧ Sl w A n vs := by
  subst hl
  rcases h.2 with ⟨rfl, h0⟩ | ⟨g, cap, cur, rfl, hb, hh, hn, hm, hs, ht⟩
  · have hx : vs = [] := List.eq_nil_of_length_eq_zero h0
    subst hx
    exact ⟨none, 0, rfl, Nat.le_refl _, Nat.zero_le _, Sl.nil _ _⟩
  · refine ⟨_, cap, rfl, hn, hm, rfl, fun _ => ⟨g, 0, rfl, fun j x hx => ?_⟩⟩
    have hj : j < vs.length := (List.getElem?_eq_some_iff.1 hx).1
    have := World.ownsRow.cellAt (w := w) (base := B) (e := e) (size := 1) (g := g) (n := vs.length) (cap := cap) (xs := vs) h j (by omega)
    rw [Nat.zero_add, this]
    exact hx
theorem OwnV.here {n : Nat} (h : OwnV w e B v vs) (hn : vs.length = n) (h0 : 0 < n) : ∃ g cap, v = .slice (some ⟨g, 0, none⟩) n cap ∧ B ≤ g ∧ n ≤ cap := by
  rcases h.2 with ⟨_, hn⟩ | ⟨g, cap, cur, hv, hb, _, hc, _⟩
  · omega
  · exact ⟨g, cap, by rw [hv, hn], hb, by omega⟩
theorem OwnV.cell {g cap n j : Nat} {u : Value} (h : OwnV w e B (.slice (some ⟨g, 0, none⟩) n cap) vs) (hn : vs.length = n) (hx : vs[j]? = some u) : w.cell? ⟨g, j, none⟩ = some u ∧ w.frozen? ⟨g, j, none⟩ = false := by
  subst hn
  have hj : j < vs.length := (List.getElem?_eq_some_iff.1 hx).1
  refine ⟨?_, World.ownsRow.frozenAt (base := B) (e := e) (size := 1) (xs := vs) h j⟩
  have := World.ownsRow.cellAt (w := w) (base := B) (e := e) (size := 1) (xs := vs) h j (by omega)
  rw [this, hx]
theorem OwnV.set {g cap n j : Nat} (h : OwnV w e B (.slice (some ⟨g, 0, none⟩) n cap) vs) (hn : vs.length = n) (u : Value) :
    OwnV (w.setCell ⟨g, j, none⟩ u) e B (.slice (some ⟨g, 0, none⟩) n cap) (vs.set j u) ∧ w.grownBy (w.setCell ⟨g, j, none⟩ u) (some g) := by
  subst hn
  obtain ⟨h1, h2⟩ := World.ownsRow.stored (w := w) (base := B) (e := e) (size := 1) (xs := vs) h j u
  refine ⟨?_, h2⟩
  unfold OwnV
  rw [List.length_set]
  exact h1
theorem OwnV.keep (h : OwnV w e B v vs) (hk : ∀ g, v.ownBlock = some g → w'.heap[g]? = w.heap[g]?) : OwnV w' e B v vs := by
  rcases h.2 with h0 | ⟨g, cap, cur, rfl, hb, hh, h3⟩
  · exact ⟨h.1, .inl h0⟩
  · exact ⟨h.1, .inr ⟨g, cap, cur, rfl, hb, (hk g rfl).trans hh, h3⟩⟩
theorem OwnV.below (h : OwnV w e B v vs) (hb : Below w.heap.size w w') : OwnV w' e B v vs := h.keep fun g hg => hb.block g (h.ge g hg).2
end

/-- append of values onto a row of the call's own -/
theorem run_append_row {P : Program} {t e ty : TypeId} {z : Value} {bytes : Nat} {w : World} {B : Nat} {v : Value} {xs ys : List Value} {A : Option Addr} {m : Nat} (c : Nat) (hT : ElTy P t e z bytes) (hown : OwnV w e B v xs) (hs : Sl w A m ys)
    (h1 : ∀ u ∈ ys, u.oneCell' = true) (hl : xs.length + m ≤ 1000000000000) (hB : B ≤ w.heap.size) :
    ∃ v' w', (Builtin.append_ #[t, t] ty #[v, .slice A m c]).run P w = .ok v' w' ∧ OwnV w' e B v' (xs ++ ys) ∧ w.grownBy w' v.ownBlock ∧ (v'.ownBlock = v.ownBlock ∨ v'.ownBlock = some w.heap.size) := by
  obtain ⟨i, hi, hz0, hz1, hz2⟩ := info_parts hT.info
  rcases A with _ | ad
  · have hn : m = 0 := by
      rcases Nat.eq_zero_or_pos m with h0 | h0
      · exact h0
      · obtain ⟨_, _, e, _⟩ := hs.2 h0; cases e
    subst hn
    have hx : ys = [] := List.eq_nil_of_length_eq_zero hs.1
    subst hx
    refine ⟨v, w, ?_, by simpa using hown, World.grownBy.refl w _, .inl rfl⟩
    rcases hown.2 with ⟨rfl, _⟩ | ⟨g, cap, cur, rfl, _, _, hnc, _⟩
    · simp [Builtin.append_, run_underlying hT.sl, sizeOf, typeInfo, hi, Builtin.lenOf, Builtin.firstCells]
    · simp [Builtin.append_, run_underlying hT.sl, sizeOf, typeInfo, hi, Builtin.lenOf, Builtin.firstCells, hnc, storeCells]
  · have e := hs.1
    subst e
    have hb := hT.small
    have hbm : (xs.length + ys.length) * bytes ≤ 1000000000000 * 64 := Nat.mul_le_mul hl hb
    obtain ⟨v', w', hr, h2, h3, _, h5⟩ := run_append_own_at (P := P) w B t ty e i z 1 bytes hT.sl hi hz0 hz1 hz2 (by rw [hT.one]; rfl) (by decide) v xs.length xs hown ad ys.length c ys (by simp) (fun j u hu => by
        obtain ⟨b, off, e, hc⟩ := hs.at_ hu
        injection e with e
        subst e
        rw [Go.WideShapes.add_plain]; exact hc) h1 (by unfold maxLen; omega) (by omega) hB
    refine ⟨v', w', hr, ?_, h3, h5⟩
    unfold OwnV
    rw [List.length_append]
    exact h2

/-- the same, with the words of a walk whose own rows begin at block B -/
theorem wpList_append_row {P : Program} {w : World} {ops : Array Oper} {rest : List Oper} {o : Oper} {a : Act} {Q : Exit → Act → World → Prop} (hgd : o.guard = none) (s x : Operand) (t : TypeId)
    (ho : o.op = .call { callee := .builtin .append, args := #[s, x], argTypes := #[t, t] }) {e : TypeId} {z : Value} {bytes : Nat} (hT : ElTy P t e z bytes) {w0 : World} {v : Value} {xs : List Value} (hs : a.eval s = v) (hown : OwnV w e w0.heap.size v xs) (hb : Below w0.heap.size w0 w)
    {A : Option Addr} {m : Nat} (c : Nat) {ys : List Value} (hx : a.eval x = .slice A m c) (hr : Sl w A m ys) (h1 : ∀ u ∈ ys, u.oneCell' = true) (hl : xs.length + m ≤ 1000000000000)
    (h : ∀ v' w', OwnV w' e w0.heap.size v' (xs ++ ys) → Below w0.heap.size w0 w' → wpList P ops Q rest (a.put o.dst v') w') : wpList P ops Q (o :: rest) a w := by
  refine wpList_plain hgd fun K hK => ?_
  obtain ⟨v', w', hrun, h2, h3, _⟩ := run_append_row (P := P) (ty := o.type) c hT hown hr h1 hl hb.size
  unfold Oper.wp execOp
  simp only [ho, resolve, invoke, builtin, Sem.run_bind, Sem.run_pure, Result.andThen_ok, List.map_toArray, List.map_cons, List.map_nil, hs, hx, hrun]
  exact hK _ _ (h v' w' h2 (hb.grown h3 hb.size fun g hg => (hown.ge g hg).1))

/-- one value, laid in a block of its own -/
theorem Sl.one (w : World) (e : TypeId) (u : Value) : Sl (w.alloc (.cells #[u] e)) (some ⟨w.heap.size, 0, none⟩) 1 [u] := by
  refine ⟨rfl, fun _ => ⟨_, _, rfl, fun j y hy => ?_⟩⟩
  rw [cell_of_row _ _ _ _ _ _ (heap_alloc_new w _)]
  match j, hy with
  | 0, hy => simp at hy; subst hy; simp
/-- append of one value -/
theorem wpList_append_one {P : Program} {wr : World} {ops : Array Oper} {rest : List Oper} {o : Oper} {a : Act} {Q : Exit → Act → World → Prop} (hgd : o.guard = none) (s x : Operand) (t : TypeId)
    (ho : o.op = .call { callee := .builtin .append, args := #[s, x], argTypes := #[t, t] }) {e e' : TypeId} {z : Value} {bytes : Nat} (hT : ElTy P t e z bytes) {w0 : World} {v : Value} {xs : List Value} (hs : a.eval s = v) (hown : OwnV wr e w0.heap.size v xs) (hb : Below w0.heap.size w0 wr)
    (c : Nat) {u : Value} (hx : a.eval x = .slice (some ⟨wr.heap.size, 0, none⟩) 1 c) (h1 : u.oneCell' = true) (hl : xs.length + 1 ≤ 1000000000000)
    (h : ∀ v' w', OwnV w' e w0.heap.size v' (xs ++ [u]) → Below w0.heap.size w0 w' → wpList P ops Q rest (a.put o.dst v') w') : wpList P ops Q (o :: rest) a (wr.alloc (.cells #[u] e')) :=
  wpList_append_row hgd s x t ho hT hs (hown.alloc _) (hb.alloc hb.size _) c hx (Sl.one wr e' u) (by intro y hy; simp at hy; subst hy; exact h1) hl h

/-- make of n values -/
theorem wpList_make_row {P : Program} {w : World} {ops : Array Oper} {rest : List Oper} {o : Oper} {a : Act} {Q : Exit → Act → World → Prop} (hgd : o.guard = none) (l c : Operand) (t : TypeId) (hop : o.op = Op.makeSlice t l c)
    {e : TypeId} {z : Value} {bytes : Nat} (hT : ElTy P t e z bytes) (L C : Int) (n : Nat) (hl : a.eval l = .int .i64 L) (hc : a.eval c = .int .i64 C) (hL : L = (n : Int)) (hC : C = (n : Int)) (hn : n ≤ 1000000000000)
    (hK : ∀ w', OwnV w' e w.heap.size (.slice (some ⟨w.heap.size, 0, none⟩) n n) (List.replicate n z) → Below w.heap.size w w' → wpList P ops Q rest (a.put o.dst (.slice (some ⟨w.heap.size, 0, none⟩) n n)) w') : wpList P ops Q (o :: rest) a w := by
  obtain ⟨i, hi, hz0, hz1, hz2⟩ := info_parts hT.info
  have hb := hT.small
  have hbm : bytes * n ≤ 64 * 1000000000000 := Nat.mul_le_mul hb hn
  refine wpList_make_full w hgd l c t hop w.heap.size e i z 1 hT.sl hi hz0 hz1 .i64 .i64 L C n hl hc hL hC (by rw [hz2]; omega) (by unfold maxLen; omega) (Nat.le_refl _) fun w' h1 h2 => hK w' ?_ ?_
  · unfold OwnV
    rw [List.length_replicate]
    rwa [hT.one, Nat.mul_one, toList_madeCells_one] at h1
  · exact (Below.refl _ _).grown h2 (Nat.le_refl _) (fun _ h => by cases h)
end Go.Proofs.YtapklelkcicjlaaGreatDoor.Rw

/-! More on rows of values of one cell each: empty ones, make with room, clear, rows of unlike types. No conditions. -/
namespace Go.Proofs.YtapklelkcicjlaaGreatDoor.Rw
set_option maxRecDepth 100000
open Go.RowKit

section
variable {w w' : World} {e e2 : TypeId} {B B2 : Nat} {v v2 : Value} {vs vs2 : List Value}
theorem OwnV.empty (w : World) (e : TypeId) (B : Nat) (hB : B ≤ w.heap.size) : OwnV (w.alloc (.cells #[] e)) e B (.slice (some ⟨w.heap.size, 0, none⟩) 0 0) [] := World.ownsRow_lit (base := B) (e := e) (size := 1) w #[] 0 hB (by decide) rfl
theorem OwnV.block (h : OwnV w e B v vs) {g : Nat} (hg : v.ownBlock = some g) : ∃ cur, w.heap[g]? = some (.cells cur e (0, 0)) := by
  rcases h.2 with ⟨rfl, _⟩ | ⟨g', cap, cur, rfl, _, hh, _⟩
  · cases hg
  · have : g' = g := by simpa [Value.ownBlock] using hg
    subst this
    exact ⟨cur, hh⟩
/-- what turns in a row of another type leaves this one -/
theorem OwnV.apart (h : OwnV w e B v vs) (h2 : OwnV w e2 B2 v2 vs2) (hT : e ≠ e2) (hg : w.grownBy w' v2.ownBlock) : OwnV w' e B v vs :=
  h.keep fun g hv => hg.block g (h.ge g hv).2 fun hn => by
    obtain ⟨c1, k1⟩ := h.block hv
    obtain ⟨c2, k2⟩ := h2.block hn.symm
    rw [k1] at k2
    injection k2 with k2
    injection k2 with _ k3
    exact hT k3
/-- what turns in another row leaves this one -/
theorem OwnV.other (h : OwnV w e B v vs) {row : Option Nat} (hg : w.grownBy w' row) (hne : ∀ g, v.ownBlock = some g → some g ≠ row) : OwnV w' e B v vs :=
  h.keep fun g hv => hg.block g (h.ge g hv).2 (hne g hv)
end

theorem fill_take (vs : List Value) (u : Value) (us : List Value) (k : Nat) (h : k < vs.length) : (vs.set k u).take (k + 1) ++ us = vs.take k ++ u :: us := by
  rw [List.take_succ_eq_append_getElem (by rw [List.length_set]; exact h), List.take_set_of_le (Nat.le_refl k), List.getElem_set_self, List.append_assoc]
  rfl
theorem grown_step {a b c : World} {R : Option Nat} (h : a.grownBy b R) (k : b.grownBy c R) : a.grownBy c R :=
  ⟨k.os.trans h.os, k.tape.trans h.tape, k.output.trans h.output, Nat.le_trans h.size k.size, fun i hi hn => (k.block i (Nat.lt_of_lt_of_le hi h.size) hn).trans (h.block i hi hn)⟩
theorem OwnV.fill {e : TypeId} {B g cap n : Nat} : ∀ (us : List Value) (k : Nat) (w : World) (vs : List Value), OwnV w e B (.slice (some ⟨g, 0, none⟩) n cap) vs → vs.length = n → k + us.length = n →
    OwnV (w.setCells g k us) e B (.slice (some ⟨g, 0, none⟩) n cap) (vs.take k ++ us) ∧ w.grownBy (w.setCells g k us) (some g)
  | [], k, w, vs, h, hn, hk => by
    rw [List.append_nil, List.take_of_length_le (by simp at hk; omega)]
    exact ⟨h, World.grownBy.refl w _⟩
  | u :: us, k, w, vs, h, hn, hk => by
    rw [List.length_cons] at hk
    obtain ⟨h1, g1⟩ := h.set (j := k) hn u
    obtain ⟨h2, g2⟩ := OwnV.fill us (k + 1) (w.setCell ⟨g, k, none⟩ u) (vs.set k u) h1 (by rw [List.length_set]; exact hn) (by omega)
    rw [fill_take vs u us k (by omega)] at h2
    exact ⟨h2, grown_step g1 g2⟩
/-- clear of a row of the call's own -/
theorem OwnV.clear {P : Program} {t e : TypeId} {z : Value} {bytes : Nat} {w : World} {B : Nat} {v : Value} {vs : List Value} (hT : ElTy P t e z bytes) (h1 : z.oneCell' = true) (h : OwnV w e B v vs) :
    ∃ w', (∀ ty, (Builtin.clear_ #[t] ty #[v]).run P w = .ok (.tuple #[]) w') ∧ OwnV w' e B v (List.replicate vs.length z) ∧ w.grownBy w' v.ownBlock := by
  obtain ⟨i, hi, hz0, hz1, hz2⟩ := info_parts hT.info
  have hv : ∀ w, (zeroValue e).run P w = .ok z w := fun w => by simp [zeroValue, typeInfo, hi, hz0]
  rcases Nat.eq_zero_or_pos vs.length with h0 | h0
  · have hx : vs = [] := List.eq_nil_of_length_eq_zero h0
    subst hx
    refine ⟨w, fun ty => ?_, h, World.grownBy.refl w _⟩
    obtain ⟨A, c, rfl, _⟩ := h.form rfl
    cases A <;> simp [Builtin.clear_, run_underlying hT.sl]
  · obtain ⟨g, cap, rfl, hb, hc⟩ := h.here rfl h0
    obtain ⟨h2, g2⟩ := OwnV.fill (List.replicate vs.length z) 0 w vs h rfl (by simp)
    refine ⟨_, fun ty => Lib.run_clear_slice w t e ty z hT.sl hv hT.one h1 g 0 vs.length cap h0 (fun j hj => ?_) (fun j hj => ?_), ?_, g2⟩
    · rw [Nat.zero_add, (h.cell rfl (List.getElem?_eq_getElem hj)).1]; rfl
    · rw [Nat.zero_add]; exact (h.cell rfl (List.getElem?_eq_getElem hj)).2
    · rwa [List.take_zero, List.nil_append] at h2

/-- make of no values, with room for n -/
theorem wpList_make_room {P : Program} {w : World} {ops : Array Oper} {rest : List Oper} {o : Oper} {a : Act} {Q : Exit → Act → World → Prop} (hgd : o.guard = none) (l c : Operand) (t : TypeId) (hop : o.op = Op.makeSlice t l c)
    {e : TypeId} {z : Value} {bytes : Nat} (hT : ElTy P t e z bytes) (C : Int) (n : Nat) (hl : a.eval l = .int .i64 0) (hc : a.eval c = .int .i64 C) (hC : C = (n : Int)) (hn : n ≤ 1000000000000)
    (hK : ∀ w', OwnV w' e w.heap.size (.slice (some ⟨w.heap.size, 0, none⟩) 0 n) [] → Below w.heap.size w w' → wpList P ops Q rest (a.put o.dst (.slice (some ⟨w.heap.size, 0, none⟩) 0 n)) w') : wpList P ops Q (o :: rest) a w := by
  obtain ⟨i, hi, hz0, hz1, hz2⟩ := info_parts hT.info
  have hb := hT.small
  have hbm : bytes * n ≤ 64 * 1000000000000 := Nat.mul_le_mul hb hn
  refine wpList_make_own w hgd l c t hop w.heap.size e i z 1 hT.sl hi hz0 hz1 .i64 .i64 C n hl hc hC (by rw [hz2]; omega) (by unfold maxLen; omega) (Nat.le_refl _) fun w' h1 h2 => hK w' h1 ?_
  exact (Below.refl _ _).grown h2 (Nat.le_refl _) (fun _ h => by cases h)
end Go.Proofs.YtapklelkcicjlaaGreatDoor.Rw

/-! A region that draws its order and ends in a store that all the rest waits for: what reads is taken first, under a condition that need not outlast that store. For any program. No conditions. -/
namespace Go.Proofs.YtapklelkcicjlaaGreatDoor.Gt
set_option maxRecDepth 100000
open Go.RowKit
set_option linter.unusedVariables false
section
variable {P : Program} {ops : Array Oper} {Q : Exit → Act → World → Prop} {md : Region.Mode} {S : World → Prop} {t : Nat}

/-- whichever comes up next; S is shown behind all but number t -/
def Gate (P : Program) (md : Region.Mode) (ops : Array Oper) (Q : Exit → Act → World → Prop) (S : World → Prop) (t : Nat) : Nat → Array Bool → Act → World → Prop
  | 0, listed, a, w => Region.ready md ops listed = [] ∧ Q .normal a w
  | fuel + 1, listed, a, w =>
    (Region.ready md ops listed = [] → Q .normal a w) ∧
    ∀ i ∈ Region.ready md ops listed, wpOp P ops Q i (fun a' w' => (i ≠ t → S w') ∧ Gate P md ops Q S t fuel (listed.setIfInBounds i true) a' w') a w

theorem Gate.any : ∀ (fuel : Nat) (listed : Array Bool) (a : Act) (w : World), Gate P md ops Q S t fuel listed a w → wpAny P md ops Q fuel listed a w
  | 0, _, _, _, h => h
  | fuel + 1, _, _, _, h => ⟨h.1, fun i hi => wpOp_mono (fun a' w' h' => Gate.any fuel _ a' w' h'.2) (h.2 i hi)⟩

theorem unlisted {listed : Array Bool} {i : Nat} (h0 : listed.getD i true = false) (h1 : listed.getD i false = true) : False := by
  rcases Nat.lt_or_ge i listed.size with h' | h'
  · simp [h'] at h0 h1; rw [h0] at h1; cases h1
  · simp [Array.getElem?_eq_none h'] at h1

/-- does number j wait for number i? -/
def waits (md : Region.Mode) (ops : Array Oper) (j i : Nat) : Bool := match ops[j]? with
  | some oj => oj.after.any fun e => Region.binds md e && e.on == i
  | none => false
theorem waits_not {j i : Nat} {listed : Array Bool} (hw : waits md ops j i = true) (hun : listed.getD i true = false) : j ∉ Region.ready md ops listed := by
  intro hj
  obtain ⟨_, oj, hoj, hall⟩ := mem_ready.1 hj
  unfold waits at hw
  rw [hoj] at hw
  obtain ⟨e, he, hb⟩ := Array.any_eq_true'.1 hw
  simp only [Bool.and_eq_true, beq_iff_eq] at hb
  have h1 := hall e he hb.1
  rw [hb.2] at h1
  exact unlisted hun h1

theorem waits_no {j i : Nat} {listed : Array Bool} (hj : j ∈ Region.ready md ops listed) (hun : listed.getD i true = false) : waits md ops j i = false := by
  cases h : waits md ops j i
  · rfl
  · exact absurd hj (waits_not h hun)
/-- who has not come up, and does not wait for number i, is apart from it -/
def Clear (md : Region.Mode) (ops : Array Oper) (i : Nat) (oi : Oper) (listed : Array Bool) : Prop :=
  ∀ j oj, ops[j]? = some oj → j ≠ i → listed.getD j true = false → waits md ops j i = false → oi.apart ops oj = true
theorem Clear.more {i : Nat} {oi : Oper} {listed : Array Bool} (h : Clear md ops i oi listed) {j : Nat} (hj : listed.getD j true = false) : Clear md ops i oi (listed.setIfInBounds j true) :=
  fun k ok hk hki hu hw => h k ok hk hki (by
    by_cases e : j = k
    · exact e ▸ hj
    · rwa [getD_set_ne true e] at hu) hw
theorem clear_of {i : Nat} {oi : Oper} {listed : Array Bool} (hi : ops[i]? = some oi) (h : Region.free md ops listed i = true) : Clear md ops i oi listed := by
  intro j oj hj hne hun hw
  refine Region.free_spec hi h j oj hj hne hun fun e he hb heq => ?_
  unfold waits at hw
  rw [hj] at hw
  have h1 : (oj.after.any fun e => Region.binds md e && e.on == i) = true := Array.any_eq_true'.2 ⟨e, he, by rw [hb, heq]; simp⟩
  have h2 : (oj.after.any fun e => Region.binds md e && e.on == i) = false := hw
  rw [h1] at h2
  cases h2
/-- what reads may be taken first, if number t waits for it -/
theorem Gate.first {i : Nat} {oi : Oper} {v : Value} (hi : ops[i]? = some oi) (hsel : ∀ (j : Nat) (o : Oper) cs b, ops[j]? = some o → o.op ≠ .select cs b)
    (hQ : ∀ c a w, Q (.panic c) (a.put oi.dst v) w → Q (.panic c) a w) (hw : waits md ops t i = true) :
    ∀ (fuel : Nat) (listed : Array Bool) (a : Act) (w : World), Clear md ops i oi listed → i ∈ Region.ready md ops listed → YieldsIf P ops S oi v a → S w →
      Gate P md ops Q S t fuel (listed.setIfInBounds i true) (a.put oi.dst v) w → Gate P md ops Q S t (fuel + 1) listed a w
  | fuel, listed, a, w, hc, hr, hy, hS, H => by
    refine ⟨fun h => absurd hr (by rw [h]; exact List.not_mem_nil), fun j hj => ?_⟩
    by_cases e : j = i
    · subst e
      exact hy.wpOp hi hS ⟨fun _ => hS, H⟩
    · match fuel, H with
      | 0, H => exact absurd (ready_mono hj e) (by rw [H.1]; exact List.not_mem_nil)
      | fuel + 1, H =>
        have hun := (mem_ready.1 hr).1
        have hjt : j ≠ t := fun h => waits_not hw hun (h ▸ hj)
        obtain ⟨hju, oj, ho, _⟩ := mem_ready.1 hj
        exact wpOp_mono (fun a' w' h => ⟨fun _ => h.2.1 hjt, Gate.first hi hsel hQ hw fuel _ a' w' (hc.more hju) (ready_mono hr (Ne.symm e)) h.1 (h.2.1 hjt) (by rw [Array.setIfInBounds_comm _ _ e]; exact h.2.2)⟩)
          (wpOp_putIf ho (hc j oj ho e hju (waits_no hj hun)) (fun cs b => hsel i oi cs b hi) (fun cs b => hsel j oj cs b ho) hQ hy (H.2 j (ready_mono hj e)))

/-- those that are taken first, one behind the other -/
def okSeq (md : Region.Mode) (ops : Array Oper) (t : Nat) : List Nat → Array Bool → Bool
  | [], _ => true
  | i :: is, listed => (ops[i]?).isSome && Region.free md ops listed i && (Region.ready md ops listed).contains i && waits md ops t i && i != t && okSeq md ops t is (listed.setIfInBounds i true)
def listedBy (is : List Nat) (listed : Array Bool) : Array Bool := is.foldl (fun l i => l.setIfInBounds i true) listed
def Taken (P : Program) (ops : Array Oper) (S : World → Prop) : List Nat → (Act → Prop) → Act → Prop
  | [], K, a => K a
  | i :: is, K, a => ∃ o v, ops[i]? = some o ∧ YieldsIf P ops S o v a ∧ Taken P ops S is K (a.put o.dst v)
theorem Gate.takes (hs : Region.noSelect ops = true) (hQ : ∀ d v c a w, Q (.panic c) (Act.put a d v) w → Q (.panic c) a w) {w : World} (hS : S w) : ∀ (is : List Nat) (fuel : Nat) (listed : Array Bool) (a : Act), okSeq md ops t is listed = true →
    Taken P ops S is (fun a' => Gate P md ops Q S t fuel (listedBy is listed) a' w) a → Gate P md ops Q S t (is.length + fuel) listed a w
  | [], fuel, listed, a, _, h => by rw [List.length_nil, Nat.zero_add]; exact h
  | i :: is, fuel, listed, a, hc, h => by
    simp only [okSeq, Bool.and_eq_true, bne_iff_ne] at hc
    obtain ⟨⟨⟨⟨⟨_, hf⟩, hr⟩, hw⟩, hit⟩, hc⟩ := hc
    obtain ⟨o, v, ho, hy, h⟩ := h
    rw [List.length_cons, show is.length + 1 + fuel = (is.length + fuel) + 1 by omega]
    exact Gate.first ho (Region.noSelect_spec hs) (hQ o.dst v) hw _ listed a w (clear_of ho hf) (by simpa using hr) hy hS (Gate.takes hs hQ hS is fuel _ _ hc h)

theorem yields_step {i : Nat} {is : List Nat} {K : Act → Prop} {a : Act} {o : Oper} (v : Value) (ho : ops[i]? = some o) (hg : o.guard = none) (hv : ∀ w, S w → (execOp a.eval o).run P w = .ok (.value v) w)
    (h : Taken P ops S is K (a.put o.dst v)) : Taken P ops S (i :: is) K a :=
  ⟨o, v, ho, .inl ⟨by simp [Region.wanted, hg], hv⟩, h⟩
theorem Gate.one {i : Nat} {o : Oper} {fuel : Nat} {listed : Array Bool} {a : Act} {w : World} (hr : Region.ready md ops listed = [i]) (ho : ops[i]? = some o)
    (h : ∀ K : Act → World → Prop, (∀ a' w', (i ≠ t → S w') → Gate P md ops Q S t fuel (listed.setIfInBounds i true) a' w' → K a' w') → if Region.wanted o (yielded ops a.tmps) = true then Oper.wp P o a w K Q else K (a.put o.dst undef) w) : Gate P md ops Q S t (fuel + 1) listed a w := by
  refine ⟨fun h0 => (by rw [hr] at h0; cases h0), fun j hj => ?_⟩
  rw [hr, List.mem_singleton] at hj
  subst hj
  have := h (fun a' w' => (j ≠ t → S w') ∧ Gate P md ops Q S t fuel (listed.setIfInBounds j true) a' w') (fun a' w' h1 h2 => ⟨h1, h2⟩)
  unfold wpOp
  rw [ho]
  dsimp only
  by_cases hw : Region.wanted o (yielded ops a.tmps) = true
  · rw [if_pos hw] at this ⊢; exact .inl this
  · rw [if_neg hw] at this ⊢; exact this
theorem Gate.next {i : Nat} {o : Oper} {fuel : Nat} {listed : Array Bool} {a : Act} {w : World} (hr : Region.ready md ops listed = [i]) (ho : ops[i]? = some o) (hg : o.guard = none)
    (h : ∀ K : Act → World → Prop, (∀ a' w', (i ≠ t → S w') → Gate P md ops Q S t fuel (listed.setIfInBounds i true) a' w' → K a' w') → Oper.wp P o a w K Q) : Gate P md ops Q S t (fuel + 1) listed a w :=
  Gate.one hr ho fun K hK => by rw [if_pos (by simp [Region.wanted, hg])]; exact h K hK
theorem Gate.fork {i j : Nat} {o o2 : Oper} {fuel : Nat} {listed : Array Bool} {a : Act} {w : World} (hr : Region.ready md ops listed = [i, j]) (ho : ops[i]? = some o) (hg : o.guard = none) (ho2 : ops[j]? = some o2) (hg2 : o2.guard = none)
    (h : ∀ K : Act → World → Prop, (∀ a' w', (i ≠ t → S w') → Gate P md ops Q S t fuel (listed.setIfInBounds i true) a' w' → K a' w') → Oper.wp P o a w K Q)
    (h2 : ∀ K : Act → World → Prop, (∀ a' w', (j ≠ t → S w') → Gate P md ops Q S t fuel (listed.setIfInBounds j true) a' w' → K a' w') → Oper.wp P o2 a w K Q) : Gate P md ops Q S t (fuel + 1) listed a w := by
  refine ⟨fun h0 => (by rw [hr] at h0; cases h0), fun x hx => ?_⟩
  rw [hr, List.mem_cons, List.mem_singleton] at hx
  rcases hx with rfl | rfl
  · have := h (fun a' w' => (x ≠ t → S w') ∧ Gate P md ops Q S t fuel (listed.setIfInBounds x true) a' w') (fun a' w' h1 h2 => ⟨h1, h2⟩)
    unfold wpOp
    rw [ho]
    dsimp only
    rw [if_pos (by simp [Region.wanted, hg])]
    exact .inl this
  · have := h2 (fun a' w' => (x ≠ t → S w') ∧ Gate P md ops Q S t fuel (listed.setIfInBounds x true) a' w') (fun a' w' h1 h2 => ⟨h1, h2⟩)
    unfold wpOp
    rw [ho2]
    dsimp only
    rw [if_pos (by simp [Region.wanted, hg2])]
    exact .inl this
theorem Gate.done {fuel : Nat} {listed : Array Bool} {a : Act} {w : World} (hr : Region.ready md ops listed = []) (h : Q .normal a w) : Gate P md ops Q S t fuel listed a w := by
  cases fuel with
  | zero => exact ⟨hr, h⟩
  | succ fuel => exact ⟨fun _ => h, by rw [hr]; simp⟩
/-- THE BEGINNING -/
theorem gate {id : Nat} {a : Act} {w : World} (S : World → Prop) (t : Nat) (is : List Nat) (fuel : Nat) (hm : P.follows .mixedOrders = true) (hs : Region.noSelect ops = true) (hc : okSeq .any ops t is (Array.replicate ops.size false) = true) (hf : ops.size = is.length + fuel)
    (hQ : ∀ d v c a w, Q (.panic c) (Act.put a d v) w → Q (.panic c) a w) (hS : S w.drew) (h : Taken P ops S is (fun a' => Gate P .any ops Q S t fuel (listedBy is (Array.replicate ops.size false)) a' w.drew) a) : (Code.region id ops true).wp P Q a w := by
  refine wp_region_any hm (Gate.any (S := S) (t := t) _ _ _ _ ?_)
  have := Gate.takes (md := .any) (t := t) (Q := Q) hs hQ hS is fuel _ a hc h
  rw [← hf] at this
  exact this
end
end Go.Proofs.YtapklelkcicjlaaGreatDoor.Gt
