/-
  Octets in memory: slices that read as octets, rows of the call's own, pairs of a slice and a mark behind a pointer; append, slices and conversions of them. No conditions.
-/
import Derived.Test.YthclgehifomkhaaDoorOctNum
import Derived.WalkKit
import Derived.Below
import Derived.OwnWalk
import Derived.Laws.OwnMore
import Derived.Laws.IdiomStrings
import Derived.Laws.Rows
import Derived.Maps.AppendAt
import Derived.Deep.Draws
import Derived.RegionTactic
import Derived.Lib.Hide
namespace Go.Proofs.YthclgehifomkhaaDoor.Oc
open Go.RowKit

/-- an octet as a cell -/
def ov (x : UInt8) : Value := .int .u8 (x.toNat : Int)
/-- octets as a text -/
def bstr (xs : List UInt8) : ByteArray := ⟨xs.toArray⟩

/-- what a slice's type must be -/
structure ByteTy (P : Program) (t e : TypeId) : Prop where
  sl : P.underlying t = some (.slice e)
  u8 : P.underlying e = some (.int .u8)
  info : (P.info? e).map (fun i => (i.zero, i.size, i.bytes)) = some (some (.int .u8 0), 1, 1)

/-- the slice at A, of n elements, reads as xs -/
def Oct (w : World) (A : Option Addr) (n : Nat) (xs : List UInt8) : Prop :=
  xs.length = n ∧ (0 < n → ∃ b off, A = some ⟨b, off, none⟩ ∧ ∀ (j : Nat) (x : UInt8), xs[j]? = some x → w.cell? ⟨b, off + j, none⟩ = some (ov x))

section
variable {w w' : World} {A : Option Addr} {n k c R : Nat} {xs : List UInt8}
theorem Oct.len (h : Oct w A n xs) : xs.length = n := h.1
theorem Oct.nil (w : World) (A : Option Addr) : Oct w A 0 [] := ⟨rfl, fun h => absurd h (by omega)⟩
theorem Oct.at_ (h : Oct w A n xs) (hk : k < n) : ∃ b off x, A = some ⟨b, off, none⟩ ∧ xs[k]? = some x ∧ w.cell? ⟨b, off + k, none⟩ = some (.int .u8 (x.toNat : Int)) := by
  obtain ⟨b, off, e, hc⟩ := h.2 (by omega)
  have hl : k < xs.length := by have := h.1; omega
  exact ⟨b, off, xs[k], e, List.getElem?_eq_getElem hl, hc k _ (List.getElem?_eq_getElem hl)⟩
theorem Oct.lt {b off : Nat} (h : Oct w A n xs) (hn : 0 < n) (e : A = some ⟨b, off, none⟩) : b < w.heap.size := by
  obtain ⟨b', off', x, e', _, hc⟩ := h.at_ hn
  rw [e] at e'
  injection e' with e'
  injection e' with e1
  subst e1
  exact World.block_lt_of_cell? w _ hc
theorem Oct.heap (h : Oct w A n xs) (hk : ∀ b off, 0 < n → A = some ⟨b, off, none⟩ → w'.heap[b]? = w.heap[b]?) : Oct w' A n xs :=
  ⟨h.1, fun hn => by
    obtain ⟨b, off, e, hc⟩ := h.2 hn
    exact ⟨b, off, e, fun j x hx => (World.cell?_of_block (a := ⟨b, off + j, none⟩) (hk b off hn e)).trans (hc j x hx)⟩⟩
theorem Oct.below (h : Oct w A n xs) (hb : Below w.heap.size w w') : Oct w' A n xs := h.heap fun _ _ hn e => hb.block _ (h.lt hn e)
theorem Oct.alloc (h : Oct w A n xs) (o : Obj) : Oct (w.alloc o) A n xs := h.heap fun _ _ hn e => Below.heap_alloc w o _ (h.lt hn e)
theorem Oct.drewN (h : Oct w A n xs) (m : Nat) : Oct (w.drewN m) A n xs := h
theorem Oct.drew (h : Oct w A n xs) : Oct w.drew A n xs := h
theorem Oct.grown (h : Oct w A n xs) (hg : w.grownBy w' (some R)) (hne : ∀ off, 0 < n → A ≠ some ⟨R, off, none⟩) : Oct w' A n xs :=
  h.heap fun b off hn e => hg.block b (h.lt hn e) fun e' => by
    injection e' with e'
    subst e'
    exact hne off hn e
theorem Oct.grown_own {row : Option Nat} (h : Oct w A n xs) (hg : w.grownBy w' row) (hr : ∀ g, row = some g → w.heap.size ≤ g) : Oct w' A n xs :=
  h.heap fun b off hn e => hg.block b (h.lt hn e) fun e' => by have := hr b e'.symm; have := h.lt hn e; omega
theorem Oct.take (h : Oct w A n xs) (hk : k ≤ n) : Oct w A k (xs.take k) :=
  ⟨by rw [List.length_take, h.1]; omega, fun hp => by
    obtain ⟨b, off, e, hc⟩ := h.2 (by omega)
    refine ⟨b, off, e, fun j x hx => hc j x ?_⟩
    rw [List.getElem?_take] at hx
    split at hx
    · exact hx
    · cases hx⟩
theorem Oct.cut (h : Oct w A n xs) (hk : k ≤ n) (hc : n ≤ c) : Oct w (if c = k then A else A.map (·.add k)) (n - k) (xs.drop k) := by
  refine ⟨by rw [List.length_drop, h.1], fun hp => ?_⟩
  obtain ⟨b, off, rfl, hcell⟩ := h.2 (by omega)
  rw [if_neg (by omega)]
  refine ⟨b, off + k, ?_, fun j x hx => ?_⟩
  · show some (Addr.add ⟨b, off, none⟩ k) = _
    rw [Go.WideShapes.add_plain]
  · rw [List.getElem?_drop] at hx
    rw [Nat.add_assoc]
    exact hcell _ x hx
/-- a cut that is not at the capacity's end, and one at any place -/
theorem Oct.map (h : Oct w A n xs) (hk : k ≤ n) : Oct w (Option.map (fun x => x.add k) A) (n - k) (xs.drop k) := by
  refine ⟨by rw [List.length_drop, h.1], fun hp => ?_⟩
  obtain ⟨b, off, rfl, hcell⟩ := h.2 (by omega)
  refine ⟨b, off + k, ?_, fun j x hx => ?_⟩
  · show some (Addr.add ⟨b, off, none⟩ k) = _
    rw [Go.WideShapes.add_plain]
  · rw [List.getElem?_drop] at hx
    rw [Nat.add_assoc]
    exact hcell _ x hx
theorem Oct.sub {i : Nat} (h : Oct w A n xs) (hk : i + k ≤ n) : Oct w (Option.map (fun x => x.add i) A) k ((xs.drop i).take k) := (h.map (k := i) (by omega)).take (by omega)
theorem Oct.one (w : World) (e : TypeId) (x : UInt8) (z : Int) (hz : z = (x.toNat : Int)) : Oct (w.alloc (.cells #[.int .u8 z] e)) (some ⟨w.heap.size, 0, none⟩) 1 [x] := by
  subst hz
  refine ⟨rfl, fun _ => ⟨_, _, rfl, fun j y hy => ?_⟩⟩
  rw [cell_of_row _ _ _ _ _ _ (heap_alloc_new w _)]
  match j, hy with
  | 0, hy => simp at hy; subst hy; simp [ov]
theorem Oct.cells (w : World) (e : TypeId) (xs : List UInt8) (cs : Array Value) (hc : cs = (xs.map ov).toArray) : Oct (w.alloc (.cells cs e)) (some ⟨w.heap.size, 0, none⟩) xs.length xs := by
  subst hc
  refine ⟨rfl, fun _ => ⟨_, _, rfl, fun j y hy => ?_⟩⟩
  rw [cell_of_row _ _ _ _ _ _ (heap_alloc_new w _)]
  simp [hy]

/-- octets as a text -/
theorem Oct.conv {P : Program} {t e d : TypeId} (h : Oct w A n xs) (hT : ByteTy P t e) (hd : P.underlying d = some .string) (c : Nat) : (convert t d (.slice A n c)).run P w = .ok (.string (bstr xs)) w := by
  rcases A with _ | a
  · have hn : n = 0 := by
      rcases Nat.eq_zero_or_pos n with h0 | h0
      · exact h0
      · obtain ⟨_, _, e, _⟩ := h.2 h0; cases e
    have hx : xs = [] := List.eq_nil_of_length_eq_zero (by rw [h.1, hn])
    subst hx
    rw [run_convert_bytes_string w t d e none n c hT.sl hT.u8 hd]
    simp [Conv.bytesToString, bstr, ByteArray.empty, ByteArray.emptyWithCapacity]
    rfl
  · have e := h.1
    subst e
    refine run_convert_bytes_back w t d _ a c xs hT.sl hT.u8 hd fun j hj => ?_
    obtain ⟨b, off, x, e, hx, hc⟩ := h.at_ hj
    injection e with e
    subst e
    rw [Go.WideShapes.add_plain, hc]
    rw [List.getElem?_eq_getElem hj] at hx
    injection hx with hx
    rw [hx]
end

/-- v is a slice of the call's own (from block B on) that holds xs -/
def Own (w : World) (e : TypeId) (B : Nat) (v : Value) (xs : List UInt8) : Prop := w.ownsRow B e 1 v xs.length (xs.map ov)

section
variable {w w' : World} {e : TypeId} {B : Nat} {v : Value} {xs ys : List UInt8}
theorem Own.nil (w : World) (e : TypeId) (B : Nat) : Own w e B (.slice none 0 0) [] := World.ownsRow_nil w B e 1
theorem Own.alloc (h : Own w e B v xs) (o : Obj) : Own (w.alloc o) e B v xs := World.ownsRow.alloc h o
theorem Own.drew (h : Own w e B v xs) : Own w.drew e B v xs := h
theorem Own.drewN (h : Own w e B v xs) (n : Nat) : Own (w.drewN n) e B v xs := h
theorem Own.more {B' : Nat} (h : Own w e B v xs) (hB : B' ≤ B) : Own w e B' v xs := by
  rcases h.2 with h0 | ⟨g, cap, cur, h1, h2, h3⟩
  · exact ⟨h.1, .inl h0⟩
  · exact ⟨h.1, .inr ⟨g, cap, cur, h1, by omega, h3⟩⟩
theorem Own.ge (h : Own w e B v xs) : ∀ g, v.ownBlock = some g → B ≤ g ∧ g < w.heap.size := by
  intro g hg
  rcases h.2 with ⟨rfl, _⟩ | ⟨g', cap, cur, rfl, hb, hh, _⟩
  · cases hg
  · have : g' = g := by simpa [Value.ownBlock] using hg
    subst this
    refine ⟨hb, ?_⟩
    rcases Nat.lt_or_ge g' w.heap.size with h1 | h1
    · exact h1
    · rw [Array.getElem?_eq_none h1] at hh; cases hh
/-- its form, and that it reads as xs -/
theorem Own.slice (h : Own w e B v xs) : ∃ A c, v = .slice A xs.length c ∧ xs.length ≤ c ∧ Oct w A xs.length xs := by
  rcases h.2 with ⟨rfl, h0⟩ | ⟨g, cap, cur, rfl, hb, hh, hn, hm, hs, ht⟩
  · have hx : xs = [] := List.eq_nil_of_length_eq_zero h0
    subst hx
    exact ⟨none, 0, rfl, Nat.le_refl _, Oct.nil _ _⟩
  · refine ⟨_, cap, rfl, hn, rfl, fun _ => ⟨g, 0, rfl, fun j x hx => ?_⟩⟩
    have hj : j < xs.length := (List.getElem?_eq_some_iff.1 hx).1
    have := World.ownsRow.cellAt (w := w) (base := B) (e := e) (size := 1) (g := g) (n := xs.length) (cap := cap) (xs := xs.map ov) h j (by omega)
    rw [Nat.zero_add, this]
    simp [hx]
theorem Own.form {n : Nat} (h : Own w e B v xs) (hl : xs.length = n) : ∃ A c, v = .slice A n c ∧ n ≤ c ∧ Oct w A n xs := by
  subst hl
  exact h.slice
theorem Own.keep (h : Own w e B v xs) (hk : ∀ g, v.ownBlock = some g → w'.heap[g]? = w.heap[g]?) : Own w' e B v xs := by
  rcases h.2 with h0 | ⟨g, cap, cur, rfl, hb, hh, h3⟩
  · exact ⟨h.1, .inl h0⟩
  · exact ⟨h.1, .inr ⟨g, cap, cur, rfl, hb, (hk g rfl).trans hh, h3⟩⟩
theorem Own.below (h : Own w e B v xs) (hb : Below w.heap.size w w') : Own w' e B v xs := h.keep fun g hg => hb.block g (h.ge g hg).2
end

theorem ov_one (xs : List UInt8) : ∀ u ∈ xs.map ov, u.oneCell' = true := by
  intro u hu
  obtain ⟨x, _, rfl⟩ := List.mem_map.1 hu
  rfl

/-- append of octets onto a row of the call's own -/
theorem run_append_oct {P : Program} {t e ty : TypeId} {w : World} {B : Nat} {v : Value} {xs ys : List UInt8} {A : Option Addr} {m : Nat} (c : Nat) (hT : ByteTy P t e) (hown : Own w e B v xs) (hs : Oct w A m ys)
    (hl : xs.length + m ≤ 100000000000000) (hB : B ≤ w.heap.size) :
    ∃ v' w', (Builtin.append_ #[t, t] ty #[v, .slice A m c]).run P w = .ok v' w' ∧ Own w' e B v' (xs ++ ys) ∧ w.grownBy w' v.ownBlock ∧ (v'.ownBlock = v.ownBlock ∨ v'.ownBlock = some w.heap.size) := by
  obtain ⟨i, hi, hz0, hz1, hz2⟩ := info_parts hT.info
  rcases A with _ | ad
  · have hn : m = 0 := by
      rcases Nat.eq_zero_or_pos m with h0 | h0
      · exact h0
      · obtain ⟨_, _, e, _⟩ := hs.2 h0; cases e
    subst hn
    have hx : ys = [] := List.eq_nil_of_length_eq_zero hs.1
    subst hx
    refine ⟨v, w, ?_, by simpa using hown, World.grownBy.refl w _, .inl rfl⟩
    rcases hown.2 with ⟨rfl, _⟩ | ⟨g, cap, cur, rfl, _, _, hnc, _⟩
    · simp [Builtin.append_, run_underlying hT.sl, sizeOf, typeInfo, hi, Builtin.lenOf, Builtin.firstCells]
    · simp [Builtin.append_, run_underlying hT.sl, sizeOf, typeInfo, hi, Builtin.lenOf, Builtin.firstCells, hnc, storeCells]
  · have e := hs.1
    subst e
    obtain ⟨v', w', hr, h2, h3, _, h5⟩ := run_append_own_at (P := P) w B t ty e i (.int .u8 0) 1 1 hT.sl hi hz0 hz1 hz2 rfl (by decide) v xs.length (xs.map ov) hown ad ys.length c (ys.map ov) (by simp) (fun j u hu => by
        rw [List.getElem?_map] at hu
        rcases hx : ys[j]? with _ | x
        · rw [hx] at hu; cases hu
        · rw [hx] at hu
          injection hu with hu
          subst hu
          have hj : j < ys.length := (List.getElem?_eq_some_iff.1 hx).1
          obtain ⟨b, off, x', e, hx', hc⟩ := hs.at_ hj
          injection e with e
          subst e
          rw [hx] at hx'
          injection hx' with hx'
          subst hx'
          rw [Go.WideShapes.add_plain]; exact hc) (ov_one ys) (by unfold maxLen; omega) (by omega) hB
    refine ⟨v', w', hr, ?_, h3, h5⟩
    unfold Own
    rw [List.map_append, List.length_append]
    exact h2

theorem wpList_append_oct {P : Program} {w : World} {ops : Array Oper} {rest : List Oper} {o : Oper} {a : Act} {Q : Exit → Act → World → Prop} (hgd : o.guard = none) (s x : Operand) (t : TypeId)
    (ho : o.op = .call { callee := .builtin .append, args := #[s, x], argTypes := #[t, t] }) {e : TypeId} (hT : ByteTy P t e) (B : Nat) (v : Value) (xs : List UInt8) (hs : a.eval s = v) (hown : Own w e B v xs)
    (A : Option Addr) (m c : Nat) (ys : List UInt8) (hx : a.eval x = .slice A m c) (hr : Oct w A m ys) (hl : xs.length + m ≤ 100000000000000) (hB : B ≤ w.heap.size)
    (h : ∀ v' w', Own w' e B v' (xs ++ ys) → w.grownBy w' v.ownBlock → (v'.ownBlock = v.ownBlock ∨ v'.ownBlock = some w.heap.size) → wpList P ops Q rest (a.put o.dst v') w') : wpList P ops Q (o :: rest) a w := by
  refine wpList_plain hgd fun K hK => ?_
  obtain ⟨v', w', hrun, h2, h3, h4⟩ := run_append_oct (P := P) (ty := o.type) c hT hown hr hl hB
  unfold Oper.wp execOp
  simp only [ho, resolve, invoke, builtin, Sem.run_bind, Sem.run_pure, Result.andThen_ok, List.map_toArray, List.map_cons, List.map_nil, hs, hx, hrun]
  exact hK _ _ (h v' w' h2 h3 h4)

/-- the same, with the words of a walk whose own rows begin at block B -/
theorem wpList_append_to {P : Program} {w : World} {ops : Array Oper} {rest : List Oper} {o : Oper} {a : Act} {Q : Exit → Act → World → Prop} (hgd : o.guard = none) (s x : Operand) (t : TypeId)
    (ho : o.op = .call { callee := .builtin .append, args := #[s, x], argTypes := #[t, t] }) {e : TypeId} (hT : ByteTy P t e) {w0 : World} {v : Value} {xs : List UInt8} (hs : a.eval s = v) (hown : Own w e w0.heap.size v xs) (hb : Below w0.heap.size w0 w)
    {A : Option Addr} {m : Nat} (c : Nat) {ys : List UInt8} (hx : a.eval x = .slice A m c) (hr : Oct w A m ys) (hl : xs.length + m ≤ 100000000000000)
    (h : ∀ v' w', Own w' e w0.heap.size v' (xs ++ ys) → Below w0.heap.size w0 w' → wpList P ops Q rest (a.put o.dst v') w') : wpList P ops Q (o :: rest) a w :=
  wpList_append_oct hgd s x t ho hT w0.heap.size v xs hs hown A m c ys hx hr hl hb.size fun v' w' h1 h2 _ => h v' w' h1 (hb.grown h2 hb.size fun g hg => (hown.ge g hg).1)

/-- the same, at a step of a region that draws its order -/
theorem step_append_to {P : Program} {w : World} {ops : Array Oper} {o : Oper} {a : Act} {K : Act → World → Prop} {Q : Exit → Act → World → Prop} {E : Prop} (hgd : o.guard = none) (s x : Operand) (t : TypeId)
    (ho : o.op = .call { callee := .builtin .append, args := #[s, x], argTypes := #[t, t] }) {e : TypeId} (hT : ByteTy P t e) {w0 : World} {v : Value} {xs : List UInt8} (hs : a.eval s = v) (hown : Own w e w0.heap.size v xs) (hb : Below w0.heap.size w0 w)
    {A : Option Addr} {m : Nat} (c : Nat) {ys : List UInt8} (hx : a.eval x = .slice A m c) (hr : Oct w A m ys) (hl : xs.length + m ≤ 100000000000000)
    (h : ∀ v' w', Own w' e w0.heap.size v' (xs ++ ys) → Below w0.heap.size w0 w' → K (a.put o.dst v') w') :
    if Region.wanted o (yielded ops a.tmps) = true then Oper.wp P o a w K Q else E := by
  rw [if_pos (by simp [Region.wanted, hgd])]
  obtain ⟨v', w', hrun, h2, h3, _⟩ := run_append_oct (P := P) (ty := o.type) c hT hown hr hl hb.size
  unfold Oper.wp execOp
  simp only [ho, resolve, invoke, builtin, Sem.run_bind, Sem.run_pure, Result.andThen_ok, List.map_toArray, List.map_cons, List.map_nil, hs, hx, hrun]
  exact h v' w' h2 (hb.grown h3 hb.size fun g hg => (hown.ge g hg).1)

theorem wpList_make_oct {P : Program} {w : World} {ops : Array Oper} {rest : List Oper} {o : Oper} {a : Act} {Q : Exit → Act → World → Prop} (hgd : o.guard = none) (l c : Operand) (t : TypeId) (hop : o.op = Op.makeSlice t l c)
    {e : TypeId} (hT : ByteTy P t e) (C : Int) (n : Nat) (h0 : a.eval l = .int .i64 0) (hc : a.eval c = .int .i64 C) (hC : C = (n : Int)) (hn : n ≤ 100000000000000)
    (hK : ∀ w', Own w' e w.heap.size (.slice (some ⟨w.heap.size, 0, none⟩) 0 n) [] → Below w.heap.size w w' → wpList P ops Q rest (a.put o.dst (.slice (some ⟨w.heap.size, 0, none⟩) 0 n)) w') : wpList P ops Q (o :: rest) a w := by
  obtain ⟨i, hi, hz0, hz1, hz2⟩ := info_parts hT.info
  refine wpList_make_own w hgd l c t hop w.heap.size e i (.int .u8 0) 1 hT.sl hi hz0 hz1 .i64 .i64 C n h0 hc hC (by rw [hz2]; omega) (by unfold maxLen; omega) (Nat.le_refl _) fun w' h1 h2 => hK w' h1 ?_
  exact (Below.refl _ _).grown h2 (Nat.le_refl _) (fun _ h => by cases h)

/-- A PAIR BEHIND A POINTER: octets, and a mark -/
def Rd (w : World) (T : TypeId) (R : Nat) (xs : List UInt8) (g : Bool) : Prop :=
  ∃ A c, w.heap[R]? = some (.cells #[.slice A xs.length c, .bool g] T (0, 0)) ∧ xs.length ≤ c ∧ Oct w A xs.length xs

section
variable {w w' : World} {T T' : TypeId} {R R' : Nat} {xs ys : List UInt8} {g g' : Bool} {u v : Value} {A : Option Addr} {n : Nat}
theorem pair_cell (h : w.heap[R]? = some (.cells #[u, v] T (0, 0))) : w.cell? ⟨R, 0, none⟩ = some u ∧ w.cell? ⟨R, 1, none⟩ = some v ∧ w.frozen? ⟨R, 0, none⟩ = false ∧ w.frozen? ⟨R, 1, none⟩ = false := by
  refine ⟨?_, ?_, frozen_of_row w R 0 _ T h, frozen_of_row w R 1 _ T h⟩
  · rw [cell_of_row w R 0 _ T (0, 0) h]; rfl
  · rw [cell_of_row w R 1 _ T (0, 0) h]; rfl
theorem pair_set0 (h : w.heap[R]? = some (.cells #[u, v] T (0, 0))) (x : Value) : (w.setCell ⟨R, 0, none⟩ x).heap[R]? = some (.cells #[x, v] T (0, 0)) := by
  rw [heap_setCell_same w R 0 _ T x h]; rfl
theorem pair_set1 (h : w.heap[R]? = some (.cells #[u, v] T (0, 0))) (x : Value) : (w.setCell ⟨R, 1, none⟩ x).heap[R]? = some (.cells #[u, x] T (0, 0)) := by
  rw [heap_setCell_same w R 1 _ T x h]; rfl
theorem grown_set (w : World) (R i : Nat) (x : Value) : w.grownBy (w.setCell ⟨R, i, none⟩ x) (some R) :=
  ⟨rfl, rfl, rfl, by simp, fun k _ hk => heap_setCell_other w ⟨R, i, none⟩ k x (fun e => hk (by simp [e]))⟩
theorem grown_trans {a b c : World} {R : Nat} (h : a.grownBy b (some R)) (k : b.grownBy c (some R)) : a.grownBy c (some R) :=
  ⟨k.os.trans h.os, k.tape.trans h.tape, k.output.trans h.output, Nat.le_trans h.size k.size, fun i hi hn => (k.block i (Nat.lt_of_lt_of_le hi h.size) hn).trans (h.block i hi hn)⟩
theorem grown_of_below {a b : World} (h : Below a.heap.size a b) (row : Option Nat) : a.grownBy b row := ⟨h.os, h.tape, h.output, h.size, fun i hi _ => h.block i hi⟩
theorem below_of_grown {a b : World} {R B : Nat} (h : a.grownBy b (some R)) (hB : B ≤ a.heap.size) (hR : B ≤ R) : Below B a b :=
  ⟨h.os, h.tape, h.output, h.size, fun k hk => h.block k (by omega) (fun e => by injection e with e; omega)⟩
/-- octets never lie in such a pair -/
theorem Oct.apart {a : Option Addr} {l c : Nat} (h : Oct w A n xs) (hR : w.heap[R]? = some (.cells #[.slice a l c, .bool g] T (0, 0))) : ∀ off, 0 < n → A ≠ some ⟨R, off, none⟩ := by
  intro off hn e
  obtain ⟨b, off', x, e', _, hc⟩ := h.at_ hn
  rw [e] at e'
  injection e' with e'
  injection e' with e1 e2
  subst e1 e2
  rw [cell_of_row w R _ _ T (0, 0) hR] at hc
  match off + 0, hc with
  | 0, hc => simp at hc
  | 1, hc => simp at hc
  | k + 2, hc => simp at hc
theorem Rd.lt (h : Rd w T R xs g) : R < w.heap.size := by
  obtain ⟨A, c, hh, _⟩ := h
  rcases Nat.lt_or_ge R w.heap.size with h1 | h1
  · exact h1
  · rw [Array.getElem?_eq_none h1] at hh; cases hh
theorem Rd.below (h : Rd w T R xs g) (hb : Below w.heap.size w w') : Rd w' T R xs g := by
  have hl := h.lt
  obtain ⟨A, c, hh, hc, ho⟩ := h
  exact ⟨A, c, (hb.block R hl).trans hh, hc, ho.below hb⟩
theorem Rd.ne (h : Rd w T R xs g) (h' : Rd w T' R' ys g') (hT : T ≠ T') : R ≠ R' := by
  rintro rfl
  obtain ⟨A, c, hh, _⟩ := h
  obtain ⟨A', c', hh', _⟩ := h'
  rw [hh] at hh'
  injection hh' with hh'
  injection hh' with _ e
  exact hT e
/-- what another pair's change leaves -/
theorem Rd.other (h : Rd w T R xs g) (h' : Rd w T' R' ys g') (hT : T ≠ T') (hg : w.grownBy w' (some R')) : Rd w' T R xs g := by
  have hne := h.ne h' hT
  have hl := h.lt
  obtain ⟨A, c, hh, hc, ho⟩ := h
  obtain ⟨A', c', hh', _⟩ := h'
  exact ⟨A, c, (hg.block R hl (fun e => hne (by injection e))).trans hh, hc, ho.grown hg (ho.apart hh')⟩
/-- the octets of a pair set anew -/
theorem rd_set {a : Option Addr} {l c c' : Nat} (hR : w.heap[R]? = some (.cells #[.slice a l c, .bool g] T (0, 0))) (ho : Oct w A ys.length ys) (hc : ys.length ≤ c') :
    Rd (w.setCell ⟨R, 0, none⟩ (.slice A ys.length c')) T R ys g ∧ w.grownBy (w.setCell ⟨R, 0, none⟩ (.slice A ys.length c')) (some R) :=
  ⟨⟨A, c', pair_set0 hR _, hc, ho.grown (grown_set w R 0 _) (ho.apart hR)⟩, grown_set w R 0 _⟩
theorem rd_cut {k c : Nat} (hR : w.heap[R]? = some (.cells #[.slice A xs.length c, .bool g] T (0, 0))) (ho : Oct w A xs.length xs) (hc : xs.length ≤ c) (hk : k ≤ xs.length) :
    Rd (w.setCell ⟨R, 0, none⟩ (.slice (Option.map (fun x => x.add k) A) (xs.length - k) (c - k))) T R (xs.drop k) g ∧ w.grownBy (w.setCell ⟨R, 0, none⟩ (.slice (Option.map (fun x => x.add k) A) (xs.length - k) (c - k))) (some R) := by
  have e : xs.length - k = (xs.drop k).length := by rw [List.length_drop]
  have := ho.map hk
  rw [e] at this ⊢
  exact rd_set hR this (by omega)
theorem rd_cut_end {k c : Nat} (hR : w.heap[R]? = some (.cells #[.slice A xs.length c, .bool g] T (0, 0))) (hc : xs.length ≤ c) (hk : k ≤ xs.length) (h : c = k) :
    Rd (w.setCell ⟨R, 0, none⟩ (.slice A (xs.length - k) 0)) T R (xs.drop k) g ∧ w.grownBy (w.setCell ⟨R, 0, none⟩ (.slice A (xs.length - k) 0)) (some R) := by
  have e : xs.length - k = 0 := by omega
  have e2 : xs.drop k = [] := List.drop_eq_nil_of_le (by omega)
  rw [e, e2]
  exact rd_set (ys := []) hR (Oct.nil _ _) (Nat.le_refl _)
theorem rd_spoil {b : Bool} (hR : w.heap[R]? = some (.cells #[u, v] T (0, 0))) :
    Rd ((w.setCell ⟨R, 0, none⟩ (.slice none 0 0)).setCell ⟨R, 1, none⟩ (.bool b)) T R [] b ∧ w.grownBy ((w.setCell ⟨R, 0, none⟩ (.slice none 0 0)).setCell ⟨R, 1, none⟩ (.bool b)) (some R) :=
  ⟨⟨none, 0, pair_set1 (pair_set0 hR _) _, Nat.le_refl _, Oct.nil _ _⟩, grown_trans (grown_set w R 0 _) (grown_set _ R 1 _)⟩
theorem rd_spoil' {b : Bool} (hR : w.heap[R]? = some (.cells #[u, v] T (0, 0))) :
    Rd ((w.setCell ⟨R, 1, none⟩ (.bool b)).setCell ⟨R, 0, none⟩ (.slice none 0 0)) T R [] b ∧ w.grownBy ((w.setCell ⟨R, 1, none⟩ (.bool b)).setCell ⟨R, 0, none⟩ (.slice none 0 0)) (some R) :=
  ⟨⟨none, 0, pair_set0 (pair_set1 hR _) _, Nat.le_refl _, Oct.nil _ _⟩, grown_trans (grown_set w R 1 _) (grown_set _ R 0 _)⟩
theorem rd_new {c : Nat} (ho : Oct w A xs.length xs) (hc : xs.length ≤ c) (T : TypeId) (g : Bool) : Rd (w.alloc (.cells #[.slice A xs.length c, .bool g] T)) T w.heap.size xs g :=
  ⟨A, c, heap_alloc_new w _, hc, ho.alloc _⟩
theorem Oct.rd (h : Oct w A n xs) (h' : Rd w T R ys g) (hg : w.grownBy w' (some R)) : Oct w' A n xs := by
  obtain ⟨A', c', hh', _⟩ := h'
  exact h.grown hg (h.apart hh')
end
end Go.Proofs.YthclgehifomkhaaDoor.Oc
