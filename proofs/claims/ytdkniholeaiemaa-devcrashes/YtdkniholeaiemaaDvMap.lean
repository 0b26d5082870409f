/-
  Maps by sectors: of rows of writes, and of those that are rotten. No conditions.
-/
import Derived.Test.YtdkniholeaiemaaDvMem
import Derived.Maps.OwnSet
import Derived.Maps.RangeWalk
import Derived.Maps.Ext
namespace Go.Proofs.Ytdkniholeaiemaa.Dm
open Go.RowKit Oc Go.Maps Go.ChangeMaps Go.MapKept
set_option linter.unusedVariables false

theorem kint : Keyed Try.prog 3 := int_keyed Try.underlying3
theorem kwf {i : Nat} (h : i ≤ 4096) : (Lit.int .i64 (i : Int)).wf = true := WalkArith.wf_i64 (by omega)
theorem kof {i : Nat} (h : i ≤ 4096) : keyOf Try.prog 3 (.int .i64 (i : Int)) = some (.int .i64 (i : Int)) := keyOf_int_mk Try.underlying3 (kwf h)
theorem kkey (x : Int) : WideAt.IsKeyLit (.int .i64 x) := trivial
theorem kne {i j : Nat} (h : i ≠ j) : (Lit.int .i64 (i : Int)) ≠ .int .i64 (j : Int) := fun e => h (by injection e with _ e; omega)

/-- a row's place: block, length, room -/
abbrev Pl := Nat × Nat × Nat
def slv : Option Pl → Value
  | none => .slice none 0 0
  | some t => .slice (some ⟨t.1, 0, none⟩) t.2.1 t.2.2
def encT (t : Pl) : DataW Unit := .agg [.lit (.int .i64 t.1), .lit (.int .i64 t.2.1), .lit (.int .i64 t.2.2)]
/-- how an element reads -/
def slElem : Value → Option (DataW Unit × List MemPlace)
  | .slice none n c => if n = 0 ∧ c = 0 then some (.nil, []) else none
  | .slice (some a) n c => if a = ⟨a.block, 0, none⟩ then some (encT (a.block, n, c), []) else none
  | _ => none
theorem slElem_none : slElem (.slice none 0 0) = some (.nil, []) := rfl
theorem slElem_some (t : Pl) : slElem (.slice (some ⟨t.1, 0, none⟩) t.2.1 t.2.2) = some (encT t, []) := by simp [slElem]
theorem encT_inj {s t : Pl} (h : encT s = encT t) : s = t := by
  obtain ⟨a, b, c⟩ := s
  obtain ⟨a', b', c'⟩ := t
  simp only [encT, DataW.agg.injEq, List.cons.injEq, DataW.lit.injEq, Lit.int.injEq, true_and, and_true] at h
  obtain ⟨h1, h2, h3⟩ := h
  have e1 : a = a' := by omega
  have e2 : b = b' := by omega
  have e3 : c = c' := by omega
  rw [e1, e2, e3]
theorem slElem_inv {v : Value} {d : DataW Unit} {ps : List MemPlace} (h : slElem v = some (d, ps)) : (v = slv none ∧ d = .nil) ∨ ∃ t, v = slv (some t) ∧ d = encT t := by
  unfold slElem at h
  split at h
  · split at h
    · rename_i hc
      injection h with h
      injection h with h1 h2
      exact .inl ⟨by rw [hc.1, hc.2]; rfl, h1.symm⟩
    · cases h
  · rename_i a n c
    split at h
    · rename_i hc
      injection h with h
      injection h with h1 h2
      exact .inr ⟨(a.block, n, c), by rw [hc]; rfl, h1.symm⟩
    · cases h
  · cases h

/-- what a map tells of the sectors below n -/
def View (D : DataW Unit) (n : Nat) (g : Nat → Option Pl) : Prop :=
  (∀ i, i < n → (g i = none → Maps.has D (.int .i64 (i : Int)) = false) ∧ ∀ t, g i = some t → ∀ z, D.atKey (.int .i64 (i : Int)) z = encT t) ∧ ∀ x : Int, Maps.has D (.int .i64 x) = true → ∃ i : Nat, x = (i : Int) ∧ i < n
/-- block m is a map of rows by sectors -/
def LM (w : World) (m N n : Nat) (g : Nat → Option Pl) : Prop := ∃ D, w.ownsMap Try.prog 3 slElem m N D ∧ View D n g

section
variable {w w' : World} {m N n : Nat} {g : Nat → Option Pl}
theorem LM.lt (h : LM w m N n g) : m < w.heap.size := by obtain ⟨D, h1, _⟩ := h; exact h1.lt
theorem LM.more {N' : Nat} (h : LM w m N n g) (hN : N ≤ N') : LM w m N' n g := by obtain ⟨D, h1, h2⟩ := h; exact ⟨D, h1.mono hN, h2⟩
theorem LM.heap (h : LM w m N n g) (e : w'.heap[m]? = w.heap[m]?) : LM w' m N n g := by
  obtain ⟨D, ⟨es, clock, hb, r⟩, h2⟩ := h
  exact ⟨D, ⟨es, clock, e.trans hb, r⟩, h2⟩
theorem LM.congr {g' : Nat → Option Pl} (h : LM w m N n g) (e : ∀ i, i < n → g' i = g i) : LM w m N n g' := by
  obtain ⟨D, h1, h2, h3⟩ := h
  exact ⟨D, h1, fun i hi => by rw [e i hi]; exact h2 i hi, h3⟩
theorem LM.made (w : World) (n : Nat) : LM (w.alloc (.map #[] 0)) w.heap.size 0 n (fun _ => none) :=
  ⟨_, World.ownsMap_made w _ _ _, ⟨fun i _ => ⟨fun _ => rfl, fun t e => by cases e⟩, fun x h => by cases h⟩⟩
theorem LM.look (h : LM w m N n g) {i : Nat} (hi : i < n) (hn : n ≤ 4096) : (Instr.lookup 69 (.map (some m)) (.int .i64 (i : Int)) false).run Try.prog w = .ok (slv (g i)) w := by
  obtain ⟨D, h1, h2, h3⟩ := h
  obtain ⟨v, ps, hrun, hv⟩ := h1.lookup (t := 69) kint Try.underlying69 (z := .slice none 0 0) (by kernel_rfl) slElem_none (kof (i := i) (by omega))
  suffices e : v = slv (g i) by rw [hrun, e]
  cases hg : g i with
  | none =>
    rw [Maps.atKey_of_not_has ((h2 i hi).1 hg)] at hv
    rcases slElem_inv hv with ⟨rfl, _⟩ | ⟨t, _, e⟩
    · rfl
    · cases e
  | some t =>
    rw [(h2 i hi).2 t hg] at hv
    rcases slElem_inv hv with ⟨_, e⟩ | ⟨t', rfl, e⟩
    · cases e
    · rw [encT_inj e]
theorem LM.put (h : LM w m N n g) {i : Nat} (hi : i < n) (hn : n ≤ 4096) (hN : N < maxLen) (t : Pl) :
    ∃ w', (Instr.mapUpdate 69 (.map (some m)) (.int .i64 (i : Int)) (slv (some t))).run Try.prog w = .ok () w' ∧ LM w' m (N + 1) n (upd g i (some t)) ∧ w.grownBy w' (some m) ∧ w'.heap.size = w.heap.size := by
  obtain ⟨D, h1, h2, h3⟩ := h
  obtain ⟨w', hrun, r1, r2⟩ := h1.store (t := 69) kint Try.underlying69 hN (kof (i := i) (by omega)) (slElem_some t)
  refine ⟨w', hrun, ⟨_, r1, fun j hj => ?_, fun x hx => ?_⟩, r2.grown, ?_⟩
  · by_cases e : j = i
    · subst e
      rw [upd_same]
      refine ⟨(fun e => by cases e), fun t' e z => ?_⟩
      rw [← Option.some.inj e]
      exact Maps.atKey_put_same h1.isMap (kkey _) _ _
    · rw [upd_other _ _ e, Maps.has_put_other (kne e)]
      refine ⟨(h2 j hj).1, fun t' e' z => ?_⟩
      rw [Maps.atKey_put_other (kne e)]
      exact (h2 j hj).2 t' e' z
  · by_cases e : x = (i : Int)
    · exact ⟨i, e, hi⟩
    · rw [Maps.has_put_other (fun e' => e (by injection e' with _ e'))] at hx
      exact h3 x hx
  · obtain ⟨_, _, _, _, _, e⟩ := r2
    rw [e]
    simp [setBlock]
theorem LM.clear (h : LM w m N n g) (ty : TypeId) :
    ∃ w', (Builtin.clear_ #[69] ty #[.map (some m)]).run Try.prog w = .ok (.tuple #[]) w' ∧ LM w' m N n (fun _ => none) ∧ w.grownBy w' (some m) ∧ w'.heap.size = w.heap.size := by
  obtain ⟨D, ⟨es, clock, hb, F, hs, hD⟩, h2⟩ := h
  have hrun : (Builtin.clear_ #[69] ty #[.map (some m)]).run Try.prog w = .ok (.tuple #[]) (setBlock w m (.map #[] clock)) := by
    simp [Builtin.clear_, run_underlying Try.underlying69, MapKept.run_getObj_map hb, MapKept.run_setObj_map _ hb, Result.andThen, setBlock]
  refine ⟨_, hrun, ⟨.map [], ⟨#[], clock, heap_setBlock_same hb _, ⟨by simp, ?_, by simp⟩, Nat.zero_le _, rfl⟩, ⟨fun i _ => ⟨fun _ => rfl, fun t e => by cases e⟩, fun x hx => by cases hx⟩⟩, ⟨rfl, rfl, rfl, by simp [setBlock], fun i _ hi => heap_setBlock_other hb _ (fun e => hi (by rw [e]))⟩, by simp [setBlock]⟩
  have := F.stamped
  exact ⟨by simp, by simp⟩
theorem LM.len (h : LM w m N n g) (ty : TypeId) : ∃ L, L ≤ N ∧ (Builtin.len_ #[69] ty #[.map (some m)]).run Try.prog w = .ok (.int .i64 ((L : Nat) : Int)) w := by
  obtain ⟨D, h1, _⟩ := h
  exact ⟨_, h1.size_le, h1.len Try.underlying69 ty⟩

/-- the map is being gone through: block r counts; left tells who is to come -/
def LR (w : World) (m r N n : Nat) (g : Nat → Option Pl) (left : Nat → Bool) (cnt : Nat) : Prop :=
  ∃ D L, w.ranges Try.prog 3 slElem m r N D L cnt ∧ View D n g ∧ (∀ i, i < n → left i = L (.int .i64 (i : Int))) ∧ ∀ i, i < n → left i = true → (g i).isSome = true
variable {r cnt : Nat} {left : Nat → Bool}
theorem LR.lm (h : LR w m r N n g left cnt) : LM w m N n g := by obtain ⟨D, L, h1, h2, _⟩ := h; exact ⟨D, h1.owns, h2⟩
theorem LR.lt (h : LR w m r N n g left cnt) : r < w.heap.size := by obtain ⟨D, L, h1, _⟩ := h; exact h1.lt
theorem LR.ne (h : LR w m r N n g left cnt) : r ≠ m := by obtain ⟨D, L, h1, _⟩ := h; exact h1.ne
theorem LR.left_eq (h : LR w m r N n g left cnt) : w.rangeLeft m r = cnt := by obtain ⟨D, L, h1, _⟩ := h; exact h1.left_eq
theorem LR.heap (h : LR w m r N n g left cnt) (e : w'.heap[m]? = w.heap[m]?) (e2 : w'.heap[r]? = w.heap[r]?) : LR w' m r N n g left cnt := by
  obtain ⟨D, L, ⟨es, clock, since, seen, c0, hb, F, hs, hD, hr, rest⟩, h2⟩ := h
  exact ⟨D, L, ⟨es, clock, since, seen, c0, e.trans hb, F, hs, hD, e2.trans hr, rest⟩, h2⟩
theorem has_view {D : DataW Unit} (h : View D n g) {i : Nat} (hi : i < n) : Maps.has D (.int .i64 (i : Int)) = (g i).isSome := by
  cases hg : g i with
  | none => exact (h.1 i hi).1 hg
  | some t => exact Maps.has_true_of_atKey ((h.1 i hi).2 t hg)
end

section
variable {w : World} {ops : Array Oper} {rest : List Oper} {o : Oper} {a : Act} {Q : Exit → Act → World → Prop} {m r N n cnt : Nat} {g : Nat → Option Pl} {left : Nat → Bool}
theorem wpList_look (hgd : o.guard = none) (x k : Operand) (ho : o.op = .lookup 69 x k false) {i : Nat} {z : Int} (hx : a.eval x = .map (some m)) (hk : a.eval k = .int .i64 z) (hz : z = (i : Int)) (h : LM w m N n g) (hi : i < n) (hn : n ≤ 4096) {v : Value} (hv : slv (g i) = v)
    (hK : wpList Try.prog ops Q rest (a.put o.dst v) w) : wpList Try.prog ops Q (o :: rest) a w := by
  subst hz hv
  refine wpList_plain hgd fun K hK' => ?_
  unfold Oper.wp
  simp [execOp, ho, hx, hk, h.look hi hn, Result.andThen]
  exact hK' _ _ hK
theorem wpList_put (hgd : o.guard = none) (x k y : Operand) (ho : o.op = .mapUpdate 69 x k y) {i b l c : Nat} {z : Int} (hx : a.eval x = .map (some m)) (hk : a.eval k = .int .i64 z) (hz : z = (i : Int)) (hy : a.eval y = .slice (some ⟨b, 0, none⟩) l c)
    (h : LM w m N n g) (hi : i < n) (hn : n ≤ 4096) (hN : N < maxLen)
    (hK : ∀ w', LM w' m (N + 1) n (upd g i (some (b, l, c))) → w.grownBy w' (some m) → w'.heap.size = w.heap.size → wpList Try.prog ops Q rest (a.put o.dst undef) w') : wpList Try.prog ops Q (o :: rest) a w := by
  subst hz
  refine wpList_plain hgd fun K hK' => ?_
  obtain ⟨w', hrun, r1, r2, r3⟩ := h.put hi hn hN (b, l, c)
  unfold slv at hrun
  unfold Oper.wp
  simp [execOp, ho, hx, hk, hy, hrun, Result.andThen]
  exact hK' _ _ (hK w' r1 r2 r3)
theorem wpList_clear (hgd : o.guard = none) (x : Operand) (ho : o.op = Op.call { callee := Callee.builtin Builtin.clear, args := #[x], argTypes := #[69] }) (hx : a.eval x = .map (some m)) (h : LM w m N n g)
    (hK : ∀ w', LM w' m N n (fun _ => none) → w.grownBy w' (some m) → w'.heap.size = w.heap.size → wpList Try.prog ops Q rest (a.put o.dst (.tuple #[])) w') : wpList Try.prog ops Q (o :: rest) a w := by
  refine wpList_plain hgd fun K hK' => ?_
  obtain ⟨w', hrun, r1, r2, r3⟩ := h.clear o.type
  unfold Oper.wp
  simp [execOp, ho, resolve, invoke, builtin, hx, hrun, Result.andThen]
  exact hK' _ _ (hK w' r1 r2 r3)
theorem wpList_len_lm (hgd : o.guard = none) (x : Operand) (ho : o.op = Op.call { callee := Callee.builtin Builtin.len, args := #[x], argTypes := #[69] }) (hx : a.eval x = .map (some m)) (h : LM w m N n g)
    (hK : ∀ L : Nat, L ≤ N → wpList Try.prog ops Q rest (a.put o.dst (.int .i64 (L : Int))) w) : wpList Try.prog ops Q (o :: rest) a w := by
  refine wpList_plain hgd fun K hK' => ?_
  obtain ⟨L, hL, hrun⟩ := h.len o.type
  unfold Oper.wp
  simp [execOp, ho, resolve, invoke, builtin, hx, hrun, Result.andThen]
  exact hK' _ _ (hK L hL)
theorem wpList_range_lm (hgd : o.guard = none) (x : Operand) (ho : o.op = Op.range 69 x) (hx : a.eval x = .map (some m)) (h : LM w m N n g)
    (hK : ∀ w' cnt, LR w' m w.heap.size N n g (fun i => (g i).isSome) cnt → cnt ≤ N → w.grownBy w' none → w'.heap.size = w.heap.size + 1 → wpList Try.prog ops Q rest (a.put o.dst (.pointer (some ⟨w.heap.size, 0, none⟩))) w') : wpList Try.prog ops Q (o :: rest) a w := by
  obtain ⟨D, h1, h2⟩ := h
  refine wpList_range_own _ hgd x 69 ho 3 _ kint Try.underlying69 slElem m N D hx h1 (fun w' hr hg hs => hK w' _ ⟨D, _, hr, h2, fun i hi => (has_view h2 hi).symm, fun i _ e => e⟩ h1.size_le hg hs)
theorem wpList_next_lm (hgd : o.guard = none) (it : Operand) (ho : o.op = Op.next it false) (hit : a.eval it = .pointer (some ⟨r, 0, none⟩)) (h : LR w m r N n g left cnt)
    (hDone : (∀ i, i < n → left i = false) → wpList Try.prog ops Q rest (a.put o.dst (.tuple #[.bool false])) w)
    (hMore : ∀ (i : Nat) (t : Pl) (w' : World) (cnt' : Nat), i < n → left i = true → g i = some t → LR w' m r N n g (upd left i false) cnt' → cnt' < cnt → w.grownBy w' (some r) → w'.heap.size = w.heap.size →
      (Instr.entry (.pointer (some ⟨r, 0, none⟩))).run Try.prog w' = .ok (.tuple #[.int .i64 (i : Int), .slice (some ⟨t.1, 0, none⟩) t.2.1 t.2.2]) w' → wpList Try.prog ops Q rest (a.put o.dst (.tuple #[.bool true, .int .i64 (i : Int), .slice (some ⟨t.1, 0, none⟩) t.2.1 t.2.2])) w') :
    wpList Try.prog ops Q (o :: rest) a w := by
  obtain ⟨D, L, h1, h2, h3, h4⟩ := h
  refine wpList_next_ranges (α := Int) (β := Option Pl) w hgd it ho 3 kint slElem (Value.int .i64) slv (fun key kl hk => by obtain ⟨x, rfl, _⟩ := Maps.keyOf_int_inv Try.underlying3 hk; exact ⟨x, rfl⟩)
    (fun v y hv => by
      obtain ⟨d, ps⟩ := y
      rcases slElem_inv hv with ⟨e, _⟩ | ⟨t, e, _⟩
      · exact ⟨none, e⟩
      · exact ⟨some t, e⟩) m r N D L cnt hit h1 (fun _ hl => hDone (fun i hi => by rw [h3 i hi, hl])) ?_
  intro x c kl y w' cnt' hkey hlk hv hat hrg hlt hg hs hen
  obtain ⟨x', ex, rfl, hwf⟩ := Maps.keyOf_int_inv Try.underlying3 hkey
  injection ex with _ ex
  subst ex
  obtain ⟨i, rfl, hi⟩ := h2.2 x (Maps.has_true_of_atKey hat)
  have hli : left i = true := by rw [h3 i hi]; exact hlk
  obtain ⟨t, ht⟩ := Option.isSome_iff_exists.1 (h4 i hi hli)
  have hy := (h2.1 i hi).2 t ht .nil
  rw [hat .nil] at hy
  obtain ⟨yd, yp⟩ := y
  dsimp only at hy
  subst hy
  have hc : c = some t := by
    rcases slElem_inv hv with ⟨_, e⟩ | ⟨t', e, e2⟩
    · cases e
    · rw [← encT_inj e2] at e
      cases c with
      | none => cases e
      | some c =>
        obtain ⟨c1, c2, c3⟩ := c
        obtain ⟨t1, t2, t3⟩ := t
        simp only [slv, Value.slice.injEq, Option.some.injEq, Addr.mk.injEq, and_true] at e
        obtain ⟨e1, e2, e3⟩ := e
        rw [e1, e2, e3]
  subst hc
  refine hMore i t w' cnt' hi hli ht ⟨D, _, hrg, h2, fun j hj => ?_, fun j hj e => ?_⟩ hlt hg hs hen
  · by_cases e : j = i
    · subst e
      rw [upd_same, WideAt.sameKey_self (kkey _)]
      simp
    · rw [upd_other _ _ e, Maps.sameKey_ne (kne e), h3 j hj]
      simp
  · by_cases e' : j = i
    · subst e'; rw [upd_same] at e; cases e
    · rw [upd_other _ _ e'] at e; exact h4 j hj e
end

/-- block r is the set of those that are rotten -/
def RM (w : World) (r N n : Nat) (q : Nat → Bool) : Prop := ∃ D : DataW Unit, w.ownsMap Try.prog 3 unitElem r N D ∧ ∀ i, i < n → Maps.has D (.int .i64 (i : Int)) = q i
section
variable {w w' : World} {r N n : Nat} {q : Nat → Bool}
theorem RM.lt (h : RM w r N n q) : r < w.heap.size := by obtain ⟨D, h1, _⟩ := h; exact h1.lt
theorem RM.more {N' : Nat} (h : RM w r N n q) (hN : N ≤ N') : RM w r N' n q := by obtain ⟨D, h1, h2⟩ := h; exact ⟨D, h1.mono hN, h2⟩
theorem RM.heap (h : RM w r N n q) (e : w'.heap[r]? = w.heap[r]?) : RM w' r N n q := by
  obtain ⟨D, ⟨es, clock, hb, r⟩, h2⟩ := h
  exact ⟨D, ⟨es, clock, e.trans hb, r⟩, h2⟩
theorem RM.congr {q' : Nat → Bool} (h : RM w r N n q) (e : ∀ i, i < n → q' i = q i) : RM w r N n q' := by
  obtain ⟨D, h1, h2⟩ := h
  exact ⟨D, h1, fun i hi => by rw [e i hi]; exact h2 i hi⟩
theorem RM.made (w : World) (n : Nat) : RM (w.alloc (.map #[] 0)) w.heap.size 0 n (fun _ => false) := ⟨_, World.ownsMap_made w _ _ _, fun i _ => rfl⟩
theorem zero_unit (w : World) : (zeroValue 103).run Try.prog w = .ok (.agg #[]) w := by kernel_rfl
theorem RM.look (h : RM w r N n q) {i : Nat} (hi : i < n) (hn : n ≤ 4096) : (Instr.lookup 70 (.map (some r)) (.int .i64 (i : Int)) true).run Try.prog w = .ok (.tuple #[.agg #[], .bool (q i)]) w := by
  obtain ⟨D, h1, h2⟩ := h
  obtain ⟨v, ps, hrun, hv⟩ := h1.look_ok (t := 70) kint Try.underlying70 (zero_unit w) unitElem_mk (kof (i := i) (by omega))
  obtain ⟨rfl, _⟩ := unitElem_inv hv
  rw [hrun, h2 i hi]
theorem RM.put (h : RM w r N n q) {i : Nat} (hi : i < n) (hn : n ≤ 4096) (hN : N < maxLen) :
    ∃ w', (Instr.mapUpdate 70 (.map (some r)) (.int .i64 (i : Int)) (.agg #[])).run Try.prog w = .ok () w' ∧ RM w' r (N + 1) n (upd q i true) ∧ w.grownBy w' (some r) := by
  obtain ⟨D, h1, h2⟩ := h
  obtain ⟨w', hrun, r1, r2⟩ := h1.update (t := 70) kint Try.underlying70 hN (kof (i := i) (by omega)) unitElem_mk
  refine ⟨w', hrun, ⟨_, r1, fun j hj => ?_⟩, r2⟩
  by_cases e : j = i
  · subst e
    rw [upd_same]
    exact Maps.has_put_same h1.isMap (kkey _) _
  · rw [upd_other _ _ e, Maps.has_put_other (kne e)]
    exact h2 j hj
theorem RM.drop (h : RM w r N n q) {i : Nat} (hi : i < n) (hn : n ≤ 4096) (ty : TypeId) :
    ∃ w', (Builtin.delete_ #[70, 3] ty #[.map (some r), .int .i64 (i : Int)]).run Try.prog w = .ok (.tuple #[]) w' ∧ RM w' r N n (upd q i false) ∧ w.grownBy w' (some r) := by
  obtain ⟨D, h1, h2⟩ := h
  obtain ⟨w', hrun, r1, r2⟩ := h1.drop (t := 70) kint Try.underlying70 (kof (i := i) (by omega)) ty
  refine ⟨w', hrun, ⟨_, r1, fun j hj => ?_⟩, r2.grown⟩
  by_cases e : j = i
  · subst e
    rw [upd_same]
    exact Maps.has_del_same
  · rw [upd_other _ _ e, Maps.has_del_other (kne e)]
    exact h2 j hj
end
section
variable {w : World} {ops : Array Oper} {rest : List Oper} {o : Oper} {a : Act} {Q : Exit → Act → World → Prop} {r N n : Nat} {q : Nat → Bool}
theorem wpList_look_rm (hgd : o.guard = none) (x k : Operand) (ho : o.op = .lookup 70 x k true) {i : Nat} {z : Int} (hx : a.eval x = .map (some r)) (hk : a.eval k = .int .i64 z) (hz : z = (i : Int)) (h : RM w r N n q) (hi : i < n) (hn : n ≤ 4096) {b : Bool} (hb : q i = b)
    (hK : wpList Try.prog ops Q rest (a.put o.dst (.tuple #[.agg #[], .bool b])) w) : wpList Try.prog ops Q (o :: rest) a w := by
  subst hz hb
  refine wpList_plain hgd fun K hK' => ?_
  unfold Oper.wp
  simp [execOp, ho, hx, hk, h.look hi hn, Result.andThen]
  exact hK' _ _ hK
theorem wpList_put_rm (hgd : o.guard = none) (x k y : Operand) (ho : o.op = .mapUpdate 70 x k y) {i : Nat} {z : Int} (hx : a.eval x = .map (some r)) (hk : a.eval k = .int .i64 z) (hz : z = (i : Int)) (hy : a.eval y = .agg #[])
    (h : RM w r N n q) (hi : i < n) (hn : n ≤ 4096) (hN : N < maxLen) (hK : ∀ w', RM w' r (N + 1) n (upd q i true) → w.grownBy w' (some r) → wpList Try.prog ops Q rest (a.put o.dst undef) w') : wpList Try.prog ops Q (o :: rest) a w := by
  subst hz
  refine wpList_plain hgd fun K hK' => ?_
  obtain ⟨w', hrun, r1, r2⟩ := h.put hi hn hN
  unfold Oper.wp
  simp [execOp, ho, hx, hk, hy, hrun, Result.andThen]
  exact hK' _ _ (hK w' r1 r2)
theorem wpList_drop_rm (hgd : o.guard = none) (x k : Operand) (ho : o.op = Op.call { callee := Callee.builtin Builtin.delete, args := #[x, k], argTypes := #[70, 3] }) {i : Nat} {z : Int} (hx : a.eval x = .map (some r)) (hk : a.eval k = .int .i64 z) (hz : z = (i : Int))
    (h : RM w r N n q) (hi : i < n) (hn : n ≤ 4096) (hK : ∀ w', RM w' r N n (upd q i false) → w.grownBy w' (some r) → wpList Try.prog ops Q rest (a.put o.dst (.tuple #[])) w') : wpList Try.prog ops Q (o :: rest) a w := by
  subst hz
  refine wpList_plain hgd fun K hK' => ?_
  obtain ⟨w', hrun, r1, r2⟩ := h.drop hi hn o.type
  unfold Oper.wp
  simp [execOp, ho, resolve, invoke, builtin, hx, hk, hrun, Result.andThen]
  exact hK' _ _ (hK w' r1 r2)
end
end Go.Proofs.Ytdkniholeaiemaa.Dm
