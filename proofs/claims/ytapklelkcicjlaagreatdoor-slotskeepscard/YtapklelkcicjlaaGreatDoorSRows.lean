/-
  Rows of structs (k cells each) of the call's own: what is read of them, loads and stores of one, append. For any program. No conditions.
-/
import Derived.Test.YtapklelkcicjlaaGreatDoorKRow
import Derived.Laws.Tables
namespace Go.Proofs.YtapklelkcicjlaaGreatDoor.Sr
open Go.RowKit
set_option linter.unusedVariables false

/-- what a slice's type must be: its elements take k cells each -/
structure ElK (P : Program) (t e : TypeId) (k bytes : Nat) : Prop where
  sl : P.underlying t = some (.slice e)
  info : ∃ i z, P.info? e = some i ∧ i.zero = some z ∧ i.size = k ∧ i.bytes = bytes ∧ z.cells.size = k
  pos : 0 < k
  small : bytes ≤ 1000

/-- the rows, each of k cells -/
def Fits (k : Nat) (l : List (List Value)) : Prop := ∀ c ∈ l, c.length = k ∧ ∀ u ∈ c, u.oneCell' = true
theorem Fits.nil (k : Nat) : Fits k [] := fun c h => by cases h
theorem Fits.append {k : Nat} {l m : List (List Value)} (h : Fits k l) (h2 : Fits k m) : Fits k (l ++ m) := fun c hc => (List.mem_append.1 hc).elim (h c) (h2 c)
theorem Fits.one {k : Nat} {c : List Value} (h : c.length = k) (h1 : ∀ u ∈ c, u.oneCell' = true) : Fits k [c] := fun d hd => by rw [List.mem_singleton] at hd; subst hd; exact ⟨h, h1⟩
theorem Fits.set {k : Nat} {l : List (List Value)} (h : Fits k l) {c : List Value} (hc : c.length = k ∧ ∀ u ∈ c, u.oneCell' = true) (i : Nat) : Fits k (l.set i c) := fun d hd => by
  rcases List.mem_or_eq_of_mem_set hd with hd | hd
  · exact h d hd
  · subst hd; exact hc
theorem flat_len {k : Nat} : ∀ {l : List (List Value)}, Fits k l → l.flatten.length = l.length * k
  | [], _ => by simp
  | c :: l, h => by
    rw [List.flatten_cons, List.length_append, (h c (List.mem_cons_self ..)).1, flat_len fun d hd => h d (List.mem_cons_of_mem _ hd), List.length_cons, Nat.add_mul]
    omega
theorem flat_one {k : Nat} {l : List (List Value)} (h : Fits k l) {u : Value} (hu : u ∈ l.flatten) : u.oneCell' = true := by
  obtain ⟨c, hc, hu⟩ := List.mem_flatten.1 hu
  exact (h c hc).2 u hu
theorem flat_at {k : Nat} : ∀ {l : List (List Value)}, Fits k l → ∀ {i : Nat} {c : List Value}, l[i]? = some c → ∀ {j : Nat}, j < k → l.flatten[i * k + j]? = c[j]?
  | [], _, i, c, hc, j, hj => by simp at hc
  | d :: l, h, i, c, hc, j, hj => by
    have hd := (h d (List.mem_cons_self ..)).1
    cases i with
    | zero =>
      simp at hc
      subst hc
      rw [List.flatten_cons, Nat.zero_mul, Nat.zero_add, List.getElem?_append_left (by omega)]
    | succ i =>
      rw [List.getElem?_cons_succ] at hc
      rw [List.flatten_cons, Nat.add_mul, Nat.one_mul, List.getElem?_append_right (by omega), hd, show i * k + k + j - k = i * k + j by omega]
      exact flat_at (fun e he => h e (List.mem_cons_of_mem _ he)) hc hj
theorem flat_set {k : Nat} : ∀ {l : List (List Value)}, Fits k l → ∀ {i : Nat} {c d : List Value}, l[i]? = some d → c.length = k → (l.set i c).flatten = l.flatten.take (i * k) ++ c ++ l.flatten.drop (i * k + k)
  | [], _, i, c, d, hc, _ => by simp at hc
  | e :: l, h, i, c, d, hd, hc => by
    have he := (h e (List.mem_cons_self ..)).1
    cases i with
    | zero =>
      rw [List.set_cons_zero, List.flatten_cons, List.flatten_cons, Nat.zero_mul, Nat.zero_add, List.take_zero, List.nil_append, List.drop_left' he]
    | succ i =>
      rw [List.getElem?_cons_succ] at hd
      have e1 : (i + 1) * k = e.length + i * k := by rw [Nat.add_mul]; omega
      have e2 : (i + 1) * k + k = e.length + (i * k + k) := by omega
      rw [List.set_cons_succ, List.flatten_cons, List.flatten_cons, flat_set (fun f hf => h f (List.mem_cons_of_mem _ hf)) hd hc, e2, e1, List.take_length_add_append, List.drop_length_add_append, List.append_assoc, List.append_assoc, List.append_assoc]
theorem flat_setCell {k : Nat} {l : List (List Value)} (h : Fits k l) {i : Nat} {c : List Value} (hc : l[i]? = some c) {j : Nat} (hj : j < k) (u : Value) : (l.set i (c.set j u)).flatten = l.flatten.set (i * k + j) u := by
  have hk := (h c (List.mem_of_getElem? hc)).1
  rw [flat_set h hc (by rw [List.length_set]; exact hk)]
  have hl : i < l.length := (List.getElem?_eq_some_iff.1 hc).1
  have hfl := flat_len h
  have hle : i * k + k ≤ l.flatten.length := by rw [hfl, ← Nat.succ_mul]; exact Nat.mul_le_mul_right _ hl
  apply List.ext_getElem?
  intro m
  have e1 : (l.flatten.take (i * k)).length = i * k := by rw [List.length_take]; omega
  by_cases h1 : m < i * k
  · rw [List.append_assoc, List.getElem?_append_left (by omega), List.getElem?_take, if_pos h1, List.getElem?_set, if_neg (by omega)]
  · by_cases h2 : m < i * k + k
    · rw [List.append_assoc, List.getElem?_append_right (by omega), List.getElem?_append_left (by rw [List.length_set]; omega), e1, List.getElem?_set, List.getElem?_set]
      have hf := flat_at h hc (j := m - i * k) (by omega)
      rw [show i * k + (m - i * k) = m by omega] at hf
      by_cases h3 : j = m - i * k
      · rw [if_pos h3, if_pos (by omega), if_pos (by omega), if_pos (by omega)]
      · rw [if_neg h3, if_neg (by omega), hf]
    · rw [List.getElem?_append_right (by rw [List.length_append, List.length_set]; omega), List.length_append, List.length_set, List.getElem?_drop, List.getElem?_set, if_neg (by omega)]
      congr 1
      omega

/-- v is a slice of the call's own (from block B on) that holds these rows -/
def OwnS (w : World) (e k B : Nat) (v : Value) (l : List (List Value)) : Prop := Fits k l ∧ w.ownsRow B e k v l.length l.flatten

section
variable {w w' : World} {e k B : Nat} {v : Value} {l : List (List Value)}
theorem OwnS.nil (w : World) (e k B : Nat) : OwnS w e k B (.slice none 0 0) [] := ⟨Fits.nil k, World.ownsRow_nil w B e k⟩
theorem OwnS.alloc (h : OwnS w e k B v l) (o : Obj) : OwnS (w.alloc o) e k B v l := ⟨h.1, World.ownsRow.alloc h.2 o⟩
theorem OwnS.drew (h : OwnS w e k B v l) : OwnS w.drew e k B v l := h
theorem OwnS.drewN (h : OwnS w e k B v l) (n : Nat) : OwnS (w.drewN n) e k B v l := h
theorem OwnS.more {B' : Nat} (h : OwnS w e k B v l) (hB : B' ≤ B) : OwnS w e k B' v l := by
  refine ⟨h.1, ?_⟩
  rcases h.2.2 with h0 | ⟨g, cap, cur, h1, h2, h3⟩
  · exact ⟨h.2.1, .inl h0⟩
  · exact ⟨h.2.1, .inr ⟨g, cap, cur, h1, by omega, h3⟩⟩
theorem OwnS.ge (h : OwnS w e k B v l) : ∀ g, v.ownBlock = some g → B ≤ g ∧ g < w.heap.size := by
  intro g hg
  rcases h.2.2 with ⟨rfl, _⟩ | ⟨g', cap, cur, rfl, hb, hh, _⟩
  · cases hg
  · have : g' = g := by simpa [Value.ownBlock] using hg
    subst this
    exact ⟨hb, (Array.getElem?_eq_some_iff.1 hh).1⟩
theorem OwnS.keep (h : OwnS w e k B v l) (hk : ∀ g, v.ownBlock = some g → w'.heap[g]? = w.heap[g]?) : OwnS w' e k B v l := by
  refine ⟨h.1, ?_⟩
  rcases h.2.2 with h0 | ⟨g, cap, cur, rfl, hb, hh, h3⟩
  · exact ⟨h.2.1, .inl h0⟩
  · exact ⟨h.2.1, .inr ⟨g, cap, cur, rfl, hb, (hk g rfl).trans hh, h3⟩⟩
theorem OwnS.below (h : OwnS w e k B v l) (hb : Below w.heap.size w w') : OwnS w' e k B v l := h.keep fun g hg => hb.block g (h.ge g hg).2
theorem OwnS.form {n : Nat} (h : OwnS w e k B v l) (hl : l.length = n) : ∃ A c, v = .slice A n c ∧ n ≤ c ∧ c ≤ maxLen := by
  subst hl
  rcases h.2.2 with ⟨rfl, h0⟩ | ⟨g, cap, cur, rfl, hb, hh, hn, hm, _⟩
  · exact ⟨none, 0, by rw [h0], by omega, Nat.zero_le _⟩
  · exact ⟨_, cap, rfl, hn, hm⟩
theorem OwnS.here {n : Nat} (h : OwnS w e k B v l) (hl : l.length = n) (h0 : 0 < n) : ∃ g cap, v = .slice (some ⟨g, 0, none⟩) n cap ∧ B ≤ g ∧ n ≤ cap ∧ cap ≤ maxLen ∧ g < w.heap.size := by
  rcases h.2.2 with ⟨_, hn⟩ | ⟨g, cap, cur, hv, hb, hh, hc, hm, _⟩
  · omega
  · exact ⟨g, cap, by rw [hv, hl], hb, by omega, hm, (Array.getElem?_eq_some_iff.1 hh).1⟩
theorem OwnS.cell {g cap n i j : Nat} {c : List Value} {u : Value} (h : OwnS w e k B (.slice (some ⟨g, 0, none⟩) n cap) l) (hn : l.length = n) (hc : l[i]? = some c) (hu : c[j]? = some u) : w.cell? ⟨g, i * k + j, none⟩ = some u ∧ w.frozen? ⟨g, i * k + j, none⟩ = false := by
  subst hn
  have hi : i < l.length := (List.getElem?_eq_some_iff.1 hc).1
  have hj : j < k := by have := (List.getElem?_eq_some_iff.1 hu).1; have := (h.1 c (List.mem_of_getElem? hc)).1; omega
  have hlt : i * k + j < l.length * k := by
    have : i * k + k ≤ l.length * k := by rw [← Nat.succ_mul]; exact Nat.mul_le_mul_right _ hi
    omega
  refine ⟨?_, World.ownsRow.frozenAt h.2 _⟩
  rw [World.ownsRow.cellAt h.2 _ hlt, flat_at h.1 hc hj, hu]
/-- one cell stored -/
theorem OwnS.setCell {g cap n i j : Nat} {c : List Value} (h : OwnS w e k B (.slice (some ⟨g, 0, none⟩) n cap) l) (hn : l.length = n) (hc : l[i]? = some c) (hj : j < k) {u : Value} (hu : u.oneCell' = true) :
    OwnS (w.setCell ⟨g, i * k + j, none⟩ u) e k B (.slice (some ⟨g, 0, none⟩) n cap) (l.set i (c.set j u)) ∧ w.grownBy (w.setCell ⟨g, i * k + j, none⟩ u) (some g) := by
  subst hn
  obtain ⟨h1, h2⟩ := World.ownsRow.stored h.2 (i * k + j) u
  obtain ⟨q1, q2⟩ := h.1 c (List.mem_of_getElem? hc)
  refine ⟨⟨h.1.set ⟨by rw [List.length_set]; exact q1, fun x hx => (List.mem_or_eq_of_mem_set hx).elim (q2 x) (fun e => e ▸ hu)⟩ i, ?_⟩, h2⟩
  rw [List.length_set, flat_setCell h.1 hc hj]
  exact h1
end

section
variable {P : Program} {w : World} {e k B g cap n i : Nat} {l : List (List Value)} {c : List Value}
/-- one of them loaded whole -/
theorem OwnS.load {ty : TypeId} {d : TypeDesc} (h : OwnS w e k B (.slice (some ⟨g, 0, none⟩) n cap) l) (hn : l.length = n) (hc : l[i]? = some c) (hu : P.underlying ty = some d) (hd : (match d with | .struct _ | .array _ _ => true | _ => false) = true) (hi : (P.info? ty).map (·.size) = some k) {off : Nat} (ho : off = i * k) :
    (Instr.loadAt ty (.pointer (some ⟨g, off, none⟩))).run P w = .ok (.agg c.toArray) w := by
  subst ho
  have hk := (h.1 c (List.mem_of_getElem? hc)).1
  have hl : (loadCells ⟨g, i * k, none⟩ c.length).run P w = .ok c.toArray w :=
    run_loadCells_list (P := P) w ⟨g, i * k, none⟩ c (fun j u hv => by
      have hadd : (⟨g, i * k, none⟩ : Addr).add j = ⟨g, i * k + j, none⟩ := by unfold Addr.add; split <;> simp_all
      rw [hadd]
      exact (h.cell hn hc hv).1)
  rw [hk] at hl
  obtain ⟨i0, hi0, hs⟩ := Option.map_eq_some_iff.1 hi
  have hagg : (isAgg ty).run P w = .ok true w := by
    simp only [isAgg, Sem.run_bind, run_underlying hu, Result.andThen_ok]
    cases d <;> simp at hd <;> rfl
  have hsz : (sizeOf ty).run P w = .ok k w := by simp [sizeOf, typeInfo, hi0, hs]
  simp only [Instr.loadAt, Instr.sureAddr, Sem.run_bind, Sem.run_pure, Result.andThen_ok, loadVar, hagg, if_true, hsz, hl]
theorem wpList_load_S {ops : Array Oper} {rest : List Oper} {o : Oper} {a : Act} {Q : Exit → Act → World → Prop} (hgd : o.guard = none) (ty : TypeId) (x : Operand) (ho : o.op = .load ty x) {d : TypeDesc} {off : Nat} (hx : a.eval x = .pointer (some ⟨g, off, none⟩))
    (h : OwnS w e k B (.slice (some ⟨g, 0, none⟩) n cap) l) (hn : l.length = n) (hc : l[i]? = some c) (hu : P.underlying ty = some d) (hd : (match d with | .struct _ | .array _ _ => true | _ => false) = true) (hi : (P.info? ty).map (·.size) = some k) (hoff : off = i * k)
    (hK : wpList P ops Q rest (a.put o.dst (.agg c.toArray)) w) : wpList P ops Q (o :: rest) a w := by
  refine wpList_plain hgd fun K hK' => ?_
  unfold Oper.wp
  simp [execOp, ho, hx, h.load hn hc hu hd hi hoff, Result.andThen]
  exact hK' _ _ hK
/-- one of them stored whole -/
theorem OwnS.store {ty : TypeId} {c' : List Value} (h : OwnS w e k B (.slice (some ⟨g, 0, none⟩) n cap) l) (hn : l.length = n) (hc : l[i]? = some c) (hi : (P.info? ty).map (·.size) = some k) (hc' : c'.length = k) (h1 : ∀ u ∈ c', u.oneCell' = true) {off : Nat} (ho : off = i * k) :
    ∃ w', (Instr.storeAt ty (.pointer (some ⟨g, off, none⟩)) (.agg c'.toArray)).run P w = .ok () w' ∧ OwnS w' e k B (.slice (some ⟨g, 0, none⟩) n cap) (l.set i c') ∧ w.grownBy w' (some g) ∧ w'.heap.size = w.heap.size := by
  subst ho hn
  obtain ⟨i0, hi0, hs⟩ := Option.map_eq_some_iff.1 hi
  have hil : i < l.length := (List.getElem?_eq_some_iff.1 hc).1
  have hle : i * k + k ≤ l.length * k := by rw [← Nat.succ_mul]; exact Nat.mul_le_mul_right _ hil
  rcases h.2.2 with ⟨h', _⟩ | ⟨g', cap', cur, h', hb, hg, hnc, hcm, hcs, ht⟩
  · simp at h'
  · simp only [Value.slice.injEq, Option.some.injEq, Addr.mk.injEq, and_true, true_and] at h'
    obtain ⟨rfl, rfl⟩ := h'
    have hcap : l.length * k ≤ cap * k := Nat.mul_le_mul_right _ hnc
    have hst := run_storeCells_at P g (i * k) e c' 0 cur w hg (by rw [hcs, hc']; omega) h1
    rw [Nat.add_zero, hc'] at hst
    have hrun : (Instr.storeAt ty (.pointer (some ⟨g, i * k, none⟩)) (.agg c'.toArray)).run P w = .ok () (w.setRow g (cur.toList.take (i * k) ++ c' ++ cur.toList.drop (i * k + k)).toArray) := by
      have hsz : (sizeOf ty).run P w = .ok k w := by simp [sizeOf, typeInfo, hi0, hs]
      simp only [Instr.storeAt, Instr.sureAddr, Sem.run_bind, Sem.run_pure, Result.andThen_ok, storeVar, hsz, Value.cells, List.size_toArray, hc', ne_eq, not_true, if_false]
      exact hst
    refine ⟨_, hrun, ⟨h.1.set ⟨hc', h1⟩ i, ?_, .inr ⟨g, cap, _, by rw [List.length_set], hb, setRow_heap w g cur _ e _ hg, by rw [List.length_set]; exact hnc, hcm, ?_, ?_⟩⟩, ⟨rfl, rfl, rfl, by simp, fun m _ hm => setRow_other w g m _ (fun e => hm (by rw [e]))⟩, by simp⟩
    · rw [flat_len (h.1.set ⟨hc', h1⟩ i)]
    · simp only [List.size_toArray, List.length_append, List.length_take, List.length_drop, Array.length_toList, hc']; omega
    · rw [flat_set h.1 hc hc', List.length_set, ← ht, List.take_take, List.drop_take, Nat.min_eq_left (by omega : i * k ≤ l.length * k)]
      have e1 : (cur.toList.take (i * k) ++ c').length = i * k + k := by rw [List.length_append, List.length_take, Array.length_toList, hc']; omega
      rw [List.take_append, e1, List.take_of_length_le (by rw [e1]; omega)]
theorem wpList_store_S {ops : Array Oper} {rest : List Oper} {o : Oper} {a : Act} {Q : Exit → Act → World → Prop} (hgd : o.guard = none) (ty : TypeId) (x y : Operand) (ho : o.op = .store ty x y) {c' : List Value} {off : Nat} (hx : a.eval x = .pointer (some ⟨g, off, none⟩)) (hy : a.eval y = .agg c'.toArray)
    (h : OwnS w e k B (.slice (some ⟨g, 0, none⟩) n cap) l) (hn : l.length = n) (hc : l[i]? = some c) (hi : (P.info? ty).map (·.size) = some k) (hc' : c'.length = k) (h1 : ∀ u ∈ c', u.oneCell' = true) (hoff : off = i * k)
    (hK : ∀ w', OwnS w' e k B (.slice (some ⟨g, 0, none⟩) n cap) (l.set i c') → w.grownBy w' (some g) → w'.heap.size = w.heap.size → wpList P ops Q rest (a.put o.dst undef) w') : wpList P ops Q (o :: rest) a w := by
  refine wpList_plain hgd fun K hK' => ?_
  obtain ⟨w', hrun, r1, r2, r3⟩ := h.store (P := P) hn hc hi hc' h1 hoff
  unfold Oper.wp
  simp [execOp, ho, hx, hy, hrun, Result.andThen]
  exact hK' _ _ (hK w' r1 r2 r3)

/-- append of rows that a slice reads as -/
theorem run_append_S {t ty : TypeId} {bytes : Nat} {v : Value} {us : List (List Value)} {ad : Addr} {m : Nat} (cp : Nat) (hT : ElK P t e k bytes) (hown : OwnS w e k B v l) (hus : Fits k us) (hm : us.length = m) (hs : ∀ j u, us.flatten[j]? = some u → w.cell? (ad.add j) = some u)
    (hl : l.length + m ≤ 1000000) (hB : B ≤ w.heap.size) :
    ∃ v' w', (Builtin.append_ #[t, t] ty #[v, .slice (some ad) m cp]).run P w = .ok v' w' ∧ OwnS w' e k B v' (l ++ us) ∧ w.grownBy w' v.ownBlock ∧ (v'.ownBlock = v.ownBlock ∨ v'.ownBlock = some w.heap.size) := by
  obtain ⟨i0, z, hi, hz0, hz1, hz2, hz3⟩ := hT.info
  have hb := hT.small
  have hbm : (l.length + m) * bytes ≤ 1000000 * 1000 := Nat.mul_le_mul hl hb
  obtain ⟨v', w', hr, h2, h3, _, h5⟩ := run_append_own_at (P := P) w B t ty e i0 z k bytes hT.sl hi hz0 hz1 hz2 hz3 hT.pos v l.length l.flatten hown.2 ad m cp us.flatten (by rw [flat_len hus, hm]) hs (fun u hu => flat_one hus hu) (by unfold maxLen; omega) (by omega) hB
  refine ⟨v', w', hr, ⟨hown.1.append hus, ?_⟩, h3, h5⟩
  rw [List.length_append, List.flatten_append, hm]
  exact h2
/-- append of one, that lies in a new block -/
theorem wpList_append_S {wr : World} {ops : Array Oper} {rest : List Oper} {o : Oper} {a : Act} {Q : Exit → Act → World → Prop} (hgd : o.guard = none) (s x : Operand) (t : TypeId) (ho : o.op = .call { callee := .builtin .append, args := #[s, x], argTypes := #[t, t] }) {bytes : Nat} (hT : ElK P t e k bytes)
    {w0 : World} {v : Value} (hs : a.eval s = v) (hown : OwnS wr e k w0.heap.size v l) (hb : Below w0.heap.size w0 wr) (cp : Nat) {cs : Array Value} {T : TypeId} (hx : a.eval x = .slice (some ⟨wr.heap.size, 0, none⟩) 1 cp) (hcs : cs.toList = c) (hc : c.length = k) (h1 : ∀ u ∈ c, u.oneCell' = true) (hl : l.length + 1 ≤ 1000000)
    (hK : ∀ v' w', OwnS w' e k w0.heap.size v' (l ++ [c]) → Below w0.heap.size w0 w' → wr.grownBy w' v.ownBlock → (v'.ownBlock = v.ownBlock ∨ ∃ g, v'.ownBlock = some g ∧ wr.heap.size ≤ g) → wpList P ops Q rest (a.put o.dst v') w') : wpList P ops Q (o :: rest) a (wr.alloc (.cells cs T)) := by
  refine wpList_plain hgd fun K hK' => ?_
  have hb1 : Below w0.heap.size w0 (wr.alloc (.cells cs T)) := hb.alloc hb.size _
  obtain ⟨v', w', hrun, h2, h3, h4⟩ := run_append_S (P := P) (w := wr.alloc (.cells cs T)) (ty := o.type) (us := [c]) (m := 1) (ad := ⟨wr.heap.size, 0, none⟩) cp hT (hown.alloc _) (Fits.one hc h1) rfl (fun j u hu => by
    rw [Go.WideShapes.add_plain, Nat.zero_add, cell_of_row _ _ _ _ _ _ (heap_alloc_new wr (.cells cs T))]
    rw [List.flatten_cons, List.flatten_nil, List.append_nil, ← hcs] at hu
    simpa using hu) hl hb1.size
  unfold Oper.wp execOp
  simp only [ho, resolve, invoke, builtin, Sem.run_bind, Sem.run_pure, Result.andThen_ok, List.map_toArray, List.map_cons, List.map_nil, hs, hx, hrun]
  have g0 : wr.grownBy (wr.alloc (.cells cs T)) v.ownBlock := World.grownBy_alloc wr _ _
  exact hK' _ _ (hK v' w' h2 (hb1.grown h3 hb1.size fun g hg => (hown.ge g hg).1) (g0.trans h3) (h4.imp id fun e => ⟨_, e, by simp⟩))
/-- the same, whatever else has turned -/
theorem wpList_append_S2 {wr : World} {ops : Array Oper} {rest : List Oper} {o : Oper} {a : Act} {Q : Exit → Act → World → Prop} (hgd : o.guard = none) (s x : Operand) (t : TypeId) (ho : o.op = .call { callee := .builtin .append, args := #[s, x], argTypes := #[t, t] }) {bytes : Nat} (hT : ElK P t e k bytes)
    {v : Value} (hs : a.eval s = v) (hown : OwnS wr e k B v l) (hB : B ≤ wr.heap.size) (cp : Nat) {cs : Array Value} {T : TypeId} (hx : a.eval x = .slice (some ⟨wr.heap.size, 0, none⟩) 1 cp) (hcs : cs.toList = c) (hc : c.length = k) (h1 : ∀ u ∈ c, u.oneCell' = true) (hl : l.length + 1 ≤ 1000000)
    (hK : ∀ v' w', OwnS w' e k B v' (l ++ [c]) → wr.grownBy w' v.ownBlock → wpList P ops Q rest (a.put o.dst v') w') : wpList P ops Q (o :: rest) a (wr.alloc (.cells cs T)) := by
  refine wpList_plain hgd fun K hK' => ?_
  obtain ⟨v', w', hrun, h2, h3, h4⟩ := run_append_S (P := P) (w := wr.alloc (.cells cs T)) (ty := o.type) (us := [c]) (m := 1) (ad := ⟨wr.heap.size, 0, none⟩) cp hT (hown.alloc _) (Fits.one hc h1) rfl (fun j u hu => by
    rw [Go.WideShapes.add_plain, Nat.zero_add, cell_of_row _ _ _ _ _ _ (heap_alloc_new wr (.cells cs T))]
    rw [List.flatten_cons, List.flatten_nil, List.append_nil, ← hcs] at hu
    simpa using hu) hl (Nat.le_trans hB (by simp))
  unfold Oper.wp execOp
  simp only [ho, resolve, invoke, builtin, Sem.run_bind, Sem.run_pure, Result.andThen_ok, List.map_toArray, List.map_cons, List.map_nil, hs, hx, hrun]
  have g0 : wr.grownBy (wr.alloc (.cells cs T)) v.ownBlock := World.grownBy_alloc wr _ _
  exact hK' _ _ (hK v' w' h2 (g0.trans h3))
end
end Go.Proofs.YtapklelkcicjlaaGreatDoor.Sr
