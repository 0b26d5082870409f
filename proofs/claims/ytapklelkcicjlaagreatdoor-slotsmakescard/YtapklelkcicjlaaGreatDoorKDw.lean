/-
  Elder texts, one behind the other: DvWrite, DvWrite2, DvWrite3, DvFlush. No conditions.
-/
import Derived.Test.YtapklelkcicjlaaGreatDoorKDs
/-! Contracts of Write. No conditions. -/
namespace Go.Proofs.YtapklelkcicjlaaGreatDoor.Dw
set_option maxRecDepth 100000
open Go.RowKit Oc Dm
set_option linter.unusedVariables false

def lenO : Option Pl → Nat
  | none => 0
  | some t => t.2.1
theorem srow_owns {w : World} {b n cap : Nat} {f : Nat → List UInt8} (h : SRow w b n cap f) : ∃ xs : List Value, w.ownsRow 0 128 64 (.slice (some ⟨b, 0, none⟩) n cap) n xs ∧ ∀ i, i < n → ∀ j x, (f i)[j]? = some x → xs[i * 64 + j]? = some (ov x) := by
  obtain ⟨cur, hg, h1, h2, h3, h4⟩ := h
  refine ⟨cur.toList.take (n * 64), ⟨by rw [List.length_take]; simp; omega, .inr ⟨b, cap, cur, rfl, Nat.zero_le _, hg, h2, h3, h1, rfl⟩⟩, fun i hi j x hx => ?_⟩
  have hj : j < (f i).length := (List.getElem?_eq_some_iff.1 hx).1
  have hl := (h4 i hi).1
  rw [List.getElem?_take, if_pos (by omega)]
  simpa using (h4 i hi).2 j x hx
theorem run_append_sec {w : World} (o : Option Pl) {f : Nat → List UInt8} {b : Nat} {x : List UInt8} (ty : TypeId) (h : ∀ t, o = some t → SRow w t.1 t.2.1 t.2.2 f) (hnew : SRow w b 1 1 (fun _ => x)) (hlen : lenO o ≤ 1000000000) :
    ∃ t' w', (Builtin.append_ #[121, 121] ty #[slv o, .slice (some ⟨b, 0, none⟩) 1 1]).run Tryz.prog w = .ok (slv (some t')) w' ∧ t'.2.1 = lenO o + 1 ∧ SRow w' t'.1 (lenO o + 1) t'.2.2 (upd f (lenO o) x) ∧ w.grownBy w' (o.map (·.1)) ∧ (o.map (·.1) = some t'.1 ∨ t'.1 = w.heap.size) := by
  have hx : x.length = 64 := hnew.len (i := 0) (by decide)
  obtain ⟨i, hi, hz, hs, hb⟩ := sec_info
  obtain ⟨xs, hown, hxs, hbl⟩ : ∃ xs : List Value, w.ownsRow 0 128 64 (slv o) (lenO o) xs ∧ (∀ i, i < lenO o → (f i).length = 64 ∧ ∀ j y, (f i)[j]? = some y → xs[i * 64 + j]? = some (ov y)) ∧ (slv o).ownBlock = o.map (·.1) := by
    cases o with
    | none => exact ⟨[], World.ownsRow_nil w 0 _ _, fun i hi => absurd hi (Nat.not_lt_zero _), rfl⟩
    | some t =>
      obtain ⟨xs, h1, h2⟩ := srow_owns (h t rfl)
      exact ⟨xs, h1, fun i hi => ⟨(h t rfl).len hi, h2 i hi⟩, rfl⟩
  have hnc : ∀ j u, (x.map ov)[j]? = some u → w.cell? ((⟨b, 0, none⟩ : Addr).add j) = some u := by
    intro j u hu
    obtain ⟨y, hy, rfl⟩ := Option.map_eq_some_iff.1 ((List.getElem?_map ..).symm.trans hu)
    have hadd : (⟨b, 0, none⟩ : Addr).add j = ⟨b, 0 + j, none⟩ := by unfold Addr.add; split <;> simp_all
    obtain ⟨cur, hg, _, _, _, h4⟩ := hnew
    rw [hadd, cell_of_row w b _ cur _ (0, 0) hg]
    have := (h4 0 (by decide)).2 j y hy
    simpa using this
  obtain ⟨v', w', hrun, r1, r2, r3, r4⟩ := run_append_own_at (P := Tryz.prog) w 0 121 ty 128 i (sv zs) 64 64 Tryz.underlying121 hi hz hs hb (by rw [sv_cells, zs_cells]; simp) (by decide) (slv o) (lenO o) xs hown ⟨b, 0, none⟩ 1 1 (x.map ov) (by rw [List.length_map, hx]) hnc (ov_one x) (by unfold maxLen; omega) (by omega) (Nat.zero_le _)
  rw [hbl] at r2 r4
  obtain ⟨hl, hor⟩ := r1
  rcases hor with ⟨e, e2⟩ | ⟨g', cap', cur', e, _, hg', h2, h3, h4, h5⟩
  · omega
  subst e
  have hxl := hown.1
  refine ⟨(g', lenO o + 1, cap'), w', hrun, rfl, ⟨cur', hg', h4, h2, h3, fun k hk => ?_⟩, r2, ?_⟩
  · have hget : ∀ j, j < (lenO o + 1) * 64 → cur'[j]? = (xs ++ x.map ov)[j]? := fun j hj => by
      rw [← h5, List.getElem?_take, if_pos hj]
      simp
    by_cases e : k = lenO o
    · subst e
      rw [upd_same]
      refine ⟨hx, fun j y hy => ?_⟩
      have hj : j < x.length := (List.getElem?_eq_some_iff.1 hy).1
      rw [hget _ (by omega), List.getElem?_append_right (by omega), hxl, show lenO o * 64 + j - lenO o * 64 = j by omega, List.getElem?_map, hy]
      rfl
    · rw [upd_other _ _ e]
      obtain ⟨q1, q2⟩ := hxs k (by omega)
      refine ⟨q1, fun j y hy => ?_⟩
      have hj : j < (f k).length := (List.getElem?_eq_some_iff.1 hy).1
      rw [hget _ (by omega), List.getElem?_append_left (by omega)]
      exact q2 j y hy
  · rcases r4 with e | e
    · exact .inl (by rw [← e]; rfl)
    · exact .inr (by have : some g' = some w.heap.size := e; injection this)

theorem fold_set (off : Nat) : ∀ (l : List Value) (n : Nat) (cs : Array Value) (j : Nat), off + n + l.length ≤ cs.size → ((l.zipIdx n).foldl (fun cs p => cs.setIfInBounds (off + p.2) p.1) cs)[j]? = if off + n ≤ j ∧ j < off + n + l.length then l[j - (off + n)]? else cs[j]?
  | [], n, cs, j, h => by simp; omega
  | v :: l, n, cs, j, h => by
    rw [List.zipIdx_cons, List.foldl_cons, fold_set off l (n + 1) _ j (by simp at h ⊢; omega)]
    simp only [List.length_cons] at h ⊢
    by_cases h1 : off + (n + 1) ≤ j ∧ j < off + (n + 1) + l.length
    · rw [if_pos h1, if_pos (by omega), show j - (off + n) = (j - (off + (n + 1))) + 1 by omega, List.getElem?_cons_succ]
    · rw [if_neg h1, Array.getElem?_setIfInBounds]
      by_cases h2 : off + n = j
      · subst h2
        rw [if_pos rfl, if_pos (by omega), if_pos (by omega), Nat.sub_self, List.getElem?_cons_zero]
      · rw [if_neg h2, if_neg (by omega)]
theorem run_build_any {P : Program} (w : World) {t e : TypeId} {z v : Value} {k : Nat} (ht : P.underlying t = some (.slice e)) (hs : ∀ w, (sizeOf e).run P w = .ok k w) (hz : ∀ w, (zeroValue e).run P w = .ok z w) (hv : v.cells.size = k) (h0 : 0 < k) (h1 : k ≤ 16777216) :
    (Instr.buildSlice t 1 #[(0, v)]).run P w = .ok (.slice (some ⟨w.heap.size, 0, none⟩) 1 1) (w.alloc (.cells v.cells e)) := by
  have hfill : ∀ cells : Array Value, cells.size = k → Instr.fill (fun i => some (i * k, k)) cells [(0, v)] = some v.cells := by
    intro cells hc
    unfold Instr.fill
    simp only [hv, ne_eq, not_true, decide_false, Bool.false_or, hc, Nat.zero_mul, Nat.zero_add, gt_iff_lt, Nat.lt_irrefl, Bool.false_eq_true, if_false, Instr.fill]
    congr 1
    apply Array.ext_getElem?
    intro j
    have := fold_set 0 v.cells.toList 0 cells j (by simp [hv, hc])
    simp only [Nat.zero_add] at this
    rw [← Array.foldl_toList, Array.toList_zipIdx]
    rw [this]
    by_cases hj : j < k
    · rw [if_pos (by simp [hv]; exact hj)]
      simp
    · rw [if_neg (by simp [hv]; omega), Array.getElem?_eq_none (by omega), Array.getElem?_eq_none (by omega)]
  have e := hfill ((Array.range (1 * k)).map (z.cells[· % z.cells.size]!)) (by simp)
  have h2 : ¬ (1 * k > 2 ^ 24) := by simp; omega
  have h3 : ¬ (1 * k = 0) := by omega
  simp only [Instr.buildSlice, Sem.run_bind, run_underlying ht, Result.andThen_ok, hs, if_neg h2, if_neg h3, hz, Sem.run_pure, e]
  simp [newRow, Result.andThen, go_sem]
theorem run_build_sec (w : World) (x : List UInt8) (hx : x.length = 64) : (Instr.buildSlice 121 1 #[(0, sv x)]).run Tryz.prog w = .ok (.slice (some ⟨w.heap.size, 0, none⟩) 1 1) (w.alloc (.cells (x.map ov).toArray 128)) :=
  run_build_any (k := 64) w Tryz.underlying121 Tryz.sizeOf128 zero_sec (by rw [sv_cells]; simp [hx]) (by decide) (by decide)
end Go.Proofs.YtapklelkcicjlaaGreatDoor.Dw

/-! Contracts of Write. No conditions. -/
namespace Go.Proofs.YtapklelkcicjlaaGreatDoor.Dw
set_option maxRecDepth 100000
open Go.RowKit Oc Dm
set_option linter.unusedVariables false
section
variable {ops : Array Oper} {rest : List Oper} {a : Act} {w : World} {Q : Exit → Act → World → Prop} {dst : Option Tmp} {ty : TypeId} {pos : String} {af : Array Edge} {x y k : Operand} {b i n m N : Nat} {xs : List UInt8} {f : Nat → List UInt8} {g : Nat → Option Pl}
theorem wpList_build_sec {o : Oper} (hgd : o.guard = none) (ho : o.op = .buildSlice 121 1 #[(0, y)]) (hy : a.eval y = sv xs) (hx : xs.length = 64)
    (hK : ∀ w', SRow w' w.heap.size 1 1 (fun _ => xs) → w.grownBy w' none → w'.heap.size = w.heap.size + 1 → wpList Tryz.prog ops Q rest (a.put o.dst (.slice (some ⟨w.heap.size, 0, none⟩) 1 1)) w') : wpList Tryz.prog ops Q (o :: rest) a w := by
  refine wpList_plain hgd fun K hK' => ?_
  have hrun := run_build_sec w xs hx
  have e : (execOp a.eval o).run Tryz.prog w = .ok (.value (.slice (some ⟨w.heap.size, 0, none⟩) 1 1)) (w.alloc (.cells (xs.map ov).toArray 128)) := by
    simp only [execOp, ho, List.map_toArray, List.map_cons, List.map_nil, hy, Sem.run_bind, hrun, Result.andThen_ok, Sem.run_pure]
  unfold Oper.wp
  rw [e]
  exact hK' _ _ (hK _ (srow_box w xs hx) (World.grownBy_alloc w _ none) (by simp))
theorem L_build (hy : a.eval y = sv xs) (hx : xs.length = 64)
    (hK : ∀ w', SRow w' w.heap.size 1 1 (fun _ => xs) → w.grownBy w' none → w'.heap.size = w.heap.size + 1 → wpList Tryz.prog ops Q rest (a.put dst (.slice (some ⟨w.heap.size, 0, none⟩) 1 1)) w') : wpList Tryz.prog ops Q (⟨dst, .buildSlice 121 1 #[(0, y)], ty, pos, af, none⟩ :: rest) a w := wpList_build_sec rfl rfl hy hx hK
theorem wpList_append_sec {o : Oper} {v : Value} {t : Option Pl} (hgd : o.guard = none) (ho : o.op = Op.call { callee := Callee.builtin Builtin.append, args := #[x, y], argTypes := #[121, 121] }) (hv : slv t = v) (hx : a.eval x = v) (hy : a.eval y = .slice (some ⟨b, 0, none⟩) 1 1) (h : ∀ s, t = some s → SRow w s.1 s.2.1 s.2.2 f) (hnew : SRow w b 1 1 (fun _ => xs)) (hlen : lenO t ≤ 1000000000)
    (hK : ∀ (t' : Pl) w', t'.2.1 = lenO t + 1 → SRow w' t'.1 (lenO t + 1) t'.2.2 (upd f (lenO t) xs) → w.grownBy w' (t.map (·.1)) → (t.map (·.1) = some t'.1 ∨ t'.1 = w.heap.size) → wpList Tryz.prog ops Q rest (a.put o.dst (.slice (some ⟨t'.1, 0, none⟩) t'.2.1 t'.2.2)) w') : wpList Tryz.prog ops Q (o :: rest) a w := by
  subst hv
  refine wpList_plain hgd fun K hK' => ?_
  obtain ⟨t', w', hrun, r1, r2, r3, r4⟩ := run_append_sec t o.type h hnew hlen
  rw [show slv (some t') = .slice (some ⟨t'.1, 0, none⟩) t'.2.1 t'.2.2 from rfl] at hrun
  unfold Oper.wp
  simp [execOp, ho, resolve, invoke, builtin, hx, hy, hrun, Result.andThen]
  exact hK' _ _ (hK t' w' r1 r2 r3 r4)
theorem L_append {v : Value} {t : Option Pl} (hv : slv t = v) (hx : a.eval x = v) (hy : a.eval y = .slice (some ⟨b, 0, none⟩) 1 1) (h : ∀ s, t = some s → SRow w s.1 s.2.1 s.2.2 f) (hnew : SRow w b 1 1 (fun _ => xs)) (hlen : lenO t ≤ 1000000000)
    (hK : ∀ (t' : Pl) w', t'.2.1 = lenO t + 1 → SRow w' t'.1 (lenO t + 1) t'.2.2 (upd f (lenO t) xs) → w.grownBy w' (t.map (·.1)) → (t.map (·.1) = some t'.1 ∨ t'.1 = w.heap.size) → wpList Tryz.prog ops Q rest (a.put dst (.slice (some ⟨t'.1, 0, none⟩) t'.2.1 t'.2.2)) w') :
    wpList Tryz.prog ops Q (⟨dst, Op.call { callee := Callee.builtin Builtin.append, args := #[x, y], argTypes := #[121, 121] }, ty, pos, af, none⟩ :: rest) a w := wpList_append_sec rfl rfl hv hx hy h hnew hlen hK
theorem W_build {o : Oper} {K : Act → World → Prop} (ho : o.op = .buildSlice 121 1 #[(0, y)]) (hy : a.eval y = sv xs) (hx : xs.length = 64)
    (hK : ∀ w', SRow w' w.heap.size 1 1 (fun _ => xs) → w.grownBy w' none → w'.heap.size = w.heap.size + 1 → K (a.put o.dst (.slice (some ⟨w.heap.size, 0, none⟩) 1 1)) w') : o.wp Tryz.prog a w K Q := by
  have hrun := run_build_sec w xs hx
  have e : (execOp a.eval o).run Tryz.prog w = .ok (.value (.slice (some ⟨w.heap.size, 0, none⟩) 1 1)) (w.alloc (.cells (xs.map ov).toArray 128)) := by
    simp only [execOp, ho, List.map_toArray, List.map_cons, List.map_nil, hy, Sem.run_bind, hrun, Result.andThen_ok, Sem.run_pure]
  unfold Oper.wp
  rw [e]
  exact hK _ (srow_box w xs hx) (World.grownBy_alloc w _ none) (by simp)
theorem W_append {o : Oper} {K : Act → World → Prop} {v : Value} {t : Option Pl} (ho : o.op = Op.call { callee := Callee.builtin Builtin.append, args := #[x, y], argTypes := #[121, 121] }) (hv : slv t = v) (hx : a.eval x = v) (hy : a.eval y = .slice (some ⟨b, 0, none⟩) 1 1) (h : ∀ s, t = some s → SRow w s.1 s.2.1 s.2.2 f) (hnew : SRow w b 1 1 (fun _ => xs)) (hlen : lenO t ≤ 1000000000)
    (hK : ∀ (t' : Pl) w', t'.2.1 = lenO t + 1 → SRow w' t'.1 (lenO t + 1) t'.2.2 (upd f (lenO t) xs) → w.grownBy w' (t.map (·.1)) → (t.map (·.1) = some t'.1 ∨ t'.1 = w.heap.size) → K (a.put o.dst (.slice (some ⟨t'.1, 0, none⟩) t'.2.1 t'.2.2)) w') : o.wp Tryz.prog a w K Q := by
  subst hv
  obtain ⟨t', w', hrun, r1, r2, r3, r4⟩ := run_append_sec t o.type h hnew hlen
  rw [show slv (some t') = .slice (some ⟨t'.1, 0, none⟩) t'.2.1 t'.2.2 from rfl] at hrun
  unfold Oper.wp execOp
  simp only [ho, resolve, invoke, builtin, Sem.run_bind, Sem.run_pure, Result.andThen_ok, List.map_toArray, List.map_cons, List.map_nil, hx, hy, hrun]
  exact hK t' w' r1 r2 r3 r4
theorem W_put {o : Oper} {K : Act → World → Prop} {l c : Nat} (ho : o.op = .mapUpdate 122 x k y) (hx : a.eval x = .map (some m)) (hk : a.eval k = .int .i64 (i : Int)) (hy : a.eval y = .slice (some ⟨b, 0, none⟩) l c) (h : LM w m N n g) (hi : i < n) (hn : n ≤ 4096) (hN : N < maxLen)
    (hK : ∀ w', LM w' m (N + 1) n (upd g i (some (b, l, c))) → w.grownBy w' (some m) → w'.heap.size = w.heap.size → K (a.put o.dst undef) w') : o.wp Tryz.prog a w K Q := by
  obtain ⟨w', hrun, r1, r2, r3⟩ := h.put hi hn hN (b, l, c)
  rw [show slv (some (b, l, c)) = .slice (some ⟨b, 0, none⟩) l c from rfl] at hrun
  unfold Oper.wp
  simp [execOp, ho, hx, hk, hy, hrun, Result.andThen]
  exact hK w' r1 r2 r3
open Gt in
set_option maxRecDepth 100000 in
theorem gate_put {md : Region.Mode} {S : World → Prop} {t j fuel l c : Nat} {listed : Array Bool} (hr : Region.ready md ops listed = [j]) (hr2 : Region.ready md ops (listed.setIfInBounds j true) = []) (hit : j = t) (ho : ops[j]? = some ⟨dst, .mapUpdate 122 x k y, ty, pos, af, none⟩) (hx : a.eval x = .map (some m)) (hk : a.eval k = .int .i64 (i : Int)) (hy : a.eval y = .slice (some ⟨b, 0, none⟩) l c) (h : LM w m N n g) (hi : i < n) (hn : n ≤ 4096) (hN : N < maxLen)
    (hK : ∀ w', LM w' m (N + 1) n (upd g i (some (b, l, c))) → w.grownBy w' (some m) → w'.heap.size = w.heap.size → Q .normal (a.put dst undef) w') : Gate Tryz.prog md ops Q S t (fuel + 1) listed a w :=
  gate_last hr hr2 hit ho rfl (fun K hK' => W_put rfl hx hk hy h hi hn hN (fun w' r1 r2 r3 => hK' _ _ (hK w' r1 r2 r3)))
theorem ex_look {o : Oper} {v : Value} (ho : o.op = .lookup 122 x k false) (hx : a.eval x = .map (some m)) (hk : a.eval k = .int .i64 (i : Int)) (h : LM w m N n g) (hi : i < n) (hn : n ≤ 4096) (hv : slv (g i) = v) : (execOp a.eval o).run Tryz.prog w = .ok (.value v) w := by
  subst hv
  simp [execOp, ho, hx, hk, h.look hi hn, Result.andThen]
set_option maxRecDepth 100000 in
theorem still_look {Q : Act → Prop} {v : Value} (hx : a.eval x = .map (some m)) (hk : a.eval k = .int .i64 (i : Int)) (h : LM w m N n g) (hi : i < n) (hn : n ≤ 4096) (hv : slv (g i) = v)
    (hK : wpStill Tryz.prog ops w Q rest (a.put dst v)) : wpStill Tryz.prog ops w Q (⟨dst, .lookup 122 x k false, ty, pos, af, none⟩ :: rest) a := by
  refine wpStill_step (fun K hK' => ?_)
  rw [if_pos (by simp [Region.wanted])]
  have e := ex_look (o := ⟨dst, .lookup 122 x k false, ty, pos, af, none⟩) rfl hx hk h hi hn hv
  unfold Oper.still
  rw [e, Oper.stillUpon_value]
  exact hK' _ hK
end
section
variable {w w' : World} {F : Nat → Prop} {D p n N : Nat} {S : Nat → Sec} {rd wr fx m r : Nat} {g : Nat → Option Pl} {s : PS}
/-- a loose write is made -/
def wrote (S : Nat → Sec) (i : Nat) (x : List UInt8) : Nat → Sec := upd S i ⟨(S i).fixed, (S i).loose ++ [x], (S i).rotten⟩
theorem DvAt.len_eq (h : DvAt w F D p n N S rd wr fx m r g) {i : Nat} (hi : i < n) : lenO (g i) = (S i).loose.length := by
  cases hg : g i with
  | none => rw [h.none_ i hi hg]; rfl
  | some t => exact (h.some_ i t hi hg).2.1
theorem DvAt.wrote (h : DvAt w F D p n N S rd wr fx m r g) {i : Nat} {x : List UInt8} (hi : i < n) (hN : N + 1 ≤ 1000000000) {t' : Pl} (e1 : t'.2.1 = lenO (g i) + 1) (r1 : SRow w' t'.1 (lenO (g i) + 1) t'.2.2 (upd (fun j => (S i).loose.getD j []) (lenO (g i)) x)) (r2 : LM w' m (N + 1) n (upd g i (some t')))
    (hc : Chg (fun k => k = m ∨ (g i).map (·.1) = some k) w w') (hb : (g i).map (·.1) = some t'.1 ∨ w.heap.size ≤ t'.1) : DvAt w' (Ext F w w') D p n (N + 1) (Dw.wrote S i x) rd wr fx m r (upd g i (some t')) := by
  have hcells : ∀ k c T, w.heap[k]? = some (.cells c T (0, 0)) → k ≠ m := fun k c T hb e => by obtain ⟨_, ⟨es, c, hg, _⟩, _⟩ := h.lm; rw [e, hg] at hb; cases hb
  have hrow : ∀ k, (g i).map (·.1) = some k → ∃ c, w.heap[k]? = some (.cells c 128 (0, 0)) ∧ k ≠ fx ∧ F k := fun k e => by
    cases hg : g i with
    | none => rw [hg] at e; cases e
    | some t =>
      rw [hg] at e
      injection e with e
      subst e
      obtain ⟨_, _, ⟨c, hc, _⟩, hF, hx⟩ := h.some_ i t hi hg
      exact ⟨c, hc, hx, hF⟩
  have hk : ∀ k, k < w.heap.size → k ≠ m → (g i).map (·.1) ≠ some k → w'.heap[k]? = w.heap[k]? := fun k h1 h2 h3 => hc.block k h1 (fun x => x.elim h2 h3)
  have hD : w'.heap[D]? = w.heap[D]? := hk D (lt_of_heap h.head) (hcells _ _ _ h.head) (fun e => by obtain ⟨c, hc, _⟩ := hrow D e; rw [h.head] at hc; cases hc)
  have hfx : w'.heap[fx]? = w.heap[fx]? := by
    obtain ⟨c, hc, _⟩ := h.fixd
    exact hk fx (lt_of_heap hc) (hcells _ _ _ hc) (fun e => (hrow fx e).choose_spec.2.1 rfl)
  have hr : w'.heap[r]? = w.heap[r]? := by
    obtain ⟨_, ⟨es, c, hb, _⟩, _⟩ := h.rm
    exact hk r (lt_of_heap hb) (fun e => h.mr e.symm) (fun e => by obtain ⟨c, hc, _⟩ := hrow r e; rw [hb] at hc; cases hc)
  have hlt : t'.1 < w'.heap.size := r1.lt
  have hle := h.len_eq hi
  have hF' : Ext F w w' t'.1 := by
    rcases hb with e | e
    · exact .inl (hrow _ e).choose_spec.2.2
    · exact .inr ⟨e, hlt⟩
  exact {
    head := hD.trans h.head
    fixd := (h.fixd.heap hfx).congr (fun j hj => by
      unfold Dw.wrote
      by_cases e : j = i
      · subst e; rw [upd_same]
      · rw [upd_other _ _ e])
    lm := r2
    rm := ((h.rm.heap hr).more (Nat.le_succ _)).congr (fun j hj => by
      unfold Dw.wrote
      by_cases e : j = i
      · subst e; rw [upd_same]
      · rw [upd_other _ _ e])
    none_ := fun j hj e => by
      unfold Dw.wrote
      by_cases e' : j = i
      · subst e'; rw [upd_same] at e; cases e
      · rw [upd_other _ _ e'] at e ⊢; exact h.none_ j hj e
    some_ := fun j t hj e => by
      unfold Dw.wrote
      by_cases e' : j = i
      · subst e'
        rw [upd_same] at e ⊢
        rw [← Option.some.inj e]
        refine ⟨by simp, by rw [e1, hle]; simp, ?_, hF', ?_⟩
        · rw [e1]
          refine r1.congr (fun q hq => ?_)
          by_cases e2 : q = lenO (g j)
          · rw [e2, upd_same, hle]; simp
          · rw [upd_other _ _ e2]
            simp only [List.getD_eq_getElem?_getD]
            rw [List.getElem?_append_left (by omega)]
        · rcases hb with e2 | e2
          · exact (hrow _ e2).choose_spec.2.1
          · intro e3
            have := h.fixd.lt
            omega
      · rw [upd_other _ _ e'] at e ⊢
        obtain ⟨a1, a2, a3, a4, a5⟩ := h.some_ j t hj e
        refine ⟨a1, a2, a3.heap (hk _ a3.lt (by obtain ⟨c, hc, _⟩ := a3; exact hcells _ _ _ hc) (fun e2 => ?_)), .inl a4, a5⟩
        cases hg : g i with
        | none => rw [hg] at e2; cases e2
        | some t2 =>
          rw [hg] at e2
          injection e2 with e2
          exact h.apart i j t2 t hi hj (fun e3 => e' e3.symm) hg e e2
    apart := fun j k s t hj hk' hne ej ek => by
      have key : ∀ q u, q < n → q ≠ i → g q = some u → u.1 ≠ t'.1 := fun q u hq hqi eu e2 => by
        obtain ⟨_, _, a3, a4, _⟩ := h.some_ q u hq eu
        rcases hb with e3 | e3
        · cases hg : g i with
          | none => rw [hg] at e3; cases e3
          | some t2 =>
            rw [hg] at e3
            injection e3 with e3
            exact h.apart q i u t2 hq hi hqi eu hg (e2.trans e3.symm)
        · have := h.bound _ a4
          omega
      by_cases ea : j = i
      · subst ea
        rw [upd_same] at ej
        rw [upd_other _ _ (Ne.symm hne)] at ek
        rw [← Option.some.inj ej]
        exact (key k t hk' (Ne.symm hne) ek).symm
      · rw [upd_other _ _ ea] at ej
        by_cases eb : k = i
        · subst eb
          rw [upd_same] at ek
          rw [← Option.some.inj ek]
          exact key j s hj ea ej
        · rw [upd_other _ _ eb] at ek
          exact h.apart j k s t hj hk' hne ej ek
    mr := h.mr
    hn := h.hn
    hN := hN
    hl := fun j hj => by
      unfold Dw.wrote
      by_cases e' : j = i
      · subst e'; rw [upd_same]; have := h.hl j hj; simp; omega
      · rw [upd_other _ _ e']; have := h.hl j hj; omega
    hrd := h.hrd
    hwr := h.hwr
    inF := ⟨.inl h.inF.1, .inl h.inF.2.1, .inl h.inF.2.2.1, .inl h.inF.2.2.2⟩
    bound := fun k x => x.elim (fun y => Nat.lt_of_lt_of_le (h.bound k y) hc.size) (fun y => y.2) }
end
end Go.Proofs.YtapklelkcicjlaaGreatDoor.Dw

/-! Contracts of Write. No conditions. -/
namespace Go.Proofs.YtapklelkcicjlaaGreatDoor.Dw
set_option maxRecDepth 100000
open Go.RowKit Oc Dm Gt
set_option linter.unusedVariables false
section
variable {w w' : World} {F : Nat → Prop} {D p n N : Nat} {S : Nat → Sec} {rd wr fx m r : Nat} {g : Nat → Option Pl} {s : PS} {A : Option Addr} {l c : Nat} {xs : List UInt8}
theorem write_off (h : DvAt w F D p n N S rd wr fx m r g) (hp : Pw w p s) (ho : s.off = true) (z : Int) (u : Value) : Calls Tryz.prog 51 #[.pointer (some ⟨D, 0, none⟩), .int .i64 z, u] w fun e w' => e = .returned (.int .i64 80) ∧ w = w' := by
  have H := Lib.hid h
  have HP := Lib.hid hp
  clear h hp
  go_enter Tryz.func51, Tryz.ntmps51
  go_wp2_with fail
  refine (ready_any H.out HP.out).mono ?_; rintro e w' ⟨rfl, rfl⟩
  rw [ho]
  go_wp2
  go_ret
  exact ⟨rfl, rfl⟩
theorem write_no (h : DvAt w F D p n N S rd wr fx m r g) (hp : Pw w p s) (ho : s.off = false) (z : Int) (u : Value) (hz : z < 0 ∨ (n : Int) ≤ z) : Calls Tryz.prog 51 #[.pointer (some ⟨D, 0, none⟩), .int .i64 z, u] w fun e w' => e = .returned (.int .i64 3) ∧ w = w' := by
  have H := Lib.hid h
  have HP := Lib.hid hp
  have HZ := Lib.hid hz
  clear h hp hz
  go_enter Tryz.func51, Tryz.ntmps51
  go_wp2_with fail
  refine (ready_any H.out HP.out).mono ?_; rintro e w' ⟨rfl, rfl⟩
  rw [ho]
  go_wp2_with fail
  refine (has_no H.out z HZ.out).mono ?_; rintro e w' ⟨rfl, rfl⟩
  go_wp2
  go_ret
  exact ⟨rfl, rfl⟩
theorem write_arg (h : DvAt w F D p n N S rd wr fx m r g) (hp : Pw w p s) (ho : s.off = false) (i : Nat) (hi : i < n) (hl : l ≠ 64) : Calls Tryz.prog 51 #[.pointer (some ⟨D, 0, none⟩), .int .i64 (i : Int), .slice A l c] w fun e w' => e = .returned (.int .i64 1) ∧ w = w' := by
  have H := Lib.hid h
  have HP := Lib.hid hp
  clear h hp
  have hl2 : ¬ ((l : Int) = 64) := by omega
  go_enter Tryz.func51, Tryz.ntmps51
  go_wp2_with fail
  refine (ready_any H.out HP.out).mono ?_; rintro e w' ⟨rfl, rfl⟩
  rw [ho]
  go_wp2_with fail
  refine (has_yes H.out i hi).mono ?_; rintro e w' ⟨rfl, rfl⟩
  go_wp2
  go_ret
  exact ⟨rfl, rfl⟩
theorem write_goes (h : DvAt w F D p n N S rd wr fx m r g) (hp : Pw w p s) (hd : s.done < 1000000000000) (ho : s.off = false) (i : Nat) (hi : i < n) (hg : s.goes = true) : Calls Tryz.prog 51 #[.pointer (some ⟨D, 0, none⟩), .int .i64 (i : Int), .slice A 64 c] w (PTurned w p s.spend (.int .i64 80)) := by
  have H := Lib.hid h
  have HP := Lib.hid hp
  obtain ⟨c0, c1, c2, c3, c4, c5, fr⟩ := h.cells
  clear h hp
  go_enter Tryz.func51, Tryz.ntmps51
  go_wp2_with fail
  refine (ready_any H.out HP.out).mono ?_; rintro e w' ⟨rfl, rfl⟩
  rw [ho]
  go_wp2_with fail
  refine (has_yes H.out i hi).mono ?_; rintro e w' ⟨rfl, rfl⟩
  go_wp2_with fail
  refine (spend_any HP.out hd).mono ?_; rintro e w' ⟨rfl, p1, g1, z1⟩
  rw [hg]
  have P1 := Lib.hid p1
  have G1 := Lib.hid g1
  have Z1 := Lib.hid z1
  clear p1 g1 z1
  go_wp2
  go_ret
  exact ⟨rfl, P1.out, G1.out, Z1.out⟩
/-- what a writing call leaves: the power has turned, and the device -/
def Spent (w : World) (F : Nat → Prop) (D p n N : Nat) (S : Nat → Sec) (rd wr : Nat) (s : PS) (v : Value) (e : Ending) (w' : World) : Prop := e = .returned v ∧ Pw w' p s ∧ Dv w' (Ext F w w') D p n N S rd wr ∧ Chg (fun k => F k ∨ k = p) w w'
theorem pw_ne (h : DvAt w F D p n N S rd wr fx m r g) (hp : Pw w p s) : D ≠ p := fun e => by
  have := h.head
  rw [e, hp.head] at this
  cases this
theorem write_io (h : DvAt w F D p n N S rd wr fx m r g) (hF : ¬ F p) (hp : Pw w p s) (hd : s.done < 1000000000000) (ho : s.off = false) (i : Nat) (hi : i < n) (hg : s.goes = false) (hw : wr % 2 = 1) :
    Calls Tryz.prog 51 #[.pointer (some ⟨D, 0, none⟩), .int .i64 (i : Int), .slice A 64 c] w (Spent w F D p n N S rd (wr / 2) s.spend (.int .i64 81)) := by
  have H := Lib.hid h
  have HP := Lib.hid hp
  have hne := pw_ne h hp
  obtain ⟨c0, c1, c2, c3, c4, c5, fr⟩ := h.cells
  have hwr := h.hwr
  clear h hp
  have hb : (wr % 2 == 1) = true := by simp [hw]
  go_enter Tryz.func51, Tryz.ntmps51
  go_wp2_with fail
  refine (ready_any H.out HP.out).mono ?_; rintro e w' ⟨rfl, rfl⟩
  rw [ho]
  go_wp2_with fail
  refine (has_yes H.out i hi).mono ?_; rintro e w' ⟨rfl, rfl⟩
  go_wp2_with fail
  refine (spend_any HP.out hd).mono ?_; rintro e w1 ⟨rfl, p1, g1, z1⟩
  rw [hg]
  have H1 := Lib.hid (H.out.kept (G := fun k => k = p) (Chg.of_grown g1 (fun k e _ => by injection e with e; exact e.symm)) (fun k x e => hF (e ▸ x)))
  have P1 := Lib.hid p1
  have G1 := Lib.hid g1
  have Z1 := Lib.hid z1
  clear p1 g1 z1 c0 c1 c2 c3 c4 c5 fr
  obtain ⟨c0, c1, c2, c3, c4, c5, fr⟩ := H1.out.cells
  go_wp2_with fail
  refine (next_any w1 D 5 wr hwr c5 (fr 5)).mono ?_; rintro e w' ⟨rfl, rfl⟩
  rw [hb]
  go_wp2
  go_ret
  refine ⟨rfl, P1.out.heap (heap_setCell_other w1 _ p _ hne.symm), ⟨_, _, _, _, (H1.out.set5 (wr / 2) (Nat.lt_of_le_of_lt (Nat.div_le_self _ _) hwr)).ext (by rw [size_cell]; exact G1.out.size)⟩, ?_⟩
  exact (Chg.of_grown G1.out (fun k e _ => .inr (by injection e with e; exact e.symm))).trans (Chg.of_grown (grown_cell ..) (fun k e _ => .inl (by injection e with e; subst e; exact H.out.inF.1))) (fun _ _ x => x)
theorem run_arrayAt (A : Option Addr) (c : Nat) (w : World) : (Instr.arrayAt 128 (.slice A 64 c)).run Tryz.prog w = .ok (.pointer A) w := by
  simp [Instr.arrayAt, run_underlying Tryz.underlying128, Result.andThen]
set_option maxRecDepth 100000 in
set_option maxHeartbeats 4000000 in
theorem write_ok (h : DvAt w F D p n N S rd wr fx m r g) (hN : N + 1 ≤ 1000000000) (hF : ¬ F p) (hp : Pw w p s) (hd : s.done < 1000000000000) (ho : s.off = false) (i : Nat) (hi : i < n) (hg : s.goes = false) (hw : wr % 2 = 0) {b off : Nat} (hA : A = some ⟨b, off, none⟩) (hx : Oct w A 64 xs) (hbp : b ≠ p) (hbF : ¬ F b) :
    Calls Tryz.prog 51 #[.pointer (some ⟨D, 0, none⟩), .int .i64 (i : Int), .slice A 64 c] w (Spent w F D p n (N + 1) (Dw.wrote S i xs) rd (wr / 2) s.spend (.int .i64 0)) := by
  subst hA
  have H := Lib.hid h
  have HP := Lib.hid hp
  have hne := pw_ne h hp
  have hn := h.hn
  have HX := Lib.hid hx
  obtain ⟨c0, c1, c2, c3, c4, c5, fr⟩ := h.cells
  have hwr := h.hwr
  clear h hp hx
  have hb : (wr % 2 == 1) = false := by simp [hw]
  go_enter Tryz.func51, Tryz.ntmps51
  go_wp2_with fail
  refine (ready_any H.out HP.out).mono ?_; rintro e w' ⟨rfl, rfl⟩
  rw [ho]
  go_wp2_with fail
  refine (has_yes H.out i hi).mono ?_; rintro e w' ⟨rfl, rfl⟩
  go_wp2_with fail
  refine (spend_any HP.out hd).mono ?_; rintro e w1 ⟨rfl, p1, g1, z1⟩
  rw [hg]
  have H1 := Lib.hid (H.out.kept (G := fun k => k = p) (Chg.of_grown g1 (fun k e _ => by injection e with e; exact e.symm)) (fun k x e => hF (e ▸ x)))
  have P1 := Lib.hid p1
  have G1 := Lib.hid g1
  have Z1 := Lib.hid z1
  have X1 := Lib.hid (HX.out.grown g1 (fun o _ e => by injection e with e; injection e with e; exact hbp e))
  clear p1 g1 z1 c0 c1 c2 c3 c4 c5 fr
  obtain ⟨c0, c1, c2, c3, c4, c5, fr⟩ := H1.out.cells
  go_wp2_with fail
  refine (next_any w1 D 5 wr hwr c5 (fr 5)).mono ?_; rintro e w' ⟨rfl, rfl⟩
  rw [hb]
  have H2 := Lib.hid (H1.out.set5 (wr / 2) (Nat.lt_of_le_of_lt (Nat.div_le_self _ _) hwr))
  have P2 := Lib.hid (P1.out.heap (heap_setCell_other w1 ⟨D, 5, none⟩ p (.int .u64 ((wr / 2 : Nat) : Int)) hne.symm))
  have X2 := Lib.hid (X1.out.grown (grown_cell w1 D 5 (.int .u64 ((wr / 2 : Nat) : Int))) (fun o _ e => by injection e with e; injection e with e; exact hbF (e ▸ H.out.inF.1)))
  have C2 := Lib.hid (show Chg (fun k => F k ∨ k = p) w (w1.setCell ⟨D, 5, none⟩ (.int .u64 ((wr / 2 : Nat) : Int))) from (Chg.of_grown G1.out (fun k e _ => .inr (by injection e with e; exact e.symm))).trans (Chg.of_grown (grown_cell ..) (fun k e _ => .inl (by injection e with e; subst e; exact H.out.inF.1))) (fun _ _ x => x))
  have Z2 := Lib.hid ((size_cell w1 ⟨D, 5, none⟩ (.int .u64 ((wr / 2 : Nat) : Int))).trans Z1.out)
  generalize w1.setCell ⟨D, 5, none⟩ (.int .u64 ((wr / 2 : Nat) : Int)) = w2 at H2 P2 X2 C2 Z2 ⊢
  clear c0 c1 c2 c3 c4 c5 fr X1 H1 G1 P1 Z1
  obtain ⟨c0, c1, c2, c3, c4, c5, fr⟩ := H2.out.cells
  obtain ⟨v, hv⟩ : ∃ v, slv (g i) = v := ⟨_, rfl⟩
  have HV := Lib.hid hv
  clear hv
  go_wp2_with fail
  refine gate (fun w' => w'.cell? ⟨D, 2, none⟩ = some (.map (some m)) ∧ LM w' m N n g ∧ Oct w' (some ⟨b, off, none⟩) 64 xs) 16 [0, 1, 2, 3, 4, 5, 6, 7, 8, 9, 10, 11, 12, 13] 3 (by kernel_rfl) (by kernel_rfl) (by kernel_rfl) rfl ?_ ⟨c2, H2.out.lm, X2.out⟩ ?_
  · intro d v c a w h
    cases d <;> exact h
  iterate 10
    refine yields_step ?_ rfl rfl ?_ ?_
    rotate_left
    · intro w' hS; obtain ⟨hS1, hS2⟩ := hS; go_simp; rfl
  refine yields_step v rfl rfl (fun w' hS => by refine ex_look (m := m) (i := i) rfl ?_ ?_ hS.2.1 hi hn HV.out <;> go_simp) ?_
  refine yields_step ?_ rfl rfl ?_ ?_
  rotate_left
  · intro w' hS; obtain ⟨hS1, hS2⟩ := hS; go_simp; rfl
  have harr := run_arrayAt (some ⟨b, off, none⟩) c
  refine yields_step ?_ rfl rfl ?_ ?_
  rotate_left
  · intro w' hS; obtain ⟨hS1, hS2⟩ := hS; go_simp; rfl
  refine yields_step (sv xs) rfl rfl (fun w' hS => by refine ex_load (b := b) (off := off) rfl ?_ hS.2.2; go_simp) ?_
  have hxl := HX.out.len
  refine Gate.next (i := 14) (by kernel_rfl) rfl rfl (fun K hK => ?_)
  refine W_build (xs := xs) rfl (by go_simp) hxl ?_
  intro w3 r3 g3' z3
  have g3 : w2.grownBy w3 none := ⟨g3'.os, g3'.tape, g3'.output, g3'.size, g3'.block⟩
  have H3 := H2.out.grown0 g3
  have X3 := X2.out.grown_own g3 (fun g e => by cases e)
  refine hK _ _ (fun _ => ⟨H3.cells.2.2.1, H3.lm, X3⟩) ?_
  clear hK K g3' c0 c1 c2 c3 c4 c5 fr
  refine Gate.next (i := 15) (by kernel_rfl) rfl rfl (fun K hK => ?_)
  refine W_append (t := g i) (xs := xs) (b := w2.heap.size) (f := fun j => (S i).loose.getD j []) rfl HV.out (by go_simp) (by go_simp) (fun t et => (H3.some_ i t hi et).2.2.1) r3 (by rw [H3.len_eq hi]; exact Nat.le_trans (H3.hl i hi) H3.hN) ?_
  intro t' w4 e4 r4 g4 b4
  have hm4 : w4.heap[m]? = w3.heap[m]? := g4.block m H3.lm.lt (fun e => by
    cases hgi : g i with
    | none => rw [hgi] at e; cases e
    | some t =>
      rw [hgi] at e
      obtain ⟨_, _, ⟨cur, hc, _⟩, _⟩ := H3.some_ i t hi hgi
      obtain ⟨_, ⟨es, cl, hb2, _⟩, _⟩ := H3.lm
      injection e with e
      rw [e, hc] at hb2
      cases hb2)
  have hD4 : w4.heap[D]? = w3.heap[D]? := g4.block D (lt_of_heap H3.head) (fun e => by
    cases hgi : g i with
    | none => rw [hgi] at e; cases e
    | some t =>
      rw [hgi] at e
      obtain ⟨_, _, ⟨cur, hc, _⟩, _⟩ := H3.some_ i t hi hgi
      have hb2 := H3.head
      injection e with e
      rw [e, hc] at hb2
      cases hb2)
  have X4 : Oct w4 (some ⟨b, off, none⟩) 64 xs := X3.heap (fun b' off' _ e => by
    injection e with e
    injection e with e1 e2
    subst e1
    exact g4.block b (X3.lt (by decide) rfl) (fun e3 => by
      cases hgi : g i with
      | none => rw [hgi] at e3; cases e3
      | some t =>
        rw [hgi] at e3
        injection e3 with e3
        exact hbF (e3 ▸ (H3.some_ i t hi hgi).2.2.2.1)))
  refine hK _ _ (fun _ => ⟨(World.cell?_of_block (a := ⟨D, 2, none⟩) hD4).trans H3.cells.2.2.1, H3.lm.heap hm4, X4⟩) ?_
  clear hK K
  refine gate_put (j := 16) (m := m) (i := i) (b := t'.1) (l := t'.2.1) (c := t'.2.2) (by kernel_rfl) (by kernel_rfl) rfl rfl (by go_simp) (by go_simp) (by go_simp) (H3.lm.heap hm4) hi hn (by unfold maxLen; omega) ?_
  intro w5 r5 g5 z5
  have hrow5 : w5.heap[t'.1]? = w4.heap[t'.1]? := g5.block _ r4.lt (fun e => by
    obtain ⟨cur, hc, _⟩ := r4
    obtain ⟨_, ⟨es, cl, hb2, _⟩, _⟩ := H3.lm.heap hm4
    injection e with e
    rw [e, hb2] at hc
    cases hc)
  have C35 : Chg (fun k => k = m ∨ (g i).map (·.1) = some k) w3 w5 := (Chg.of_grown g4 (fun k e _ => .inr e)).trans (Chg.of_grown g5 (fun k e _ => .inl (by injection e with e; exact e.symm))) (fun _ _ x => x)
  have H5 := Lib.hid (H3.wrote (x := xs) hi hN e4 (r4.heap hrow5) r5 C35 (b4.imp id (fun e => Nat.le_of_eq e.symm)))
  have Z23 : w2.heap.size ≤ w3.heap.size := g3.size
  have hsz := Z2.out
  have C5 := Lib.hid (show Chg (fun k => F k ∨ k = p) w w5 from C2.out.trans ((Chg.of_grown (F := fun k => F k ∨ k = p) g3 (fun k e => by cases e)).trans C35 (fun k hk e => by
    rcases e with e | e
    · exact .inl (e ▸ H2.out.inF.2.2.1)
    · cases hgi : g i with
      | none => rw [hgi] at e; cases e
      | some t =>
        rw [hgi] at e
        injection e with e
        exact .inl (e ▸ (H2.out.some_ i t hi hgi).2.2.2.1))) (fun _ _ x => x))
  have P5 := Lib.hid (P2.out.heap (w' := w5) (by
    have e3 : w3.heap[p]? = w2.heap[p]? := g3.block p P2.out.lt (by simp)
    refine (C35.block p (by have := P2.out.lt; omega) (fun e => ?_)).trans e3
    rcases e with e | e
    · exact hF (e ▸ H2.out.inF.2.2.1)
    · cases hgi : g i with
      | none => rw [hgi] at e; cases e
      | some t =>
        rw [hgi] at e
        injection e with e
        exact hF (e ▸ (H2.out.some_ i t hi hgi).2.2.2.1)))
  have Z5 := Lib.hid (Nat.le_trans Z23 C35.size)
  clear g3 g4 g5 r3 r4 r5 H3 C35 hm4 hD4 X3 X4 hrow5 z3 z5 e4 b4
  go_wp2
  go_ret
  refine ⟨rfl, P5.out, ⟨fx, m, r, _, H5.out.frame (fun k x => ?_) (fun k x => ?_) (fun _ _ => rfl)⟩, C5.out⟩
  · rcases x with x | x
    · exact .inl x
    · exact .inr ⟨by omega, x.2⟩
  · rcases x with x | x
    · exact H5.out.bound k (.inl x)
    · exact x.2
end
end Go.Proofs.YtapklelkcicjlaaGreatDoor.Dw

/-! Contracts of Flush. No conditions. -/
namespace Go.Proofs.YtapklelkcicjlaaGreatDoor.Dw
set_option maxRecDepth 100000
open Go.RowKit Oc Dm
set_option linter.unusedVariables false
section
variable {w w' : World} {F : Nat → Prop} {D p n N : Nat} {S S' : Nat → Sec} {rd wr fx m r : Nat} {g : Nat → Option Pl} {s : PS}
theorem DvAt.congr (h : DvAt w F D p n N S rd wr fx m r g) (e : ∀ i, i < n → S' i = S i) : DvAt w F D p n N S' rd wr fx m r g :=
  { h with
    fixd := h.fixd.congr (fun i hi => by rw [e i hi])
    rm := h.rm.congr (fun i hi => by rw [e i hi])
    none_ := fun i hi x => by rw [e i hi]; exact h.none_ i hi x
    some_ := fun i t hi x => by rw [e i hi]; exact h.some_ i t hi x
    hl := fun i hi => by rw [e i hi]; exact h.hl i hi }
theorem Dv.congr (h : Dv w F D p n N S rd wr) (e : ∀ i, i < n → S' i = S i) : Dv w F D p n N S' rd wr := by
  obtain ⟨fx, m, r, g, h⟩ := h
  exact ⟨fx, m, r, g, h.congr e⟩
theorem DvAt.ne_m (h : DvAt w F D p n N S rd wr fx m r g) : D ≠ m ∧ fx ≠ m ∧ r ≠ m := by
  obtain ⟨_, ⟨es, c, hb, _⟩, _⟩ := h.lm
  refine ⟨fun e => ?_, fun e => ?_, fun e => h.mr e.symm⟩
  · have := h.head; rw [e, hb] at this; cases this
  · obtain ⟨cur, hg, _⟩ := h.fixd; rw [e, hb] at hg; cases hg
/-- all loose writes are dropped -/
theorem DvAt.cleared (h : DvAt w F D p n N S rd wr fx m r g) (r1 : LM w' m N n (fun _ => none)) (hg : w.grownBy w' (some m)) : DvAt w' F D p n N (fun i => ⟨(S i).fixed, [], (S i).rotten⟩) rd wr fx m r (fun _ => none) := by
  obtain ⟨n1, n2, n3⟩ := h.ne_m
  have hk : ∀ k, k < w.heap.size → k ≠ m → w'.heap[k]? = w.heap[k]? := fun k h1 h2 => hg.block k h1 (fun e => h2 (by injection e))
  exact {
    head := (hk _ (lt_of_heap h.head) n1).trans h.head
    fixd := h.fixd.heap (hk _ h.fixd.lt n2)
    lm := r1
    rm := h.rm.heap (hk _ h.rm.lt n3)
    none_ := fun i hi e => rfl
    some_ := fun i t hi e => by cases e
    apart := fun i j s t hi hj hne e => by cases e
    mr := h.mr
    hn := h.hn
    hN := h.hN
    hl := fun i hi => Nat.zero_le _
    hrd := h.hrd
    hwr := h.hwr
    inF := h.inF
    bound := fun k x => Nat.lt_of_lt_of_le (h.bound k x) hg.size }
/-- what a flush makes of sectors -/
def flushS (S : Nat → Sec) (i : Nat) : Sec := if (S i).loose = [] then S i else ⟨(S i).stands, [], false⟩
/-- on the way: those that have come are fixed -/
def midS (S : Nat → Sec) (g : Nat → Option Pl) (left : Nat → Bool) (i : Nat) : Sec := if (g i).isSome && !left i then ⟨(S i).stands, (S i).loose, false⟩ else S i
theorem midS_loose (left : Nat → Bool) (i : Nat) : (midS S g left i).loose = (S i).loose := by unfold midS; split <;> rfl
theorem midS_stands (left : Nat → Bool) (i : Nat) (h : (S i).loose ≠ []) : (midS S g left i).stands = (S i).stands := by
  rw [Sec.stands_loose (by rw [midS_loose]; exact h), Sec.stands_loose h, midS_loose]
theorem midS_step (left : Nat → Bool) (i : Nat) (h : (S i).loose ≠ []) (hg : (g i).isSome = true) (hl : left i = true) : upd (midS S g left) i ⟨(midS S g left i).stands, (midS S g left i).loose, false⟩ = midS S g (upd left i false) := by
  funext j
  by_cases e : j = i
  · subst e
    rw [upd_same, midS_stands left j h, midS_loose]
    unfold midS
    rw [upd_same, hg]
    rfl
  · rw [upd_other _ _ e]
    unfold midS
    rw [upd_other _ _ e]
theorem midS_end (left : Nat → Bool) (h : DvAt w F D p n N S rd wr fx m r g) (hl : ∀ i, i < n → left i = false) (i : Nat) (hi : i < n) : flushS S i = ⟨(midS S g left i).fixed, [], (midS S g left i).rotten⟩ := by
  unfold flushS midS
  rw [hl i hi]
  cases hg : g i with
  | none =>
    have := h.none_ i hi hg
    rw [if_pos this]
    simp only [Option.isSome_none, Bool.false_and, Bool.false_eq_true, if_false]
    rw [← this]
  | some t =>
    rw [if_neg (h.some_ i t hi hg).1]
    rfl
theorem flush_off (h : DvAt w F D p n N S rd wr fx m r g) (hp : Pw w p s) (ho : s.off = true) : Calls Tryz.prog 16 #[.pointer (some ⟨D, 0, none⟩)] w fun e w' => e = .returned (.int .i64 80) ∧ w = w' := by
  have H := Lib.hid h
  have HP := Lib.hid hp
  clear h hp
  go_enter Tryz.func16, Tryz.ntmps16
  go_wp2_with fail
  refine (ready_any H.out HP.out).mono ?_; rintro e w' ⟨rfl, rfl⟩
  rw [ho]
  go_wp2
  go_ret
  exact ⟨rfl, rfl⟩
theorem flush_goes (h : DvAt w F D p n N S rd wr fx m r g) (hp : Pw w p s) (hd : s.done < 1000000000000) (ho : s.off = false) (hg : s.goes = true) : Calls Tryz.prog 16 #[.pointer (some ⟨D, 0, none⟩)] w (PTurned w p s.spend (.int .i64 80)) := by
  have H := Lib.hid h
  have HP := Lib.hid hp
  obtain ⟨c0, c1, c2, c3, c4, c5, fr⟩ := h.cells
  clear h hp
  go_enter Tryz.func16, Tryz.ntmps16
  go_wp2_with fail
  refine (ready_any H.out HP.out).mono ?_; rintro e w' ⟨rfl, rfl⟩
  rw [ho]
  go_wp2_with fail
  refine (spend_any HP.out hd).mono ?_; rintro e w' ⟨rfl, p1, g1, z1⟩
  rw [hg]
  have P1 := Lib.hid p1
  have G1 := Lib.hid g1
  have Z1 := Lib.hid z1
  clear p1 g1 z1
  go_wp2
  go_ret
  exact ⟨rfl, P1.out, G1.out, Z1.out⟩
set_option maxRecDepth 100000 in
set_option maxHeartbeats 4000000 in
theorem flush_ok (h : DvAt w F D p n N S rd wr fx m r g) (hF : ¬ F p) (hp : Pw w p s) (hd : s.done < 1000000000000) (ho : s.off = false) (hg : s.goes = false) :
    Calls Tryz.prog 16 #[.pointer (some ⟨D, 0, none⟩)] w (Spent w F D p n N (flushS S) rd wr s.spend (.int .i64 0)) := by
  have H := Lib.hid h
  have HP := Lib.hid hp
  obtain ⟨c0, c1, c2, c3, c4, c5, fr⟩ := h.cells
  clear h hp
  go_enter Tryz.func16, Tryz.ntmps16
  go_wp2_with fail
  refine (ready_any H.out HP.out).mono ?_; rintro e w' ⟨rfl, rfl⟩
  rw [ho]
  go_wp2_with fail
  refine (spend_any HP.out hd).mono ?_; rintro e w1 ⟨rfl, p1, g1, z1⟩
  rw [hg]
  have H1 := Lib.hid (H.out.kept (G := fun k => k = p) (Chg.of_grown g1 (fun k e _ => by injection e with e; exact e.symm)) (fun k x e => hF (e ▸ x)))
  have P1 := Lib.hid p1
  have G1 := Lib.hid g1
  have Z1 := Lib.hid z1
  clear p1 g1 z1 c0 c1 c2 c3 c4 c5 fr
  obtain ⟨c0, c1, c2, c3, c4, c5, fr⟩ := H1.out.cells
  go_wp2_with ((with_reducible refine L_range ?_ H1.out.lm ?_); exact rfl; intro w2 cnt0 lr0 _ g2 z2; have L0 := Lib.hid lr0; have G2 := Lib.hid g2; have Z2 := Lib.hid z2; clear lr0 g2 z2)
  go_frame
  go_loopw [4] (fun _ wr' => ∃ left cnt, Hid (LR wr' m w1.heap.size N n g left cnt) ∧ Hid (DvAt wr' F D p n N (midS S g left) rd wr fx m r g) ∧ Hid (Chg (fun k => k = fx ∨ k = r ∨ k = w1.heap.size) w2 wr')) (fun _ wr' => wr'.rangeLeft m w1.heap.size)
  case atStart =>
    refine ⟨_, _, L0, ?_, Chg.refl _ _⟩
    refine (H1.out.grown0 G2.out).congr (fun i hi => ?_)
    unfold midS
    exact if_neg (show ¬ ((g i).isSome && !(g i).isSome) = true by cases (g i).isSome <;> decide)
  case round =>
    obtain ⟨left, cnt, LRJ, HJ, CJ⟩ := hrel
    clear c0 c1 c2 c3 c4 c5 fr
    obtain ⟨c0, c1, c2, c3, c4, c5, fr⟩ := HJ.out.cells
    go_wp2_with ((with_reducible refine L_next ?_ LRJ.out ?_ ?_); exact rfl)
    · intro hl0
      have HL := Lib.hid hl0
      clear hl0
      go_wp2_with ((with_reducible refine L_clear ?_ HJ.out.lm ?_); exact rfl; intro w5 r5 g5 z5; have R5 := Lib.hid r5; have G5 := Lib.hid g5; clear r5 g5 z5)
      go_ret
      have hc : Chg (fun k => k = fx ∨ k = r ∨ k = m ∨ w1.heap.size ≤ k) w1 _ := ((Chg.of_grown G2.out (fun k e => by cases e)).trans CJ.out (fun k hk e => by rcases e with e | e | e; exact .inl e; exact .inr (.inl e); exact .inr (.inr (.inr (Nat.le_of_eq e.symm))))).trans (Chg.of_grown G5.out (fun k e _ => .inr (.inr (.inl (by injection e with e; exact e.symm))))) (fun _ _ x => x)
      have hF2 : ∀ k, k < w1.heap.size → (k = fx ∨ k = r ∨ k = m ∨ w1.heap.size ≤ k) → F k := fun k hk e => by
        rcases e with e | e | e | e
        · exact e ▸ H1.out.inF.2.1
        · exact e ▸ H1.out.inF.2.2.2
        · exact e ▸ H1.out.inF.2.2.1
        · omega
      have hz := Z1.out
      have hsz := hc.size
      refine ⟨rfl, P1.out.heap (hc.block _ P1.out.lt (fun e => hF (hF2 _ P1.out.lt e))), ⟨fx, m, r, _, ((HJ.out.cleared R5.out G5.out).congr (fun i hi => midS_end left H1.out HL.out i hi)).ext (by omega)⟩, ?_⟩
      exact (Chg.of_grown G1.out (fun k e _ => .inr (by injection e with e; exact e.symm))).trans hc (fun k hk e => .inl (hF2 k (by omega) e))
    · intro i t w3 cnt3 hi hli hgi lr3 hlt g3 z3 hen
      have hnl := (H1.out.some_ i t hi hgi).1
      have NL := Lib.hid hnl
      have HG := Lib.hid hgi
      have HLI := Lib.hid hli
      have LT := Lib.hid hlt
      have L3 := Lib.hid lr3
      have G3 := Lib.hid g3
      have hrr : w1.heap.size ≤ w1.heap.size := Nat.le_refl _
      have H3 := Lib.hid (HJ.out.kept (G := fun k => k = w1.heap.size) (Chg.of_grown g3 (fun k e _ => by injection e with e; exact e.symm)) (fun k x e => by
        have : k < w1.heap.size := H1.out.bound k x
        omega))
      clear hnl hgi hli hlt lr3 g3 z3 c0 c1 c2 c3 c4 c5 fr
      obtain ⟨c0, c1, c2, c3, c4, c5, fr⟩ := H3.out.cells
      go_wp2_with fail
      refine (stands_any H3.out i hi).mono ?_; rintro e w4 ⟨rfl, b4⟩
      have H4 := Lib.hid (H3.out.below b4)
      have B4 := Lib.hid b4
      have L4 := Lib.hid (L3.out.heap (b4.block _ L3.out.lm.lt) (b4.block _ L3.out.lt))
      clear b4 c0 c1 c2 c3 c4 c5 fr
      go_wp2_with fail
      refine (fix_any H4.out i hi _ (H4.out.sec hi).2.2).mono ?_; rintro e w5 ⟨rfl, h5, c5⟩
      rw [midS_step left i NL.out (by rw [HG.out]; rfl) HLI.out] at h5
      have H5 := Lib.hid h5
      have C5 := Lib.hid c5
      have hb1 := H1.out.bound
      have L5 := Lib.hid (L4.out.heap (c5.block _ L4.out.lm.lt (fun e => by
        obtain ⟨n1, n2, n3⟩ := H4.out.ne_m
        rcases e with e | e
        · exact n2 e.symm
        · exact n3 e.symm)) (c5.block _ L4.out.lt (fun e => by
        have h1 := hb1 _ H1.out.inF.2.1
        have h2 := hb1 _ H1.out.inF.2.2.2
        rcases e with e | e <;> omega)))
      clear h5 c5 hb1
      go_wp2
      go_roundw
      case rel =>
        refine ⟨_, _, L5, H5, ?_⟩
        refine ((CJ.out.trans (Chg.of_grown (F := fun k => k = fx ∨ k = r ∨ k = w1.heap.size) G3.out (fun k e _ => .inr (.inr (by injection e with e; exact e.symm)))) (fun _ _ x => x)).trans (Chg.of_below (F := fun _ => False) B4.out) (fun _ _ x => x.elim)).trans C5.out (fun k _ e => by
          rcases e with e | e
          · exact .inl e
          · exact .inr (.inl e))
      case measure =>
        rw [L5.out.left_eq, LRJ.out.left_eq]
        exact LT.out
end
end Go.Proofs.YtapklelkcicjlaaGreatDoor.Dw
