/-
  Contracts of Write. No conditions.
-/
import Derived.Test.YtdkniholeaiemaaDvWrite
namespace Go.Proofs.Ytdkniholeaiemaa.W
open Go.RowKit Oc Dm
set_option linter.unusedVariables false
section
variable {ops : Array Oper} {rest : List Oper} {a : Act} {w : World} {Q : Exit → Act → World → Prop} {dst : Option Tmp} {ty : TypeId} {pos : String} {af : Array Edge} {x y k : Operand} {b i n m N : Nat} {xs : List UInt8} {f : Nat → List UInt8} {g : Nat → Option Pl}
theorem wpList_build_sec {o : Oper} (hgd : o.guard = none) (ho : o.op = .buildSlice 68 1 #[(0, y)]) (hy : a.eval y = sv xs) (hx : xs.length = 64)
    (hK : ∀ w', SRow w' w.heap.size 1 1 (fun _ => xs) → w.grownBy w' none → w'.heap.size = w.heap.size + 1 → wpList Try.prog ops Q rest (a.put o.dst (.slice (some ⟨w.heap.size, 0, none⟩) 1 1)) w') : wpList Try.prog ops Q (o :: rest) a w := by
  refine wpList_plain hgd fun K hK' => ?_
  have hrun := run_build_sec w xs hx
  have e : (execOp a.eval o).run Try.prog w = .ok (.value (.slice (some ⟨w.heap.size, 0, none⟩) 1 1)) (w.alloc (.cells (xs.map ov).toArray 95)) := by
    simp only [execOp, ho, List.map_toArray, List.map_cons, List.map_nil, hy, Sem.run_bind, hrun, Result.andThen_ok, Sem.run_pure]
  unfold Oper.wp
  rw [e]
  exact hK' _ _ (hK _ (srow_box w xs hx) (World.grownBy_alloc w _ none) (by simp))
theorem L_build (hy : a.eval y = sv xs) (hx : xs.length = 64)
    (hK : ∀ w', SRow w' w.heap.size 1 1 (fun _ => xs) → w.grownBy w' none → w'.heap.size = w.heap.size + 1 → wpList Try.prog ops Q rest (a.put dst (.slice (some ⟨w.heap.size, 0, none⟩) 1 1)) w') : wpList Try.prog ops Q (⟨dst, .buildSlice 68 1 #[(0, y)], ty, pos, af, none⟩ :: rest) a w := wpList_build_sec rfl rfl hy hx hK
theorem wpList_append_sec {o : Oper} {v : Value} {t : Option Pl} (hgd : o.guard = none) (ho : o.op = Op.call { callee := Callee.builtin Builtin.append, args := #[x, y], argTypes := #[68, 68] }) (hv : slv t = v) (hx : a.eval x = v) (hy : a.eval y = .slice (some ⟨b, 0, none⟩) 1 1) (h : ∀ s, t = some s → SRow w s.1 s.2.1 s.2.2 f) (hnew : SRow w b 1 1 (fun _ => xs)) (hlen : lenO t ≤ 1000000000)
    (hK : ∀ (t' : Pl) w', t'.2.1 = lenO t + 1 → SRow w' t'.1 (lenO t + 1) t'.2.2 (upd f (lenO t) xs) → w.grownBy w' (t.map (·.1)) → (t.map (·.1) = some t'.1 ∨ t'.1 = w.heap.size) → wpList Try.prog ops Q rest (a.put o.dst (.slice (some ⟨t'.1, 0, none⟩) t'.2.1 t'.2.2)) w') : wpList Try.prog ops Q (o :: rest) a w := by
  subst hv
  refine wpList_plain hgd fun K hK' => ?_
  obtain ⟨t', w', hrun, r1, r2, r3, r4⟩ := run_append_sec t o.type h hnew hlen
  rw [show slv (some t') = .slice (some ⟨t'.1, 0, none⟩) t'.2.1 t'.2.2 from rfl] at hrun
  unfold Oper.wp
  simp [execOp, ho, resolve, invoke, builtin, hx, hy, hrun, Result.andThen]
  exact hK' _ _ (hK t' w' r1 r2 r3 r4)
theorem L_append {v : Value} {t : Option Pl} (hv : slv t = v) (hx : a.eval x = v) (hy : a.eval y = .slice (some ⟨b, 0, none⟩) 1 1) (h : ∀ s, t = some s → SRow w s.1 s.2.1 s.2.2 f) (hnew : SRow w b 1 1 (fun _ => xs)) (hlen : lenO t ≤ 1000000000)
    (hK : ∀ (t' : Pl) w', t'.2.1 = lenO t + 1 → SRow w' t'.1 (lenO t + 1) t'.2.2 (upd f (lenO t) xs) → w.grownBy w' (t.map (·.1)) → (t.map (·.1) = some t'.1 ∨ t'.1 = w.heap.size) → wpList Try.prog ops Q rest (a.put dst (.slice (some ⟨t'.1, 0, none⟩) t'.2.1 t'.2.2)) w') :
    wpList Try.prog ops Q (⟨dst, Op.call { callee := Callee.builtin Builtin.append, args := #[x, y], argTypes := #[68, 68] }, ty, pos, af, none⟩ :: rest) a w := wpList_append_sec rfl rfl hv hx hy h hnew hlen hK
theorem W_build {o : Oper} {K : Act → World → Prop} (ho : o.op = .buildSlice 68 1 #[(0, y)]) (hy : a.eval y = sv xs) (hx : xs.length = 64)
    (hK : ∀ w', SRow w' w.heap.size 1 1 (fun _ => xs) → w.grownBy w' none → w'.heap.size = w.heap.size + 1 → K (a.put o.dst (.slice (some ⟨w.heap.size, 0, none⟩) 1 1)) w') : o.wp Try.prog a w K Q := by
  have hrun := run_build_sec w xs hx
  have e : (execOp a.eval o).run Try.prog w = .ok (.value (.slice (some ⟨w.heap.size, 0, none⟩) 1 1)) (w.alloc (.cells (xs.map ov).toArray 95)) := by
    simp only [execOp, ho, List.map_toArray, List.map_cons, List.map_nil, hy, Sem.run_bind, hrun, Result.andThen_ok, Sem.run_pure]
  unfold Oper.wp
  rw [e]
  exact hK _ (srow_box w xs hx) (World.grownBy_alloc w _ none) (by simp)
theorem W_append {o : Oper} {K : Act → World → Prop} {v : Value} {t : Option Pl} (ho : o.op = Op.call { callee := Callee.builtin Builtin.append, args := #[x, y], argTypes := #[68, 68] }) (hv : slv t = v) (hx : a.eval x = v) (hy : a.eval y = .slice (some ⟨b, 0, none⟩) 1 1) (h : ∀ s, t = some s → SRow w s.1 s.2.1 s.2.2 f) (hnew : SRow w b 1 1 (fun _ => xs)) (hlen : lenO t ≤ 1000000000)
    (hK : ∀ (t' : Pl) w', t'.2.1 = lenO t + 1 → SRow w' t'.1 (lenO t + 1) t'.2.2 (upd f (lenO t) xs) → w.grownBy w' (t.map (·.1)) → (t.map (·.1) = some t'.1 ∨ t'.1 = w.heap.size) → K (a.put o.dst (.slice (some ⟨t'.1, 0, none⟩) t'.2.1 t'.2.2)) w') : o.wp Try.prog a w K Q := by
  subst hv
  obtain ⟨t', w', hrun, r1, r2, r3, r4⟩ := run_append_sec t o.type h hnew hlen
  rw [show slv (some t') = .slice (some ⟨t'.1, 0, none⟩) t'.2.1 t'.2.2 from rfl] at hrun
  unfold Oper.wp execOp
  simp only [ho, resolve, invoke, builtin, Sem.run_bind, Sem.run_pure, Result.andThen_ok, List.map_toArray, List.map_cons, List.map_nil, hx, hy, hrun]
  exact hK t' w' r1 r2 r3 r4
theorem W_put {o : Oper} {K : Act → World → Prop} {l c : Nat} (ho : o.op = .mapUpdate 69 x k y) (hx : a.eval x = .map (some m)) (hk : a.eval k = .int .i64 (i : Int)) (hy : a.eval y = .slice (some ⟨b, 0, none⟩) l c) (h : LM w m N n g) (hi : i < n) (hn : n ≤ 4096) (hN : N < maxLen)
    (hK : ∀ w', LM w' m (N + 1) n (upd g i (some (b, l, c))) → w.grownBy w' (some m) → w'.heap.size = w.heap.size → K (a.put o.dst undef) w') : o.wp Try.prog a w K Q := by
  obtain ⟨w', hrun, r1, r2, r3⟩ := h.put hi hn hN (b, l, c)
  rw [show slv (some (b, l, c)) = .slice (some ⟨b, 0, none⟩) l c from rfl] at hrun
  unfold Oper.wp
  simp [execOp, ho, hx, hk, hy, hrun, Result.andThen]
  exact hK w' r1 r2 r3
open Gt in
set_option maxRecDepth 100000 in
theorem gate_put {md : Region.Mode} {S : World → Prop} {t j fuel l c : Nat} {listed : Array Bool} (hr : Region.ready md ops listed = [j]) (hr2 : Region.ready md ops (listed.setIfInBounds j true) = []) (hit : j = t) (ho : ops[j]? = some ⟨dst, .mapUpdate 69 x k y, ty, pos, af, none⟩) (hx : a.eval x = .map (some m)) (hk : a.eval k = .int .i64 (i : Int)) (hy : a.eval y = .slice (some ⟨b, 0, none⟩) l c) (h : LM w m N n g) (hi : i < n) (hn : n ≤ 4096) (hN : N < maxLen)
    (hK : ∀ w', LM w' m (N + 1) n (upd g i (some (b, l, c))) → w.grownBy w' (some m) → w'.heap.size = w.heap.size → Q .normal (a.put dst undef) w') : Gate Try.prog md ops Q S t (fuel + 1) listed a w :=
  gate_last hr hr2 hit ho rfl (fun K hK' => W_put rfl hx hk hy h hi hn hN (fun w' r1 r2 r3 => hK' _ _ (hK w' r1 r2 r3)))
theorem ex_look {o : Oper} {v : Value} (ho : o.op = .lookup 69 x k false) (hx : a.eval x = .map (some m)) (hk : a.eval k = .int .i64 (i : Int)) (h : LM w m N n g) (hi : i < n) (hn : n ≤ 4096) (hv : slv (g i) = v) : (execOp a.eval o).run Try.prog w = .ok (.value v) w := by
  subst hv
  simp [execOp, ho, hx, hk, h.look hi hn, Result.andThen]
set_option maxRecDepth 100000 in
theorem still_look {Q : Act → Prop} {v : Value} (hx : a.eval x = .map (some m)) (hk : a.eval k = .int .i64 (i : Int)) (h : LM w m N n g) (hi : i < n) (hn : n ≤ 4096) (hv : slv (g i) = v)
    (hK : wpStill Try.prog ops w Q rest (a.put dst v)) : wpStill Try.prog ops w Q (⟨dst, .lookup 69 x k false, ty, pos, af, none⟩ :: rest) a := by
  refine wpStill_step (fun K hK' => ?_)
  rw [if_pos (by simp [Region.wanted])]
  have e := ex_look (o := ⟨dst, .lookup 69 x k false, ty, pos, af, none⟩) rfl hx hk h hi hn hv
  unfold Oper.still
  rw [e, Oper.stillUpon_value]
  exact hK' _ hK
end
section
variable {w w' : World} {F : Nat → Prop} {D p n N : Nat} {S : Nat → Sec} {rd wr fx m r : Nat} {g : Nat → Option Pl} {s : PS}
/-- a loose write is made -/
def wrote (S : Nat → Sec) (i : Nat) (x : List UInt8) : Nat → Sec := upd S i ⟨(S i).fixed, (S i).loose ++ [x], (S i).rotten⟩
theorem DvAt.len_eq (h : DvAt w F D p n N S rd wr fx m r g) {i : Nat} (hi : i < n) : lenO (g i) = (S i).loose.length := by
  cases hg : g i with
  | none => rw [h.none_ i hi hg]; rfl
  | some t => exact (h.some_ i t hi hg).2.1
theorem DvAt.wrote (h : DvAt w F D p n N S rd wr fx m r g) {i : Nat} {x : List UInt8} (hi : i < n) (hN : N + 1 ≤ 1000000000) {t' : Pl} (e1 : t'.2.1 = lenO (g i) + 1) (r1 : SRow w' t'.1 (lenO (g i) + 1) t'.2.2 (upd (fun j => (S i).loose.getD j []) (lenO (g i)) x)) (r2 : LM w' m (N + 1) n (upd g i (some t')))
    (hc : Chg (fun k => k = m ∨ (g i).map (·.1) = some k) w w') (hb : (g i).map (·.1) = some t'.1 ∨ w.heap.size ≤ t'.1) : DvAt w' (Ext F w w') D p n (N + 1) (W.wrote S i x) rd wr fx m r (upd g i (some t')) := by
  have hcells : ∀ k c T, w.heap[k]? = some (.cells c T (0, 0)) → k ≠ m := fun k c T hb e => by obtain ⟨_, ⟨es, c, hg, _⟩, _⟩ := h.lm; rw [e, hg] at hb; cases hb
  have hrow : ∀ k, (g i).map (·.1) = some k → ∃ c, w.heap[k]? = some (.cells c 95 (0, 0)) ∧ k ≠ fx ∧ F k := fun k e => by
    cases hg : g i with
    | none => rw [hg] at e; cases e
    | some t =>
      rw [hg] at e
      injection e with e
      subst e
      obtain ⟨_, _, ⟨c, hc, _⟩, hF, hx⟩ := h.some_ i t hi hg
      exact ⟨c, hc, hx, hF⟩
  have hk : ∀ k, k < w.heap.size → k ≠ m → (g i).map (·.1) ≠ some k → w'.heap[k]? = w.heap[k]? := fun k h1 h2 h3 => hc.block k h1 (fun x => x.elim h2 h3)
  have hD : w'.heap[D]? = w.heap[D]? := hk D (lt_of_heap h.head) (hcells _ _ _ h.head) (fun e => by obtain ⟨c, hc, _⟩ := hrow D e; rw [h.head] at hc; cases hc)
  have hfx : w'.heap[fx]? = w.heap[fx]? := by
    obtain ⟨c, hc, _⟩ := h.fixd
    exact hk fx (lt_of_heap hc) (hcells _ _ _ hc) (fun e => (hrow fx e).choose_spec.2.1 rfl)
  have hr : w'.heap[r]? = w.heap[r]? := by
    obtain ⟨_, ⟨es, c, hb, _⟩, _⟩ := h.rm
    exact hk r (lt_of_heap hb) (fun e => h.mr e.symm) (fun e => by obtain ⟨c, hc, _⟩ := hrow r e; rw [hb] at hc; cases hc)
  have hlt : t'.1 < w'.heap.size := r1.lt
  have hle := h.len_eq hi
  have hF' : Ext F w w' t'.1 := by
    rcases hb with e | e
    · exact .inl (hrow _ e).choose_spec.2.2
    · exact .inr ⟨e, hlt⟩
  exact {
    head := hD.trans h.head
    fixd := (h.fixd.heap hfx).congr (fun j hj => by
      unfold W.wrote
      by_cases e : j = i
      · subst e; rw [upd_same]
      · rw [upd_other _ _ e])
    lm := r2
    rm := ((h.rm.heap hr).more (Nat.le_succ _)).congr (fun j hj => by
      unfold W.wrote
      by_cases e : j = i
      · subst e; rw [upd_same]
      · rw [upd_other _ _ e])
    none_ := fun j hj e => by
      unfold W.wrote
      by_cases e' : j = i
      · subst e'; rw [upd_same] at e; cases e
      · rw [upd_other _ _ e'] at e ⊢; exact h.none_ j hj e
    some_ := fun j t hj e => by
      unfold W.wrote
      by_cases e' : j = i
      · subst e'
        rw [upd_same] at e ⊢
        rw [← Option.some.inj e]
        refine ⟨by simp, by rw [e1, hle]; simp, ?_, hF', ?_⟩
        · rw [e1]
          refine r1.congr (fun q hq => ?_)
          by_cases e2 : q = lenO (g j)
          · rw [e2, upd_same, hle]; simp
          · rw [upd_other _ _ e2]
            simp only [List.getD_eq_getElem?_getD]
            rw [List.getElem?_append_left (by omega)]
        · rcases hb with e2 | e2
          · exact (hrow _ e2).choose_spec.2.1
          · intro e3
            have := h.fixd.lt
            omega
      · rw [upd_other _ _ e'] at e ⊢
        obtain ⟨a1, a2, a3, a4, a5⟩ := h.some_ j t hj e
        refine ⟨a1, a2, a3.heap (hk _ a3.lt (by obtain ⟨c, hc, _⟩ := a3; exact hcells _ _ _ hc) (fun e2 => ?_)), .inl a4, a5⟩
        cases hg : g i with
        | none => rw [hg] at e2; cases e2
        | some t2 =>
          rw [hg] at e2
          injection e2 with e2
          exact h.apart i j t2 t hi hj (fun e3 => e' e3.symm) hg e e2
    apart := fun j k s t hj hk' hne ej ek => by
      have key : ∀ q u, q < n → q ≠ i → g q = some u → u.1 ≠ t'.1 := fun q u hq hqi eu e2 => by
        obtain ⟨_, _, a3, a4, _⟩ := h.some_ q u hq eu
        rcases hb with e3 | e3
        · cases hg : g i with
          | none => rw [hg] at e3; cases e3
          | some t2 =>
            rw [hg] at e3
            injection e3 with e3
            exact h.apart q i u t2 hq hi hqi eu hg (e2.trans e3.symm)
        · have := h.bound _ a4
          omega
      by_cases ea : j = i
      · subst ea
        rw [upd_same] at ej
        rw [upd_other _ _ (Ne.symm hne)] at ek
        rw [← Option.some.inj ej]
        exact (key k t hk' (Ne.symm hne) ek).symm
      · rw [upd_other _ _ ea] at ej
        by_cases eb : k = i
        · subst eb
          rw [upd_same] at ek
          rw [← Option.some.inj ek]
          exact key j s hj ea ej
        · rw [upd_other _ _ eb] at ek
          exact h.apart j k s t hj hk' hne ej ek
    mr := h.mr
    hn := h.hn
    hN := hN
    hl := fun j hj => by
      unfold W.wrote
      by_cases e' : j = i
      · subst e'; rw [upd_same]; have := h.hl j hj; simp; omega
      · rw [upd_other _ _ e']; have := h.hl j hj; omega
    hrd := h.hrd
    hwr := h.hwr
    inF := ⟨.inl h.inF.1, .inl h.inF.2.1, .inl h.inF.2.2.1, .inl h.inF.2.2.2⟩
    bound := fun k x => x.elim (fun y => Nat.lt_of_lt_of_le (h.bound k y) hc.size) (fun y => y.2) }
end
end Go.Proofs.Ytdkniholeaiemaa.W
