/-
  Contracts of Write. No conditions.
-/
import Derived.Test.YtdkniholeaiemaaDvNew
namespace Go.Proofs.Ytdkniholeaiemaa.W
open Go.RowKit Oc Dm
set_option linter.unusedVariables false

def lenO : Option Pl → Nat
  | none => 0
  | some t => t.2.1
theorem srow_owns {w : World} {b n cap : Nat} {f : Nat → List UInt8} (h : SRow w b n cap f) : ∃ xs : List Value, w.ownsRow 0 95 64 (.slice (some ⟨b, 0, none⟩) n cap) n xs ∧ ∀ i, i < n → ∀ j x, (f i)[j]? = some x → xs[i * 64 + j]? = some (ov x) := by
  obtain ⟨cur, hg, h1, h2, h3, h4⟩ := h
  refine ⟨cur.toList.take (n * 64), ⟨by rw [List.length_take]; simp; omega, .inr ⟨b, cap, cur, rfl, Nat.zero_le _, hg, h2, h3, h1, rfl⟩⟩, fun i hi j x hx => ?_⟩
  have hj : j < (f i).length := (List.getElem?_eq_some_iff.1 hx).1
  have hl := (h4 i hi).1
  rw [List.getElem?_take, if_pos (by omega)]
  simpa using (h4 i hi).2 j x hx
theorem run_append_sec {w : World} (o : Option Pl) {f : Nat → List UInt8} {b : Nat} {x : List UInt8} (ty : TypeId) (h : ∀ t, o = some t → SRow w t.1 t.2.1 t.2.2 f) (hnew : SRow w b 1 1 (fun _ => x)) (hlen : lenO o ≤ 1000000000) :
    ∃ t' w', (Builtin.append_ #[68, 68] ty #[slv o, .slice (some ⟨b, 0, none⟩) 1 1]).run Try.prog w = .ok (slv (some t')) w' ∧ t'.2.1 = lenO o + 1 ∧ SRow w' t'.1 (lenO o + 1) t'.2.2 (upd f (lenO o) x) ∧ w.grownBy w' (o.map (·.1)) ∧ (o.map (·.1) = some t'.1 ∨ t'.1 = w.heap.size) := by
  have hx : x.length = 64 := hnew.len (i := 0) (by decide)
  obtain ⟨i, hi, hz, hs, hb⟩ := sec_info
  obtain ⟨xs, hown, hxs, hbl⟩ : ∃ xs : List Value, w.ownsRow 0 95 64 (slv o) (lenO o) xs ∧ (∀ i, i < lenO o → (f i).length = 64 ∧ ∀ j y, (f i)[j]? = some y → xs[i * 64 + j]? = some (ov y)) ∧ (slv o).ownBlock = o.map (·.1) := by
    cases o with
    | none => exact ⟨[], World.ownsRow_nil w 0 _ _, fun i hi => absurd hi (Nat.not_lt_zero _), rfl⟩
    | some t =>
      obtain ⟨xs, h1, h2⟩ := srow_owns (h t rfl)
      exact ⟨xs, h1, fun i hi => ⟨(h t rfl).len hi, h2 i hi⟩, rfl⟩
  have hnc : ∀ j u, (x.map ov)[j]? = some u → w.cell? ((⟨b, 0, none⟩ : Addr).add j) = some u := by
    intro j u hu
    obtain ⟨y, hy, rfl⟩ := Option.map_eq_some_iff.1 ((List.getElem?_map ..).symm.trans hu)
    have hadd : (⟨b, 0, none⟩ : Addr).add j = ⟨b, 0 + j, none⟩ := by unfold Addr.add; split <;> simp_all
    obtain ⟨cur, hg, _, _, _, h4⟩ := hnew
    rw [hadd, cell_of_row w b _ cur _ (0, 0) hg]
    have := (h4 0 (by decide)).2 j y hy
    simpa using this
  obtain ⟨v', w', hrun, r1, r2, r3, r4⟩ := run_append_own_at (P := Try.prog) w 0 68 ty 95 i (sv zs) 64 64 Try.underlying68 hi hz hs hb (by rw [sv_cells, zs_cells]; simp) (by decide) (slv o) (lenO o) xs hown ⟨b, 0, none⟩ 1 1 (x.map ov) (by rw [List.length_map, hx]) hnc (ov_one x) (by unfold maxLen; omega) (by omega) (Nat.zero_le _)
  rw [hbl] at r2 r4
  obtain ⟨hl, hor⟩ := r1
  rcases hor with ⟨e, e2⟩ | ⟨g', cap', cur', e, _, hg', h2, h3, h4, h5⟩
  · omega
  subst e
  have hxl := hown.1
  refine ⟨(g', lenO o + 1, cap'), w', hrun, rfl, ⟨cur', hg', h4, h2, h3, fun k hk => ?_⟩, r2, ?_⟩
  · have hget : ∀ j, j < (lenO o + 1) * 64 → cur'[j]? = (xs ++ x.map ov)[j]? := fun j hj => by
      rw [← h5, List.getElem?_take, if_pos hj]
      simp
    by_cases e : k = lenO o
    · subst e
      rw [upd_same]
      refine ⟨hx, fun j y hy => ?_⟩
      have hj : j < x.length := (List.getElem?_eq_some_iff.1 hy).1
      rw [hget _ (by omega), List.getElem?_append_right (by omega), hxl, show lenO o * 64 + j - lenO o * 64 = j by omega, List.getElem?_map, hy]
      rfl
    · rw [upd_other _ _ e]
      obtain ⟨q1, q2⟩ := hxs k (by omega)
      refine ⟨q1, fun j y hy => ?_⟩
      have hj : j < (f k).length := (List.getElem?_eq_some_iff.1 hy).1
      rw [hget _ (by omega), List.getElem?_append_left (by omega)]
      exact q2 j y hy
  · rcases r4 with e | e
    · exact .inl (by rw [← e]; rfl)
    · exact .inr (by have : some g' = some w.heap.size := e; injection this)

theorem fold_set (off : Nat) : ∀ (l : List Value) (n : Nat) (cs : Array Value) (j : Nat), off + n + l.length ≤ cs.size → ((l.zipIdx n).foldl (fun cs p => cs.setIfInBounds (off + p.2) p.1) cs)[j]? = if off + n ≤ j ∧ j < off + n + l.length then l[j - (off + n)]? else cs[j]?
  | [], n, cs, j, h => by simp; omega
  | v :: l, n, cs, j, h => by
    rw [List.zipIdx_cons, List.foldl_cons, fold_set off l (n + 1) _ j (by simp at h ⊢; omega)]
    simp only [List.length_cons] at h ⊢
    by_cases h1 : off + (n + 1) ≤ j ∧ j < off + (n + 1) + l.length
    · rw [if_pos h1, if_pos (by omega), show j - (off + n) = (j - (off + (n + 1))) + 1 by omega, List.getElem?_cons_succ]
    · rw [if_neg h1, Array.getElem?_setIfInBounds]
      by_cases h2 : off + n = j
      · subst h2
        rw [if_pos rfl, if_pos (by omega), if_pos (by omega), Nat.sub_self, List.getElem?_cons_zero]
      · rw [if_neg h2, if_neg (by omega)]
theorem run_build_any {P : Program} (w : World) {t e : TypeId} {z v : Value} {k : Nat} (ht : P.underlying t = some (.slice e)) (hs : ∀ w, (sizeOf e).run P w = .ok k w) (hz : ∀ w, (zeroValue e).run P w = .ok z w) (hv : v.cells.size = k) (h0 : 0 < k) (h1 : k ≤ 16777216) :
    (Instr.buildSlice t 1 #[(0, v)]).run P w = .ok (.slice (some ⟨w.heap.size, 0, none⟩) 1 1) (w.alloc (.cells v.cells e)) := by
  have hfill : ∀ cells : Array Value, cells.size = k → Instr.fill (fun i => some (i * k, k)) cells [(0, v)] = some v.cells := by
    intro cells hc
    unfold Instr.fill
    simp only [hv, ne_eq, not_true, decide_false, Bool.false_or, hc, Nat.zero_mul, Nat.zero_add, gt_iff_lt, Nat.lt_irrefl, Bool.false_eq_true, if_false, Instr.fill]
    congr 1
    apply Array.ext_getElem?
    intro j
    have := fold_set 0 v.cells.toList 0 cells j (by simp [hv, hc])
    simp only [Nat.zero_add] at this
    rw [← Array.foldl_toList, Array.toList_zipIdx]
    rw [this]
    by_cases hj : j < k
    · rw [if_pos (by simp [hv]; exact hj)]
      simp
    · rw [if_neg (by simp [hv]; omega), Array.getElem?_eq_none (by omega), Array.getElem?_eq_none (by omega)]
  have e := hfill ((Array.range (1 * k)).map (z.cells[· % z.cells.size]!)) (by simp)
  have h2 : ¬ (1 * k > 2 ^ 24) := by simp; omega
  have h3 : ¬ (1 * k = 0) := by omega
  simp only [Instr.buildSlice, Sem.run_bind, run_underlying ht, Result.andThen_ok, hs, if_neg h2, if_neg h3, hz, Sem.run_pure, e]
  simp [newRow, Result.andThen, go_sem]
theorem run_build_sec (w : World) (x : List UInt8) (hx : x.length = 64) : (Instr.buildSlice 68 1 #[(0, sv x)]).run Try.prog w = .ok (.slice (some ⟨w.heap.size, 0, none⟩) 1 1) (w.alloc (.cells (x.map ov).toArray 95)) :=
  run_build_any (k := 64) w Try.underlying68 Try.sizeOf95 zero_sec (by rw [sv_cells]; simp [hx]) (by decide) (by decide)
end Go.Proofs.Ytdkniholeaiemaa.W
