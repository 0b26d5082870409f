/-
  Tables in memory: their pages as a row, a plan in plain numbers; maps of what goes up. No conditions.
-/
import Derived.Test.YtgdgehfapfgdfaaGreatDoorGbDev
import Derived.Test.YtgdgehfapfgdfaaGreatDoorSRows
import Derived.Test.YtgdgehfapfgdfaaGreatDoorKPlan
namespace Go.Proofs.YtgdgehfapfgdfaaGreatDoor.Tb
open Go.RowKit Oc Dm W Dw Sr Go.Maps Go.ChangeMaps Go.MapKept
set_option linter.unusedVariables false
set_option maxRecDepth 100000

/-- a page's cells -/
def gcs (p : Gp) : List Value := [.int .i64 p.no, .int .u64 (p.v : Int), .int .u64 (p.g 0 : Int), .int .u64 (p.g 1 : Int), .int .u64 (p.g 2 : Int), .int .u64 (p.g 3 : Int), .int .u64 (p.g 4 : Int), .int .u64 (p.g 5 : Int)]
theorem gcs_len (p : Gp) : (gcs p).length = 8 := rfl
theorem gcs_one (p : Gp) : ∀ u ∈ gcs p, u.oneCell' = true := by
  intro u hu
  unfold gcs at hu
  simp at hu
  rcases hu with rfl | rfl | rfl | rfl | rfl | rfl | rfl | rfl <;> rfl
theorem gcs_val (p : Gp) : (Value.agg (gcs p).toArray) = (.agg #[.int .i64 p.no, .int .u64 (p.v : Int), .int .u64 (p.g 0 : Int), .int .u64 (p.g 1 : Int), .int .u64 (p.g 2 : Int), .int .u64 (p.g 3 : Int), .int .u64 (p.g 4 : Int), .int .u64 (p.g 5 : Int)]) := rfl
theorem gcs_fits (L : List Gp) : Fits 8 (L.map gcs) := fun c hc => by
  obtain ⟨p, _, rfl⟩ := List.mem_map.1 hc
  exact ⟨rfl, gcs_one p⟩
theorem gp_elk : ElK Tryz.prog 79 33 8 64 := by
  refine ⟨Tryz.underlying79, ?_, by decide, by decide⟩
  have h : (Tryz.prog.info? 33).map (fun i => (i.zero, i.size, i.bytes)) = some (some (.agg #[.int .i64 0, .int .u64 0, .int .u64 0, .int .u64 0, .int .u64 0, .int .u64 0, .int .u64 0, .int .u64 0]), 8, 64) := by kernel_rfl
  obtain ⟨i, hi, hz0, hz1, hz2⟩ := info_parts h
  exact ⟨i, _, hi, hz0, hz1, hz2, rfl⟩
theorem gcs_gen (p : Gp) {j : Nat} (h : j < 6) : (gcs p)[2 + j]? = some (.int .u64 (p.g j : Int)) := by
  match j, h with
  | 0, _ => rfl
  | 1, _ => rfl
  | 2, _ => rfl
  | 3, _ => rfl
  | 4, _ => rfl
  | 5, _ => rfl

/-- a plan in plain numbers: extents, pages, where they begin, sectors -/
structure Pln (p : Pn.Pl) (ne np ga n : Nat) : Prop where
  h1 : p.a1 = (ne : Int)
  h2 : p.a2 = (np : Int)
  h3 : p.a3 = (ga : Int)
  h4 : p.a4 = (n : Int)
  hn : n = ga + 2 * np
  hn2 : n ≤ 4096
  hp : 1 ≤ np
  ha : 1 ≤ ga
  he : 1 ≤ ne
  he1 : ne ≤ 6 * np
  he2 : 6 * np ≤ ne + 5
/-- A TABLE BEHIND A POINTER, its blocks those of H -/
structure TbAt (w : World) (H : Nat → Prop) (TT : TypeId) (T D g cap : Nat) (p : Pn.Pl) (L : List Gp) : Prop where
  head : w.heap[T]? = some (.cells #[.pointer (some ⟨D, 0, none⟩), .int .i64 p.a0, .int .i64 p.a1, .int .i64 p.a2, .int .i64 p.a3, .int .i64 p.a4, .int .i64 p.a5, .int .i64 p.a6, .int .i64 p.a7, .int .i64 p.a8, .int .i64 p.a9, .int .i64 p.a10, .int .i64 p.a11, .int .i64 p.a12, .slice (some ⟨g, 0, none⟩) L.length cap] TT (0, 0))
  row : OwnS w 33 8 0 (.slice (some ⟨g, 0, none⟩) L.length cap) (L.map gcs)
  apart : T ≠ g
  inH : H T ∧ H g
  hcap : L.length ≤ cap ∧ cap ≤ maxLen
section
variable {w w' : World} {H H' F : Nat → Prop} {TT : TypeId} {T D g cap : Nat} {p : Pn.Pl} {L : List Gp}
theorem TbAt.lt (h : TbAt w H TT T D g cap p L) : T < w.heap.size ∧ g < w.heap.size := ⟨lt_of_heap h.head, (h.row.ge g rfl).2⟩
theorem TbAt.kept (h : TbAt w H TT T D g cap p L) (hc : Chg F w w') (hF : ∀ k, H k → ¬ F k) : TbAt w' H TT T D g cap p L :=
  ⟨(hc.block T h.lt.1 (hF T h.inH.1)).trans h.head, h.row.keep (fun b hb => by
    have : g = b := by simpa [Value.ownBlock] using hb
    subst this
    exact hc.block g h.lt.2 (hF g h.inH.2)), h.apart, h.inH, h.hcap⟩
theorem TbAt.below (h : TbAt w H TT T D g cap p L) (hb : Below w.heap.size w w') : TbAt w' H TT T D g cap p L := h.kept (F := fun _ => False) (Chg.of_below hb) (fun _ _ x => x)
theorem TbAt.drewN (h : TbAt w H TT T D g cap p L) (k : Nat) : TbAt (w.drewN k) H TT T D g cap p L := h.below ⟨rfl, rfl, rfl, Nat.le_refl _, fun _ _ => rfl⟩
theorem TbAt.alloc (h : TbAt w H TT T D g cap p L) (o : Obj) : TbAt (w.alloc o) H TT T D g cap p L := h.below (balloc _ _)
theorem TbAt.cells (h : TbAt w H TT T D g cap p L) : w.cell? ⟨T, 0, none⟩ = some (.pointer (some ⟨D, 0, none⟩)) ∧ w.cell? ⟨T, 14, none⟩ = some (.slice (some ⟨g, 0, none⟩) L.length cap) ∧ (∀ j v, (#[.int .i64 p.a0, .int .i64 p.a1, .int .i64 p.a2, .int .i64 p.a3, .int .i64 p.a4, .int .i64 p.a5, .int .i64 p.a6, .int .i64 p.a7, .int .i64 p.a8, .int .i64 p.a9, .int .i64 p.a10, .int .i64 p.a11, .int .i64 p.a12] : Array Value)[j]? = some v → w.cell? ⟨T, 1 + j, none⟩ = some v) ∧ ∀ j, w.frozen? ⟨T, j, none⟩ = false := by
  refine ⟨?_, ?_, fun j v hv => ?_, fun j => frozen_of_row w T j _ _ h.head⟩
  · rw [cell_of_row w T _ _ _ (0, 0) h.head]; rfl
  · rw [cell_of_row w T _ _ _ (0, 0) h.head]; rfl
  · rw [cell_of_row w T _ _ _ (0, 0) h.head]
    match j, hv with
    | 0, hv => exact hv
    | 1, hv => exact hv
    | 2, hv => exact hv
    | 3, hv => exact hv
    | 4, hv => exact hv
    | 5, hv => exact hv
    | 6, hv => exact hv
    | 7, hv => exact hv
    | 8, hv => exact hv
    | 9, hv => exact hv
    | 10, hv => exact hv
    | 11, hv => exact hv
    | 12, hv => exact hv
    | j + 13, hv => simp at hv
/-- one page's cells -/
theorem TbAt.page (h : TbAt w H TT T D g cap p L) {i : Nat} {q : Gp} (hq : L[i]? = some q) {j : Nat} {u : Value} (hu : (gcs q)[j]? = some u) : w.cell? ⟨g, i * 8 + j, none⟩ = some u ∧ w.frozen? ⟨g, i * 8 + j, none⟩ = false :=
  h.row.cell (by rw [List.length_map]) (by rw [List.getElem?_map, hq]; rfl) hu
end

/-- cells one behind the other, loaded as a struct -/
theorem run_load_cells {P : Program} {w : World} {ty : TypeId} {d : TypeDesc} {k b off : Nat} {cs : List Value} (hu : P.underlying ty = some d) (hd : (match d with | .struct _ | .array _ _ => true | _ => false) = true) (hi : (P.info? ty).map (·.size) = some k) (hk : cs.length = k) (hc : ∀ j v, cs[j]? = some v → w.cell? ⟨b, off + j, none⟩ = some v) :
    (Instr.loadAt ty (.pointer (some ⟨b, off, none⟩))).run P w = .ok (.agg cs.toArray) w := by
  have hl : (loadCells ⟨b, off, none⟩ cs.length).run P w = .ok cs.toArray w :=
    run_loadCells_list (P := P) w ⟨b, off, none⟩ cs (fun j u hv => by
      have hadd : (⟨b, off, none⟩ : Addr).add j = ⟨b, off + j, none⟩ := by unfold Addr.add; split <;> simp_all
      rw [hadd]
      exact hc j u hv)
  rw [hk] at hl
  obtain ⟨i0, hi0, hs⟩ := Option.map_eq_some_iff.1 hi
  have hagg : (isAgg ty).run P w = .ok true w := by
    simp only [isAgg, Sem.run_bind, run_underlying hu, Result.andThen_ok]
    cases d <;> simp at hd <;> rfl
  have hsz : (sizeOf ty).run P w = .ok k w := by simp [sizeOf, typeInfo, hi0, hs]
  simp only [Instr.loadAt, Instr.sureAddr, Sem.run_bind, Sem.run_pure, Result.andThen_ok, loadVar, hagg, if_true, hsz, hl]
/-- a load whose run is known -/
theorem L_ld {P : Program} {ops : Array Oper} {rest : List Oper} {a : Act} {w : World} {Q : Exit → Act → World → Prop} {dst : Option Tmp} {ty0 ty : TypeId} {pos : String} {af : Array Edge} {x : Operand} {v r : Value} (hx : a.eval x = v) (hrun : (Instr.loadAt ty0 v).run P w = .ok r w)
    (hK : wpList P ops Q rest (a.put dst r) w) : wpList P ops Q (⟨dst, .load ty0 x, ty, pos, af, none⟩ :: rest) a w := by
  refine wpList_plain rfl fun K hK' => ?_
  unfold Oper.wp
  simp [execOp, hx, hrun, Result.andThen]
  exact hK' _ _ hK
theorem info_place : (Tryz.prog.info? 78).map (·.size) = some 14 := by kernel_rfl
section
variable {w w' : World} {H H' F : Nat → Prop} {TT : TypeId} {T D g cap : Nat} {p : Pn.Pl} {L : List Gp}
theorem TbAt.chart (h : TbAt w H TT T D g cap p L) : (Instr.loadAt 46 (.pointer (some ⟨T, 1, none⟩))).run Tryz.prog w = .ok (.agg #[.int .i64 p.a0, .int .i64 p.a1, .int .i64 p.a2, .int .i64 p.a3, .int .i64 p.a4, .int .i64 p.a5, .int .i64 p.a6, .int .i64 p.a7, .int .i64 p.a8, .int .i64 p.a9, .int .i64 p.a10, .int .i64 p.a11, .int .i64 p.a12]) w :=
  run_load_cells (cs := [.int .i64 p.a0, .int .i64 p.a1, .int .i64 p.a2, .int .i64 p.a3, .int .i64 p.a4, .int .i64 p.a5, .int .i64 p.a6, .int .i64 p.a7, .int .i64 p.a8, .int .i64 p.a9, .int .i64 p.a10, .int .i64 p.a11, .int .i64 p.a12]) Tryz.underlying46 rfl Pn.info_map rfl (fun j v hv => h.cells.2.2.1 j v (by simpa using hv))
theorem TbAt.plan (h : TbAt w H TT T D g cap p L) : (Instr.loadAt 42 (.pointer (some ⟨T, 1, none⟩))).run Tryz.prog w = .ok (.agg #[.int .i64 p.a0, .int .i64 p.a1, .int .i64 p.a2, .int .i64 p.a3, .int .i64 p.a4, .int .i64 p.a5, .int .i64 p.a6, .int .i64 p.a7, .int .i64 p.a8, .int .i64 p.a9, .int .i64 p.a10, .int .i64 p.a11, .int .i64 p.a12]) w :=
  run_load_cells (cs := [.int .i64 p.a0, .int .i64 p.a1, .int .i64 p.a2, .int .i64 p.a3, .int .i64 p.a4, .int .i64 p.a5, .int .i64 p.a6, .int .i64 p.a7, .int .i64 p.a8, .int .i64 p.a9, .int .i64 p.a10, .int .i64 p.a11, .int .i64 p.a12]) Tryz.underlying42 rfl Pn.info_plan rfl (fun j v hv => h.cells.2.2.1 j v (by simpa using hv))
theorem TbAt.place (h : TbAt w H TT T D g cap p L) : (Instr.loadAt 78 (.pointer (some ⟨T, 0, none⟩))).run Tryz.prog w = .ok (.agg #[.pointer (some ⟨D, 0, none⟩), .int .i64 p.a0, .int .i64 p.a1, .int .i64 p.a2, .int .i64 p.a3, .int .i64 p.a4, .int .i64 p.a5, .int .i64 p.a6, .int .i64 p.a7, .int .i64 p.a8, .int .i64 p.a9, .int .i64 p.a10, .int .i64 p.a11, .int .i64 p.a12]) w :=
  run_load_cells (cs := [.pointer (some ⟨D, 0, none⟩), .int .i64 p.a0, .int .i64 p.a1, .int .i64 p.a2, .int .i64 p.a3, .int .i64 p.a4, .int .i64 p.a5, .int .i64 p.a6, .int .i64 p.a7, .int .i64 p.a8, .int .i64 p.a9, .int .i64 p.a10, .int .i64 p.a11, .int .i64 p.a12]) Tryz.underlying78 rfl info_place rfl (fun j v hv => by
    cases j with
    | zero => simp at hv; subst hv; exact h.cells.1
    | succ j =>
      rw [show 0 + (j + 1) = 1 + j by omega]
      exact h.cells.2.2.1 j v (by simpa using hv))
theorem TbAt.pgen (h : TbAt w H TT T D g cap p L) {i : Nat} {q : Gp} (hq : L[i]? = some q) {j : Nat} (hj : j < 6) : w.cell? ⟨g, i * 8 + 2 + j, none⟩ = some (.int .u64 (q.g j : Int)) ∧ w.frozen? ⟨g, i * 8 + 2 + j, none⟩ = false := by
  rw [Nat.add_assoc]
  exact h.page hq (gcs_gen q hj)
theorem TbAt.gload (h : TbAt w H TT T D g cap p L) {i : Nat} {q : Gp} (hq : L[i]? = some q) {off : Nat} (ho : off = i * 8) : (Instr.loadAt 33 (.pointer (some ⟨g, off, none⟩))).run Tryz.prog w = .ok (.agg #[.int .i64 q.no, .int .u64 (q.v : Int), .int .u64 (q.g 0 : Int), .int .u64 (q.g 1 : Int), .int .u64 (q.g 2 : Int), .int .u64 (q.g 3 : Int), .int .u64 (q.g 4 : Int), .int .u64 (q.g 5 : Int)]) w :=
  h.row.load (c := gcs q) (by rw [List.length_map]) (by rw [List.getElem?_map, hq]; rfl) Tryz.underlying33 rfl info_gp ho
end

/-! maps of six numbers by pages -/
def uv (u : Nat → Nat) : Value := .agg #[.int .u64 (u 0 : Int), .int .u64 (u 1 : Int), .int .u64 (u 2 : Int), .int .u64 (u 3 : Int), .int .u64 (u 4 : Int), .int .u64 (u 5 : Int)]
def encU (u : Nat → Nat) : DataW Unit := .agg [.lit (.int .u64 (u 0 : Int)), .lit (.int .u64 (u 1 : Int)), .lit (.int .u64 (u 2 : Int)), .lit (.int .u64 (u 3 : Int)), .lit (.int .u64 (u 4 : Int)), .lit (.int .u64 (u 5 : Int))]
/-- how an element reads -/
def upElem : Value → Option (DataW Unit × List MemPlace)
  | .agg cs => match cs.toList with
    | [.int .u64 a0, .int .u64 a1, .int .u64 a2, .int .u64 a3, .int .u64 a4, .int .u64 a5] => some (.agg [.lit (.int .u64 a0), .lit (.int .u64 a1), .lit (.int .u64 a2), .lit (.int .u64 a3), .lit (.int .u64 a4), .lit (.int .u64 a5)], [])
    | _ => none
  | _ => none
theorem upElem_uv (u : Nat → Nat) : upElem (uv u) = some (encU u, []) := rfl
theorem upElem_inv {v : Value} {u : Nat → Nat} {ps : List MemPlace} (h : upElem v = some (encU u, ps)) : v = uv u := by
  unfold upElem at h
  split at h
  · rename_i cs
    split at h
    · rename_i a0 a1 a2 a3 a4 a5 e
      unfold encU at h
      simp only [Option.some.injEq, Prod.mk.injEq, DataW.agg.injEq, List.cons.injEq, DataW.lit.injEq, Lit.int.injEq, true_and, and_true] at h
      obtain ⟨⟨h0, h1, h2, h3, h4, h5⟩, _⟩ := h
      subst h0 h1 h2 h3 h4 h5
      unfold uv
      congr 1
      exact Array.toList_inj.1 e
    · cases h
  · cases h
def u0 : Nat → Nat := fun _ => 0
/-- what a map tells of the pages below n -/
def UView (D : DataW Unit) (n : Nat) (f : Nat → Option (Nat → Nat)) : Prop :=
  (∀ i, i < n → (f i = none → Maps.has D (.int .i64 (i : Int)) = false) ∧ ∀ u, f i = some u → Maps.has D (.int .i64 (i : Int)) = true ∧ ∀ z, D.atKey (.int .i64 (i : Int)) z = encU u) ∧ ∀ x : Int, Maps.has D (.int .i64 x) = true → ∃ i : Nat, x = (i : Int) ∧ i < n
/-- block m is a map of six numbers by pages -/
def UM (w : World) (m N n : Nat) (f : Nat → Option (Nat → Nat)) : Prop := ∃ D, w.ownsMap Tryz.prog 3 upElem m N D ∧ UView D n f
section
variable {w w' : World} {m N n : Nat} {f : Nat → Option (Nat → Nat)}
theorem UM.lt (h : UM w m N n f) : m < w.heap.size := by obtain ⟨D, h1, _⟩ := h; exact h1.lt
theorem UM.more {N' : Nat} (h : UM w m N n f) (hN : N ≤ N') : UM w m N' n f := by obtain ⟨D, h1, h2⟩ := h; exact ⟨D, h1.mono hN, h2⟩
theorem UM.heap (h : UM w m N n f) (e : w'.heap[m]? = w.heap[m]?) : UM w' m N n f := by
  obtain ⟨D, ⟨es, clock, hb, r⟩, h2⟩ := h
  exact ⟨D, ⟨es, clock, e.trans hb, r⟩, h2⟩
theorem UM.below (h : UM w m N n f) (hb : Below w.heap.size w w') : UM w' m N n f := h.heap (hb.block _ h.lt)
theorem UM.congr {f' : Nat → Option (Nat → Nat)} (h : UM w m N n f) (e : ∀ i, i < n → f' i = f i) : UM w m N n f' := by
  obtain ⟨D, h1, h2, h3⟩ := h
  exact ⟨D, h1, fun i hi => by rw [e i hi]; exact h2 i hi, h3⟩
theorem UM.made (w : World) (n : Nat) : UM (w.alloc (.map #[] 0)) w.heap.size 0 n (fun _ => none) :=
  ⟨_, World.ownsMap_made w _ _ _, ⟨fun i _ => ⟨fun _ => rfl, fun t e => by cases e⟩, fun x h => by cases h⟩⟩
theorem zero_ups (w : World) : (zeroValue 114).run Tryz.prog w = .ok (uv u0) w := by
  have h : (Tryz.prog.info? 114).map (·.zero) = some (some (uv u0)) := by kernel_rfl
  obtain ⟨i, hi, hz⟩ := Option.map_eq_some_iff.1 h
  simp [zeroValue, typeInfo, hi, hz]
theorem UM.look (h : UM w m N n f) {i : Nat} (hi : i < n) (hn : n ≤ 4096) : (Instr.lookup 107 (.map (some m)) (.int .i64 (i : Int)) false).run Tryz.prog w = .ok (uv ((f i).getD u0)) w := by
  obtain ⟨D, h1, h2, h3⟩ := h
  obtain ⟨v, ps, hrun, hv⟩ := h1.lookup (t := 107) kint Tryz.underlying107 (zero_ups w) (upElem_uv u0) (kof (i := i) (by omega))
  suffices e : v = uv ((f i).getD u0) by rw [hrun, e]
  cases hf : f i with
  | none =>
    rw [Maps.atKey_of_not_has ((h2 i hi).1 hf)] at hv
    exact upElem_inv hv
  | some u =>
    rw [((h2 i hi).2 u hf).2] at hv
    exact upElem_inv hv
theorem UM.put (h : UM w m N n f) {i : Nat} (hi : i < n) (hn : n ≤ 4096) (hN : N < maxLen) (u : Nat → Nat) :
    ∃ w', (Instr.mapUpdate 107 (.map (some m)) (.int .i64 (i : Int)) (uv u)).run Tryz.prog w = .ok () w' ∧ UM w' m (N + 1) n (Dm.upd f i (some u)) ∧ w.grownBy w' (some m) ∧ w'.heap.size = w.heap.size := by
  obtain ⟨D, h1, h2, h3⟩ := h
  obtain ⟨w', hrun, r1, r2⟩ := h1.store (t := 107) kint Tryz.underlying107 hN (kof (i := i) (by omega)) (upElem_uv u)
  refine ⟨w', hrun, ⟨_, r1, fun j hj => ?_, fun x hx => ?_⟩, r2.grown, ?_⟩
  · by_cases e : j = i
    · subst e
      rw [Dm.upd_same]
      refine ⟨(fun e => by cases e), fun t' e => ?_⟩
      rw [← Option.some.inj e]
      exact ⟨Maps.has_put_same h1.isMap (kkey _) _, fun z => Maps.atKey_put_same h1.isMap (kkey _) _ _⟩
    · rw [Dm.upd_other _ _ e, Maps.has_put_other (kne e)]
      refine ⟨(h2 j hj).1, fun t' e' => ⟨((h2 j hj).2 t' e').1, fun z => ?_⟩⟩
      rw [Maps.atKey_put_other (kne e)]
      exact ((h2 j hj).2 t' e').2 z
  · by_cases e : x = (i : Int)
    · exact ⟨i, e, hi⟩
    · rw [Maps.has_put_other (fun e' => e (by injection e' with _ e'))] at hx
      exact h3 x hx
  · obtain ⟨_, _, _, _, _, e⟩ := r2
    rw [e]
    simp [setBlock]
end
section
variable {w : World} {ops : Array Oper} {rest : List Oper} {o : Oper} {a : Act} {Q : Exit → Act → World → Prop} {m N n : Nat} {f : Nat → Option (Nat → Nat)}
theorem wpList_look_um (hgd : o.guard = none) (x k : Operand) (ho : o.op = .lookup 107 x k false) {i : Nat} {z : Int} (hx : a.eval x = .map (some m)) (hk : a.eval k = .int .i64 z) (hz : z = (i : Int)) (h : UM w m N n f) (hi : i < n) (hn : n ≤ 4096) {v : Value} (hv : uv ((f i).getD u0) = v)
    (hK : wpList Tryz.prog ops Q rest (a.put o.dst v) w) : wpList Tryz.prog ops Q (o :: rest) a w := by
  subst hz hv
  refine wpList_plain hgd fun K hK' => ?_
  unfold Oper.wp
  simp [execOp, ho, hx, hk, h.look hi hn, Result.andThen]
  exact hK' _ _ hK
theorem wpList_put_um (hgd : o.guard = none) (x k y : Operand) (ho : o.op = .mapUpdate 107 x k y) {i : Nat} {z : Int} {u : Nat → Nat} (hx : a.eval x = .map (some m)) (hk : a.eval k = .int .i64 z) (hz : z = (i : Int)) (hy : a.eval y = uv u)
    (h : UM w m N n f) (hi : i < n) (hn : n ≤ 4096) (hN : N < maxLen)
    (hK : ∀ w', UM w' m (N + 1) n (Dm.upd f i (some u)) → w.grownBy w' (some m) → w'.heap.size = w.heap.size → wpList Tryz.prog ops Q rest (a.put o.dst undef) w') : wpList Tryz.prog ops Q (o :: rest) a w := by
  subst hz
  refine wpList_plain hgd fun K hK' => ?_
  obtain ⟨w', hrun, r1, r2, r3⟩ := h.put hi hn hN u
  unfold Oper.wp
  simp [execOp, ho, hx, hk, hy, hrun, Result.andThen]
  exact hK' _ _ (hK w' r1 r2 r3)
end

/-- the pages that a map has, rising -/
def keysOf (f : Nat → Option (Nat → Nat)) (n : Nat) : List Nat := (List.range n).filter fun i => (f i).isSome
theorem UM.perm {w : World} {m N n : Nat} {f : Nat → Option (Nat → Nat)} {D : DataW Unit} (h1 : w.ownsMap Tryz.prog 3 upElem m N D) (h2 : UView D n f) : ((keysOf f n).map (fun (i : Nat) => (i : Int))).Perm (intKeys D) := by
  obtain ⟨es, rfl, hp, hk⟩ := h1.entries kint
  refine perm_intKeys hp (fun q hq => ?_) ?_ (fun x => ?_)
  · have := h1.keysOf
    obtain ⟨es', e, hk'⟩ := this
    injection e with e
    subst e
    obtain ⟨key, hkey⟩ := hk' q hq
    obtain ⟨x, _, h, _⟩ := Maps.keyOf_i64 Tryz.underlying3 hkey
    exact ⟨x, h⟩
  · refine List.pairwise_map.2 ?_
    refine List.Pairwise.imp (R := fun (a b : Nat) => a ≠ b) (fun {a b} h => ?_) (List.Pairwise.filter _ List.nodup_range)
    show (a : Int) ≠ (b : Int)
    omega
  · rw [List.mem_map]
    constructor
    · rintro ⟨i, hi, rfl⟩
      unfold keysOf at hi
      rw [List.mem_filter, List.mem_range] at hi
      obtain ⟨u, hu⟩ := Option.isSome_iff_exists.1 hi.2
      exact ((h2.1 i hi.1).2 u hu).1
    · intro hx
      obtain ⟨i, rfl, hi⟩ := h2.2 x hx
      refine ⟨i, ?_, rfl⟩
      unfold keysOf
      rw [List.mem_filter, List.mem_range]
      refine ⟨hi, ?_⟩
      cases hf : f i with
      | none => rw [(h2.1 i hi).1 hf] at hx; cases hx
      | some u => rfl
theorem keys_sorted (f : Nat → Option (Nat → Nat)) (n : Nat) : ((keysOf f n).map (fun (i : Nat) => (i : Int))).mergeSort leI = (keysOf f n).map (fun (i : Nat) => (i : Int)) := by
  refine List.mergeSort_of_pairwise ?_
  rw [List.pairwise_map]
  refine List.Pairwise.imp (R := fun a b => a < b) (fun {a b} h => by simp; omega) ?_
  exact List.Pairwise.filter _ List.pairwise_lt_range
theorem UM.size {w : World} {m N n : Nat} {f : Nat → Option (Nat → Nat)} {D : DataW Unit} (h1 : w.ownsMap Tryz.prog 3 upElem m N D) (h2 : UView D n f) : Maps.size D = (keysOf f n).length := by
  have := (UM.perm h1 h2).length_eq
  obtain ⟨es, rfl, _, _⟩ := h1.entries kint
  rw [List.length_map] at this
  rw [this]
  simp [Maps.size, intKeys]
end Go.Proofs.YtgdgehfapfgdfaaGreatDoor.Tb
