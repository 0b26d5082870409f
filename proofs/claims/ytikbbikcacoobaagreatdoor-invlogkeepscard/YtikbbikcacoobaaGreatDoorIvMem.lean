/-
  Logs in memory; records as rows. No conditions.
-/
import Derived.Test.YtikbbikcacoobaaGreatDoorIvNum
import Derived.Test.YtikbbikcacoobaaGreatDoorSRows
namespace Go.Proofs.YtikbbikcacoobaaGreatDoor.Pd.Iv
open Go.RowKit Oc Dm W Dw Sr
set_option linter.unusedVariables false
set_option maxRecDepth 100000

/-- a record's cells -/
def rcs (p : Rc) : List Value := [.int .u64 (p.q : Int), .int .u64 (p.h : Int), .int .i64 p.x, .int .u64 (p.g : Int), .int .u8 (p.m.toNat : Int)]
theorem rcs_one (p : Rc) : ∀ u ∈ rcs p, u.oneCell' = true := by
  intro u hu
  unfold rcs at hu
  simp at hu
  rcases hu with rfl | rfl | rfl | rfl | rfl <;> rfl
theorem rcs_fits (L : List Rc) : Fits 5 (L.map rcs) := fun c hc => by
  obtain ⟨p, _, rfl⟩ := List.mem_map.1 hc
  exact ⟨rfl, rcs_one p⟩
theorem rc_elk : ElK Tryz.prog 53 31 5 40 := by
  refine ⟨Tryz.underlying53, ?_, by decide, by decide⟩
  have h : (Tryz.prog.info? 31).map (fun i => (i.zero, i.size, i.bytes)) = some (some (.agg #[.int .u64 0, .int .u64 0, .int .i64 0, .int .u64 0, .int .u8 0]), 5, 40) := by kernel_rfl
  obtain ⟨i, hi, hz0, hz1, hz2⟩ := info_parts h
  exact ⟨i, _, hi, hz0, hz1, hz2, rfl⟩
/-- A LOG BEHIND A POINTER -/
def LgAt (w : World) (TT : TypeId) (T D : Nat) (p : Pn.Pl) (g : Lg) : Prop := w.heap[T]? = some (.cells #[.pointer (some ⟨D, 0, none⟩), .int .i64 p.a0, .int .i64 p.a1, .int .i64 p.a2, .int .i64 p.a3, .int .i64 p.a4, .int .i64 p.a5, .int .i64 p.a6, .int .i64 p.a7, .int .i64 p.a8, .int .i64 p.a9, .int .i64 p.a10, .int .i64 p.a11, .int .i64 p.a12, .int .u64 (g.f : Int), .int .u64 (g.nx : Int), .int .u64 (g.ep : Int)] TT (0, 0))
/-- cells one behind the other, loaded as a struct -/
theorem run_load_cells {P : Program} {w : World} {ty : TypeId} {d : TypeDesc} {k b off : Nat} {cs : List Value} (hu : P.underlying ty = some d) (hd : (match d with | .struct _ | .array _ _ => true | _ => false) = true) (hi : (P.info? ty).map (·.size) = some k) (hk : cs.length = k) (hc : ∀ j v, cs[j]? = some v → w.cell? ⟨b, off + j, none⟩ = some v) :
    (Instr.loadAt ty (.pointer (some ⟨b, off, none⟩))).run P w = .ok (.agg cs.toArray) w := by
  have hl : (loadCells ⟨b, off, none⟩ cs.length).run P w = .ok cs.toArray w :=
    run_loadCells_list (P := P) w ⟨b, off, none⟩ cs (fun j u hv => by
      have hadd : (⟨b, off, none⟩ : Addr).add j = ⟨b, off + j, none⟩ := by unfold Addr.add; split <;> simp_all
      rw [hadd]
      exact hc j u hv)
  rw [hk] at hl
  obtain ⟨i0, hi0, hs⟩ := Option.map_eq_some_iff.1 hi
  have hagg : (isAgg ty).run P w = .ok true w := by
    simp only [isAgg, Sem.run_bind, run_underlying hu, Result.andThen_ok]
    cases d <;> simp at hd <;> rfl
  have hsz : (sizeOf ty).run P w = .ok k w := by simp [sizeOf, typeInfo, hi0, hs]
  simp only [Instr.loadAt, Instr.sureAddr, Sem.run_bind, Sem.run_pure, Result.andThen_ok, loadVar, hagg, if_true, hsz, hl]
/-- a load whose run is known -/
theorem L_ld {P : Program} {ops : Array Oper} {rest : List Oper} {a : Act} {w : World} {Q : Exit → Act → World → Prop} {dst : Option Tmp} {ty0 ty : TypeId} {pos : String} {af : Array Edge} {x : Operand} {v r : Value} (hx : a.eval x = v) (hrun : (Instr.loadAt ty0 v).run P w = .ok r w)
    (hK : wpList P ops Q rest (a.put dst r) w) : wpList P ops Q (⟨dst, .load ty0 x, ty, pos, af, none⟩ :: rest) a w := by
  refine wpList_plain rfl fun K hK' => ?_
  unfold Oper.wp
  simp [execOp, hx, hrun, Result.andThen]
  exact hK' _ _ hK
theorem info_place : (Tryz.prog.info? 99).map (·.size) = some 14 := by kernel_rfl
theorem L_loadPlace {ops : Array Oper} {rest : List Oper} {a : Act} {w : World} {Q : Exit → Act → World → Prop} {dst : Option Tmp} {ty : TypeId} {pos : String} {af : Array Edge} {x : Operand} {g : Nat} {t : TypeId} {cs : Array Value}
    (hx : a.eval x = .pointer (some ⟨g, 0, none⟩)) (hg : w.heap[g]? = some (.cells cs t (0, 0))) (hc : cs.size = 14)
    (hK : wpList Tryz.prog ops Q rest (a.put dst (.agg cs)) w) : wpList Tryz.prog ops Q (⟨dst, .load 99 x, ty, pos, af, none⟩ :: rest) a w :=
  wpList_load_row rfl 99 x rfl g hx t cs (0, 0) _ hg Tryz.underlying99 rfl (by rw [hc]; exact info_place) hK
theorem field_7 (p : Pn.Pl) (w : World) : (Instr.field 39 (.agg #[.int .i64 p.a0, .int .i64 p.a1, .int .i64 p.a2, .int .i64 p.a3, .int .i64 p.a4, .int .i64 p.a5, .int .i64 p.a6, .int .i64 p.a7, .int .i64 p.a8, .int .i64 p.a9, .int .i64 p.a10, .int .i64 p.a11, .int .i64 p.a12]) 7).run Tryz.prog w = .ok (.int .i64 p.a7) w := by kernel_rfl
theorem field_11 (p : Pn.Pl) (w : World) : (Instr.field 39 (.agg #[.int .i64 p.a0, .int .i64 p.a1, .int .i64 p.a2, .int .i64 p.a3, .int .i64 p.a4, .int .i64 p.a5, .int .i64 p.a6, .int .i64 p.a7, .int .i64 p.a8, .int .i64 p.a9, .int .i64 p.a10, .int .i64 p.a11, .int .i64 p.a12]) 11).run Tryz.prog w = .ok (.int .i64 p.a12) w := by kernel_rfl
section
variable {w w' : World} {F : Nat → Prop} {TT : TypeId} {T D : Nat} {p : Pn.Pl} {g : Lg}
theorem LgAt.lt (h : LgAt w TT T D p g) : T < w.heap.size := lt_of_heap h
theorem LgAt.kept (h : LgAt w TT T D p g) (hc : Chg F w w') (hF : ¬ F T) : LgAt w' TT T D p g := (hc.block T h.lt hF).trans h
theorem LgAt.below (h : LgAt w TT T D p g) (hb : Below w.heap.size w w') : LgAt w' TT T D p g := kept_below h hb
theorem LgAt.cells (h : LgAt w TT T D p g) : w.cell? ⟨T, 0, none⟩ = some (.pointer (some ⟨D, 0, none⟩)) ∧ w.cell? ⟨T, 14, none⟩ = some (.int .u64 (g.f : Int)) ∧ w.cell? ⟨T, 15, none⟩ = some (.int .u64 (g.nx : Int)) ∧ w.cell? ⟨T, 16, none⟩ = some (.int .u64 (g.ep : Int)) ∧ ∀ j, w.frozen? ⟨T, j, none⟩ = false := by
  refine ⟨?_, ?_, ?_, ?_, fun j => frozen_of_row w T j _ _ h⟩ <;> rw [cell_of_row w T _ _ _ (0, 0) h] <;> rfl
theorem LgAt.cell (h : LgAt w TT T D p g) (j : Nat) {v : Value} (hv : (#[.pointer (some ⟨D, 0, none⟩), .int .i64 p.a0, .int .i64 p.a1, .int .i64 p.a2, .int .i64 p.a3, .int .i64 p.a4, .int .i64 p.a5, .int .i64 p.a6, .int .i64 p.a7, .int .i64 p.a8, .int .i64 p.a9, .int .i64 p.a10, .int .i64 p.a11, .int .i64 p.a12, .int .u64 (g.f : Int), .int .u64 (g.nx : Int), .int .u64 (g.ep : Int)] : Array Value)[j]? = some v) : w.cell? ⟨T, j, none⟩ = some v := by
  rw [cell_of_row w T _ _ _ (0, 0) h]; exact hv
theorem LgAt.place (h : LgAt w TT T D p g) : (Instr.loadAt 99 (.pointer (some ⟨T, 0, none⟩))).run Tryz.prog w = .ok (.agg #[.pointer (some ⟨D, 0, none⟩), .int .i64 p.a0, .int .i64 p.a1, .int .i64 p.a2, .int .i64 p.a3, .int .i64 p.a4, .int .i64 p.a5, .int .i64 p.a6, .int .i64 p.a7, .int .i64 p.a8, .int .i64 p.a9, .int .i64 p.a10, .int .i64 p.a11, .int .i64 p.a12]) w :=
  run_load_cells (cs := [.pointer (some ⟨D, 0, none⟩), .int .i64 p.a0, .int .i64 p.a1, .int .i64 p.a2, .int .i64 p.a3, .int .i64 p.a4, .int .i64 p.a5, .int .i64 p.a6, .int .i64 p.a7, .int .i64 p.a8, .int .i64 p.a9, .int .i64 p.a10, .int .i64 p.a11, .int .i64 p.a12]) Tryz.underlying99 rfl info_place rfl (fun j v hv => by
    rw [Nat.zero_add]
    have hj : j < 14 := by
      rcases Nat.lt_or_ge j 14 with h | h
      · exact h
      · rw [List.getElem?_eq_none (by simpa using h)] at hv; cases hv
    refine h.cell j ?_
    match j, hj, hv with
    | 0, _, hv => exact hv
    | 1, _, hv => exact hv
    | 2, _, hv => exact hv
    | 3, _, hv => exact hv
    | 4, _, hv => exact hv
    | 5, _, hv => exact hv
    | 6, _, hv => exact hv
    | 7, _, hv => exact hv
    | 8, _, hv => exact hv
    | 9, _, hv => exact hv
    | 10, _, hv => exact hv
    | 11, _, hv => exact hv
    | 12, _, hv => exact hv
    | 13, _, hv => exact hv)
theorem LgAt.set (h : LgAt w TT T D p g) {j : Nat} {v : Value} {g' : Lg} (e : (#[.pointer (some ⟨D, 0, none⟩), .int .i64 p.a0, .int .i64 p.a1, .int .i64 p.a2, .int .i64 p.a3, .int .i64 p.a4, .int .i64 p.a5, .int .i64 p.a6, .int .i64 p.a7, .int .i64 p.a8, .int .i64 p.a9, .int .i64 p.a10, .int .i64 p.a11, .int .i64 p.a12, .int .u64 (g.f : Int), .int .u64 (g.nx : Int), .int .u64 (g.ep : Int)] : Array Value).setIfInBounds j v = #[.pointer (some ⟨D, 0, none⟩), .int .i64 p.a0, .int .i64 p.a1, .int .i64 p.a2, .int .i64 p.a3, .int .i64 p.a4, .int .i64 p.a5, .int .i64 p.a6, .int .i64 p.a7, .int .i64 p.a8, .int .i64 p.a9, .int .i64 p.a10, .int .i64 p.a11, .int .i64 p.a12, .int .u64 (g'.f : Int), .int .u64 (g'.nx : Int), .int .u64 (g'.ep : Int)]) : LgAt (w.setCell ⟨T, j, none⟩ v) TT T D p g' := by
  unfold LgAt
  rw [heap_setCell_same _ _ _ _ _ _ h, e]
theorem LgAt.set_f (h : LgAt w TT T D p g) (t : Nat) : LgAt (w.setCell ⟨T, 14, none⟩ (.int .u64 (t : Int))) TT T D p ⟨t, g.nx, g.ep⟩ := h.set rfl
theorem LgAt.set_n (h : LgAt w TT T D p g) (t : Nat) : LgAt (w.setCell ⟨T, 15, none⟩ (.int .u64 (t : Int))) TT T D p ⟨g.f, t, g.ep⟩ := h.set rfl
theorem LgAt.set_e (h : LgAt w TT T D p g) (t : Nat) : LgAt (w.setCell ⟨T, 16, none⟩ (.int .u64 (t : Int))) TT T D p ⟨g.f, g.nx, t⟩ := h.set rfl
end
end Go.Proofs.YtikbbikcacoobaaGreatDoor.Pd.Iv
