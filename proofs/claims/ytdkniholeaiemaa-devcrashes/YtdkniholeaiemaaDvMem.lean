/-
  Sectors in memory: values of 64 octets, rows of sectors; loads, stores, boxes, slices of them. No conditions.
-/
import Derived.Test.YtdkniholeaiemaaOctMem
import Derived.Test.YtdkniholeaiemaaRowMem
import Derived.Test.YtdkniholeaiemaaBitMem
import Derived.Test.YtdkniholeaiemaaChecked
import Derived.WalkKit
import Derived.WalkLawsBesides
import Derived.Lib.Hide
import Derived.Laws.CopyRow
import Derived.Laws.Rows
import Derived.Laws.OwnMore
import Derived.Maps.AppendAt
namespace Go.Proofs.Ytdkniholeaiemaa.Dm
open Go.RowKit Oc
set_option linter.unusedVariables false

theorem bt : ByteTy Try.prog 52 5 := ⟨Try.underlying52, Try.underlying5, by kernel_rfl⟩

/-- nothing but blocks of F has turned, and new blocks -/
structure Chg (F : Nat → Prop) (w w' : World) : Prop where
  os : w'.os = w.os
  tape : w'.tape = w.tape
  output : w'.output = w.output
  size : w.heap.size ≤ w'.heap.size
  block : ∀ k, k < w.heap.size → ¬ F k → w'.heap[k]? = w.heap[k]?
theorem Chg.refl (F : Nat → Prop) (w : World) : Chg F w w := ⟨rfl, rfl, rfl, Nat.le_refl _, fun _ _ _ => rfl⟩
theorem Chg.trans {F G : Nat → Prop} {a b c : World} (h : Chg F a b) (k : Chg G b c) (hg : ∀ i, i < a.heap.size → G i → F i) : Chg F a c :=
  ⟨k.os.trans h.os, k.tape.trans h.tape, k.output.trans h.output, Nat.le_trans h.size k.size, fun i hi hn => (k.block i (Nat.lt_of_lt_of_le hi h.size) (fun x => hn (hg i hi x))).trans (h.block i hi hn)⟩
theorem Chg.mono {F G : Nat → Prop} {a b : World} (h : Chg F a b) (hg : ∀ i, i < a.heap.size → F i → G i) : Chg G a b :=
  ⟨h.os, h.tape, h.output, h.size, fun i hi hn => h.block i hi (fun x => hn (hg i hi x))⟩
theorem Chg.of_grown {F : Nat → Prop} {a b : World} {row : Option Nat} (h : a.grownBy b row) (hr : ∀ k, row = some k → k < a.heap.size → F k) : Chg F a b :=
  ⟨h.os, h.tape, h.output, h.size, fun i hi hn => h.block i hi (fun e => hn (hr i e.symm hi))⟩
theorem Chg.of_below {F : Nat → Prop} {a b : World} (h : Below a.heap.size a b) : Chg F a b := ⟨h.os, h.tape, h.output, h.size, fun i hi _ => h.block i hi⟩
theorem Chg.alloc {F : Nat → Prop} {a b : World} (h : Chg F a b) (o : Obj) : Chg F a (b.alloc o) :=
  h.trans (G := fun _ => False) (Chg.of_grown (World.grownBy_alloc b o none) (fun _ e => by cases e)) (fun _ _ x => x.elim)
theorem Chg.drew {F : Nat → Prop} {a b : World} (h : Chg F a b) : Chg F a b.drew := ⟨h.os, h.tape, h.output, h.size, h.block⟩
theorem Chg.drewN {F : Nat → Prop} {a b : World} (h : Chg F a b) (n : Nat) : Chg F a (b.drewN n) := ⟨h.os, h.tape, h.output, h.size, h.block⟩
theorem Chg.below {F : Nat → Prop} {a b : World} {B : Nat} (h : Chg F a b) (hB : B ≤ a.heap.size) (hF : ∀ k, k < B → ¬ F k) : Below B a b :=
  ⟨h.os, h.tape, h.output, h.size, fun i hi => h.block i (by omega) (hF i hi)⟩
/-- what is had behind a call: what was had, and what is new -/
def Ext (F : Nat → Prop) (w w' : World) (k : Nat) : Prop := F k ∨ (w.heap.size ≤ k ∧ k < w'.heap.size)

/-- a sector as a value -/
def sv (xs : List UInt8) : Value := .agg (xs.map ov).toArray
theorem sv_cells (xs : List UInt8) : (sv xs).cells = (xs.map ov).toArray := rfl
theorem sv_inj {a b : List UInt8} (h : sv a = sv b) : a = b := by
  unfold sv at h
  injection h with h
  have h2 : a.map ov = b.map ov := by simpa using h
  exact (List.map_inj_right (fun x y e => by unfold ov at e; injection e with _ e; exact UInt8.toNat_inj.1 (by omega))).1 h2
/-- the sector of noughts -/
def zs : List UInt8 := List.replicate 64 0

/-- block g is a row of sectors: n of them, f tells which; room for cap -/
def SRow (w : World) (g n cap : Nat) (f : Nat → List UInt8) : Prop :=
  ∃ cur, w.heap[g]? = some (.cells cur 95 (0, 0)) ∧ cur.size = cap * 64 ∧ n ≤ cap ∧ cap ≤ maxLen ∧ ∀ i, i < n → (f i).length = 64 ∧ ∀ j x, (f i)[j]? = some x → cur[i * 64 + j]? = some (ov x)
section
variable {w w' : World} {g n cap : Nat} {f : Nat → List UInt8}
theorem SRow.lt (h : SRow w g n cap f) : g < w.heap.size := by
  obtain ⟨cur, hg, _⟩ := h
  exact (Array.getElem?_eq_some_iff.1 hg).1
theorem SRow.heap (h : SRow w g n cap f) (e : w'.heap[g]? = w.heap[g]?) : SRow w' g n cap f := by
  obtain ⟨cur, hg, r⟩ := h
  exact ⟨cur, e.trans hg, r⟩
theorem SRow.congr {f' : Nat → List UInt8} (h : SRow w g n cap f) (e : ∀ i, i < n → f' i = f i) : SRow w g n cap f' := by
  obtain ⟨cur, hg, h1, h2, h3, h4⟩ := h
  exact ⟨cur, hg, h1, h2, h3, fun i hi => by rw [e i hi]; exact h4 i hi⟩
theorem SRow.len (h : SRow w g n cap f) {i : Nat} (hi : i < n) : (f i).length = 64 := by
  obtain ⟨cur, hg, h1, h2, h3, h4⟩ := h
  exact (h4 i hi).1
theorem SRow.cap_le (h : SRow w g n cap f) : n ≤ cap ∧ cap ≤ maxLen := by
  obtain ⟨cur, hg, h1, h2, h3, h4⟩ := h
  exact ⟨h2, h3⟩
theorem SRow.oct (h : SRow w g n cap f) {i : Nat} (hi : i < n) : Oct w (some ⟨g, i * 64, none⟩) 64 (f i) := by
  obtain ⟨cur, hg, h1, h2, h3, h4⟩ := h
  exact ⟨(h4 i hi).1, fun _ => ⟨g, i * 64, rfl, fun j x hx => by rw [cell_of_row w g _ cur _ (0, 0) hg]; exact (h4 i hi).2 j x hx⟩⟩
end

/-- a load of a sector -/
theorem run_load_sec {w : World} {b off : Nat} {xs : List UInt8} (h : Oct w (some ⟨b, off, none⟩) 64 xs) : (Instr.loadAt 95 (.pointer (some ⟨b, off, none⟩))).run Try.prog w = .ok (sv xs) w := by
  have hl : (loadCells ⟨b, off, none⟩ (xs.map ov).length).run Try.prog w = .ok (xs.map ov).toArray w :=
    run_loadCells_list (P := Try.prog) w ⟨b, off, none⟩ (xs.map ov) (fun j v hv => by
      have hadd : (⟨b, off, none⟩ : Addr).add j = ⟨b, off + j, none⟩ := by unfold Addr.add; split <;> simp_all
      rw [hadd]
      rw [List.getElem?_map] at hv
      obtain ⟨x, hx, rfl⟩ := Option.map_eq_some_iff.1 hv
      obtain ⟨b', off', e, hc⟩ := h.2 (by decide)
      injection e with e
      injection e with e1 e2
      subst e1 e2
      exact hc j x hx)
  rw [List.length_map, h.len] at hl
  simp only [Instr.loadAt, Instr.sureAddr, Sem.run_bind, Sem.run_pure, Result.andThen_ok, loadVar, Try.isAgg95, Try.sizeOf95, if_true, hl]
  rfl
theorem wpList_load_sec {ops : Array Oper} {rest : List Oper} {o : Oper} {a : Act} {w : World} {Q : Exit → Act → World → Prop} (hgd : o.guard = none) (x : Operand) (ho : o.op = .load 95 x) {b off : Nat} {xs : List UInt8}
    (hx : a.eval x = .pointer (some ⟨b, off, none⟩)) (h : Oct w (some ⟨b, off, none⟩) 64 xs) (hK : wpList Try.prog ops Q rest (a.put o.dst (sv xs)) w) : wpList Try.prog ops Q (o :: rest) a w := by
  refine wpList_plain hgd fun K hK' => ?_
  unfold Oper.wp
  simp [execOp, ho, hx, run_load_sec h, Result.andThen]
  exact hK' _ _ hK

theorem seg_get (l vs : List Value) (o k : Nat) (h : o + vs.length ≤ l.length) : (l.take o ++ vs ++ l.drop (o + vs.length))[k]? = if o ≤ k ∧ k < o + vs.length then vs[k - o]? else l[k]? := by
  have h1 : (l.take o).length = o := by rw [List.length_take]; omega
  by_cases a : k < o
  · rw [if_neg (by omega), List.append_assoc, List.getElem?_append_left (by omega), List.getElem?_take]; simp [a]
  · by_cases b : k < o + vs.length
    · rw [if_pos (by omega), List.append_assoc, List.getElem?_append_right (by omega), List.getElem?_append_left (by omega), h1]
    · rw [if_neg (by omega), List.getElem?_append_right (by rw [List.length_append]; omega), List.length_append, h1, List.getElem?_drop]
      congr 1
      omega

/-- f, but at i -/
def upd {α : Type} (f : Nat → α) (i : Nat) (x : α) : Nat → α := fun j => if j = i then x else f j
theorem upd_same {α : Type} (f : Nat → α) (i : Nat) (x : α) : upd f i x i = x := if_pos rfl
theorem upd_other {α : Type} (f : Nat → α) {i j : Nat} (x : α) (h : j ≠ i) : upd f i x j = f j := if_neg h

/-- a store of a sector into a row -/
theorem run_store_sec {w : World} {g n cap i : Nat} {f : Nat → List UInt8} {x : List UInt8} (h : SRow w g n cap f) (hi : i < n) (hx : x.length = 64) :
    ∃ w', (Instr.storeAt 95 (.pointer (some ⟨g, i * 64, none⟩)) (sv x)).run Try.prog w = .ok () w' ∧ SRow w' g n cap (upd f i x) ∧ w.grownBy w' (some g) ∧ w'.heap.size = w.heap.size := by
  obtain ⟨cur, hg, h1, h2, h3, h4⟩ := h
  have hlen : (x.map ov).length = 64 := by rw [List.length_map, hx]
  have hfit : i * 64 + 0 + (x.map ov).length ≤ cur.size := by rw [hlen, h1]; omega
  have hst := run_storeCells_at Try.prog g (i * 64) 95 (x.map ov) 0 cur w hg hfit (ov_one x)
  rw [Nat.add_zero] at hst hfit
  have hrun : (Instr.storeAt 95 (.pointer (some ⟨g, i * 64, none⟩)) (sv x)).run Try.prog w = .ok () (w.setRow g (cur.toList.take (i * 64) ++ x.map ov ++ cur.toList.drop (i * 64 + (x.map ov).length)).toArray) := by
    simp only [Instr.storeAt, Instr.sureAddr, Sem.run_bind, Sem.run_pure, Result.andThen_ok, storeVar, Try.sizeOf95, sv_cells, List.size_toArray, hlen, ne_eq, not_true, if_false]
    rw [hlen] at hst
    exact hst
  refine ⟨_, hrun, ⟨_, setRow_heap w g cur _ _ _ hg, ?_, h2, h3, fun k hk => ?_⟩, ⟨rfl, rfl, rfl, by simp, fun k _ hk => setRow_other w g k _ (fun e => hk (by rw [e]))⟩, by simp⟩
  · simp [hlen]; omega
  · by_cases e : k = i
    · subst e
      rw [upd_same]
      refine ⟨hx, fun j y hy => ?_⟩
      have hj : j < x.length := (List.getElem?_eq_some_iff.1 hy).1
      rw [List.getElem?_toArray, seg_get _ _ _ _ (by simpa using hfit), if_pos (by omega), show k * 64 + j - k * 64 = j by omega, List.getElem?_map, hy]
      rfl
    · rw [upd_other _ _ e]
      refine ⟨(h4 k hk).1, fun j y hy => ?_⟩
      have hj : j < (f k).length := (List.getElem?_eq_some_iff.1 hy).1
      have hj2 := (h4 k hk).1
      rw [List.getElem?_toArray, seg_get _ _ _ _ (by simpa using hfit), if_neg (by rw [hlen]; omega)]
      have := (h4 k hk).2 j y hy
      simpa using this
theorem wpList_store_sec {ops : Array Oper} {rest : List Oper} {o : Oper} {a : Act} {w : World} {Q : Exit → Act → World → Prop} (hgd : o.guard = none) (p y : Operand) (ho : o.op = .store 95 p y) {g n cap i off : Nat} {f : Nat → List UInt8} {x : List UInt8}
    (hp : a.eval p = .pointer (some ⟨g, off, none⟩)) (hoff : off = i * 64) (hy : a.eval y = sv x) (h : SRow w g n cap f) (hi : i < n) (hx : x.length = 64)
    (hK : ∀ w', SRow w' g n cap (upd f i x) → w.grownBy w' (some g) → w'.heap.size = w.heap.size → wpList Try.prog ops Q rest (a.put o.dst undef) w') : wpList Try.prog ops Q (o :: rest) a w := by
  subst hoff
  refine wpList_plain hgd fun K hK' => ?_
  obtain ⟨w', hrun, r1, r2, r3⟩ := run_store_sec h hi hx
  unfold Oper.wp
  simp [execOp, ho, hp, hy, hrun, Result.andThen]
  exact hK' _ _ (hK w' r1 r2 r3)

theorem ov_zero : ov 0 = .int .u8 0 := rfl
theorem zs_cells : (zs.map ov).toArray = Array.replicate 64 (.int .u8 0) := by
  unfold zs
  rw [List.map_replicate, ov_zero]
  rfl
theorem zero_sec (w : World) : (zeroValue 95).run Try.prog w = .ok (sv zs) w := by
  have h : (Try.prog.info? 95).map (fun i => (i.zero, i.size)) = some (some (.agg (Array.replicate 64 (.int .u8 0))), 64) := by kernel_rfl
  cases hq : Try.prog.info? 95 with
  | none => simp [hq] at h
  | some i =>
    simp only [hq, Option.map_some, Option.some.injEq, Prod.mk.injEq] at h
    unfold sv
    rw [zs_cells]
    simp [zeroValue, typeInfo, hq, h.1]
/-- a block that holds one sector -/
theorem srow_box (w : World) (x : List UInt8) (hx : x.length = 64) : SRow (w.alloc (.cells (x.map ov).toArray 95)) w.heap.size 1 1 (fun _ => x) := by
  refine ⟨_, heap_alloc_new w _, by simp [hx], Nat.le_refl _, by decide, fun i hi => ⟨hx, fun j y hy => ?_⟩⟩
  have : i = 0 := by omega
  subst this
  simp [hy]
theorem wpList_alloc_sec {ops : Array Oper} {rest : List Oper} {o : Oper} {a : Act} {w : World} {Q : Exit → Act → World → Prop} (hgd : o.guard = none) (ho : o.op = .alloc 95)
    (hK : ∀ w', SRow w' w.heap.size 1 1 (fun _ => zs) → w.grownBy w' none → w'.heap.size = w.heap.size + 1 → wpList Try.prog ops Q rest (a.put o.dst (.pointer (some ⟨w.heap.size, 0, none⟩))) w') : wpList Try.prog ops Q (o :: rest) a w := by
  refine wpList_plain hgd fun K hK' => ?_
  have hrun : (Instr.alloc 95 true (.tuple #[])).run Try.prog w = .ok (.pointer (some ⟨w.heap.size, 0, none⟩)) (w.alloc (.cells (sv zs).cells 95)) := by
    simp only [Instr.alloc, Sem.run_bind, zero_sec, Result.andThen_ok]
    simp [newVar, newRow, Result.andThen, go_sem]
  unfold Oper.wp
  simp [execOp, ho, hrun, Result.andThen]
  exact hK' _ _ (hK _ (srow_box w zs rfl) (World.grownBy_alloc w _ none) (by simp))
theorem wpList_box_sec {ops : Array Oper} {rest : List Oper} {o : Oper} {a : Act} {w : World} {Q : Exit → Act → World → Prop} (hgd : o.guard = none) (y : Operand) (ho : o.op = .box 95 y) {x : List UInt8} (hy : a.eval y = sv x) (hx : x.length = 64)
    (hK : ∀ w', SRow w' w.heap.size 1 1 (fun _ => x) → w.grownBy w' none → w'.heap.size = w.heap.size + 1 → wpList Try.prog ops Q rest (a.put o.dst (.pointer (some ⟨w.heap.size, 0, none⟩))) w') : wpList Try.prog ops Q (o :: rest) a w := by
  refine wpList_plain hgd fun K hK' => ?_
  have hrun : (Instr.box 95 (sv x)).run Try.prog w = .ok (.pointer (some ⟨w.heap.size, 0, none⟩)) (w.alloc (.cells (sv x).cells 95)) := by
    simp [Instr.box, newVar, newRow, Result.andThen, go_sem]
  unfold Oper.wp
  simp [execOp, ho, hy, hrun, Result.andThen]
  exact hK' _ _ (hK _ (srow_box w x hx) (World.grownBy_alloc w _ none) (by simp))
/-- all of a sector as a slice -/
theorem run_slice_sec (w : World) (g off : Nat) : (Instr.sliceAt 95 (.pointer (some ⟨g, off, none⟩)) none none none).run Try.prog w = .ok (.slice (some ⟨g, off, none⟩) 64 64) w := by
  have h := Try.underlying95
  have hadd : (⟨g, off, none⟩ : Addr).add 0 = ⟨g, off, none⟩ := by unfold Addr.add; split <;> simp_all
  simp [Instr.sliceAt, run_underlying h, Instr.sureAddr, Instr.sliceBounds, Try.sizeOf5, Result.andThen, hadd]
theorem wpList_slice_sec {ops : Array Oper} {rest : List Oper} {o : Oper} {a : Act} {w : World} {Q : Exit → Act → World → Prop} (hgd : o.guard = none) (y : Operand) (ho : o.op = .slice 95 y none none none) {g off : Nat} (hy : a.eval y = .pointer (some ⟨g, off, none⟩))
    (hK : wpList Try.prog ops Q rest (a.put o.dst (.slice (some ⟨g, off, none⟩) 64 64)) w) : wpList Try.prog ops Q (o :: rest) a w := by
  refine wpList_plain hgd fun K hK' => ?_
  unfold Oper.wp
  simp [execOp, ho, hy, run_slice_sec, Result.andThen]
  exact hK' _ _ hK
end Go.Proofs.Ytdkniholeaiemaa.Dm
