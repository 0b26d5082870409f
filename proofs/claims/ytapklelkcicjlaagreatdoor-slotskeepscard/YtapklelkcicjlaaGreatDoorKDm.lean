/-
  Elder texts, one behind the other: DvMem, DvMap, DvLaw, DvNum. No conditions.
-/
import Derived.Test.YtapklelkcicjlaaGreatDoorKOct
import Derived.Test.YtapklelkcicjlaaGreatDoorKRow
import Derived.Test.YtapklelkcicjlaaGreatDoorChecked
import Derived.WalkKit
import Derived.WalkLawsBesides
import Derived.Lib.Hide
import Derived.Laws.CopyRow
import Derived.Laws.Rows
import Derived.Laws.OwnMore
import Derived.Maps.AppendAt
import Derived.Maps.OwnSet
import Derived.Maps.RangeWalk
import Derived.Maps.Ext
/-! Sectors in memory: values of 64 octets, rows of sectors; loads, stores, boxes, slices of them. No conditions. -/
namespace Go.Proofs.YtapklelkcicjlaaGreatDoor.Dm
set_option maxRecDepth 100000
open Go.RowKit Oc
set_option linter.unusedVariables false

theorem bt : ByteTy Tryz.prog 57 5 := ⟨Tryz.underlying57, Tryz.underlying5, by kernel_rfl⟩

/-- nothing but blocks of F has turned, and new blocks -/
structure Chg (F : Nat → Prop) (w w' : World) : Prop where
  os : w'.os = w.os
  tape : w'.tape = w.tape
  output : w'.output = w.output
  size : w.heap.size ≤ w'.heap.size
  block : ∀ k, k < w.heap.size → ¬ F k → w'.heap[k]? = w.heap[k]?
theorem Chg.refl (F : Nat → Prop) (w : World) : Chg F w w := ⟨rfl, rfl, rfl, Nat.le_refl _, fun _ _ _ => rfl⟩
theorem Chg.trans {F G : Nat → Prop} {a b c : World} (h : Chg F a b) (k : Chg G b c) (hg : ∀ i, i < a.heap.size → G i → F i) : Chg F a c :=
  ⟨k.os.trans h.os, k.tape.trans h.tape, k.output.trans h.output, Nat.le_trans h.size k.size, fun i hi hn => (k.block i (Nat.lt_of_lt_of_le hi h.size) (fun x => hn (hg i hi x))).trans (h.block i hi hn)⟩
theorem Chg.mono {F G : Nat → Prop} {a b : World} (h : Chg F a b) (hg : ∀ i, i < a.heap.size → F i → G i) : Chg G a b :=
  ⟨h.os, h.tape, h.output, h.size, fun i hi hn => h.block i hi (fun x => hn (hg i hi x))⟩
theorem Chg.of_grown {F : Nat → Prop} {a b : World} {row : Option Nat} (h : a.grownBy b row) (hr : ∀ k, row = some k → k < a.heap.size → F k) : Chg F a b :=
  ⟨h.os, h.tape, h.output, h.size, fun i hi hn => h.block i hi (fun e => hn (hr i e.symm hi))⟩
theorem Chg.of_below {F : Nat → Prop} {a b : World} (h : Below a.heap.size a b) : Chg F a b := ⟨h.os, h.tape, h.output, h.size, fun i hi _ => h.block i hi⟩
theorem Chg.alloc {F : Nat → Prop} {a b : World} (h : Chg F a b) (o : Obj) : Chg F a (b.alloc o) :=
  h.trans (G := fun _ => False) (Chg.of_grown (World.grownBy_alloc b o none) (fun _ e => by cases e)) (fun _ _ x => x.elim)
theorem Chg.drew {F : Nat → Prop} {a b : World} (h : Chg F a b) : Chg F a b.drew := ⟨h.os, h.tape, h.output, h.size, h.block⟩
theorem Chg.drewN {F : Nat → Prop} {a b : World} (h : Chg F a b) (n : Nat) : Chg F a (b.drewN n) := ⟨h.os, h.tape, h.output, h.size, h.block⟩
theorem Chg.below {F : Nat → Prop} {a b : World} {B : Nat} (h : Chg F a b) (hB : B ≤ a.heap.size) (hF : ∀ k, k < B → ¬ F k) : Below B a b :=
  ⟨h.os, h.tape, h.output, h.size, fun i hi => h.block i (by omega) (hF i hi)⟩
/-- what is had behind a call: what was had, and what is new -/
def Ext (F : Nat → Prop) (w w' : World) (k : Nat) : Prop := F k ∨ (w.heap.size ≤ k ∧ k < w'.heap.size)

/-- a sector as a value -/
def sv (xs : List UInt8) : Value := .agg (xs.map ov).toArray
theorem sv_cells (xs : List UInt8) : (sv xs).cells = (xs.map ov).toArray := rfl
theorem sv_inj {a b : List UInt8} (h : sv a = sv b) : a = b := by
  unfold sv at h
  injection h with h
  have h2 : a.map ov = b.map ov := by simpa using h
  exact (List.map_inj_right (fun x y e => by unfold ov at e; injection e with _ e; exact UInt8.toNat_inj.1 (by omega))).1 h2
/-- the sector of noughts -/
def zs : List UInt8 := List.replicate 64 0

/-- block g is a row of sectors: n of them, f tells which; room for cap -/
def SRow (w : World) (g n cap : Nat) (f : Nat → List UInt8) : Prop :=
  ∃ cur, w.heap[g]? = some (.cells cur 128 (0, 0)) ∧ cur.size = cap * 64 ∧ n ≤ cap ∧ cap ≤ maxLen ∧ ∀ i, i < n → (f i).length = 64 ∧ ∀ j x, (f i)[j]? = some x → cur[i * 64 + j]? = some (ov x)
section
variable {w w' : World} {g n cap : Nat} {f : Nat → List UInt8}
theorem SRow.lt (h : SRow w g n cap f) : g < w.heap.size := by
  obtain ⟨cur, hg, _⟩ := h
  exact (Array.getElem?_eq_some_iff.1 hg).1
theorem SRow.heap (h : SRow w g n cap f) (e : w'.heap[g]? = w.heap[g]?) : SRow w' g n cap f := by
  obtain ⟨cur, hg, r⟩ := h
  exact ⟨cur, e.trans hg, r⟩
theorem SRow.congr {f' : Nat → List UInt8} (h : SRow w g n cap f) (e : ∀ i, i < n → f' i = f i) : SRow w g n cap f' := by
  obtain ⟨cur, hg, h1, h2, h3, h4⟩ := h
  exact ⟨cur, hg, h1, h2, h3, fun i hi => by rw [e i hi]; exact h4 i hi⟩
theorem SRow.len (h : SRow w g n cap f) {i : Nat} (hi : i < n) : (f i).length = 64 := by
  obtain ⟨cur, hg, h1, h2, h3, h4⟩ := h
  exact (h4 i hi).1
theorem SRow.cap_le (h : SRow w g n cap f) : n ≤ cap ∧ cap ≤ maxLen := by
  obtain ⟨cur, hg, h1, h2, h3, h4⟩ := h
  exact ⟨h2, h3⟩
theorem SRow.oct (h : SRow w g n cap f) {i : Nat} (hi : i < n) : Oct w (some ⟨g, i * 64, none⟩) 64 (f i) := by
  obtain ⟨cur, hg, h1, h2, h3, h4⟩ := h
  exact ⟨(h4 i hi).1, fun _ => ⟨g, i * 64, rfl, fun j x hx => by rw [cell_of_row w g _ cur _ (0, 0) hg]; exact (h4 i hi).2 j x hx⟩⟩
end

/-- a load of a sector -/
theorem run_load_sec {w : World} {b off : Nat} {xs : List UInt8} (h : Oct w (some ⟨b, off, none⟩) 64 xs) : (Instr.loadAt 128 (.pointer (some ⟨b, off, none⟩))).run Tryz.prog w = .ok (sv xs) w := by
  have hl : (loadCells ⟨b, off, none⟩ (xs.map ov).length).run Tryz.prog w = .ok (xs.map ov).toArray w :=
    run_loadCells_list (P := Tryz.prog) w ⟨b, off, none⟩ (xs.map ov) (fun j v hv => by
      have hadd : (⟨b, off, none⟩ : Addr).add j = ⟨b, off + j, none⟩ := by unfold Addr.add; split <;> simp_all
      rw [hadd]
      rw [List.getElem?_map] at hv
      obtain ⟨x, hx, rfl⟩ := Option.map_eq_some_iff.1 hv
      obtain ⟨b', off', e, hc⟩ := h.2 (by decide)
      injection e with e
      injection e with e1 e2
      subst e1 e2
      exact hc j x hx)
  rw [List.length_map, h.len] at hl
  simp only [Instr.loadAt, Instr.sureAddr, Sem.run_bind, Sem.run_pure, Result.andThen_ok, loadVar, Tryz.isAgg128, Tryz.sizeOf128, if_true, hl]
  rfl
theorem wpList_load_sec {ops : Array Oper} {rest : List Oper} {o : Oper} {a : Act} {w : World} {Q : Exit → Act → World → Prop} (hgd : o.guard = none) (x : Operand) (ho : o.op = .load 128 x) {b off : Nat} {xs : List UInt8}
    (hx : a.eval x = .pointer (some ⟨b, off, none⟩)) (h : Oct w (some ⟨b, off, none⟩) 64 xs) (hK : wpList Tryz.prog ops Q rest (a.put o.dst (sv xs)) w) : wpList Tryz.prog ops Q (o :: rest) a w := by
  refine wpList_plain hgd fun K hK' => ?_
  unfold Oper.wp
  simp [execOp, ho, hx, run_load_sec h, Result.andThen]
  exact hK' _ _ hK

theorem seg_get (l vs : List Value) (o k : Nat) (h : o + vs.length ≤ l.length) : (l.take o ++ vs ++ l.drop (o + vs.length))[k]? = if o ≤ k ∧ k < o + vs.length then vs[k - o]? else l[k]? := by
  have h1 : (l.take o).length = o := by rw [List.length_take]; omega
  by_cases a : k < o
  · rw [if_neg (by omega), List.append_assoc, List.getElem?_append_left (by omega), List.getElem?_take]; simp [a]
  · by_cases b : k < o + vs.length
    · rw [if_pos (by omega), List.append_assoc, List.getElem?_append_right (by omega), List.getElem?_append_left (by omega), h1]
    · rw [if_neg (by omega), List.getElem?_append_right (by rw [List.length_append]; omega), List.length_append, h1, List.getElem?_drop]
      congr 1
      omega

/-- f, but at i -/
def upd {α : Type} (f : Nat → α) (i : Nat) (x : α) : Nat → α := fun j => if j = i then x else f j
theorem upd_same {α : Type} (f : Nat → α) (i : Nat) (x : α) : upd f i x i = x := if_pos rfl
theorem upd_other {α : Type} (f : Nat → α) {i j : Nat} (x : α) (h : j ≠ i) : upd f i x j = f j := if_neg h

/-- a store of a sector into a row -/
theorem run_store_sec {w : World} {g n cap i : Nat} {f : Nat → List UInt8} {x : List UInt8} (h : SRow w g n cap f) (hi : i < n) (hx : x.length = 64) :
    ∃ w', (Instr.storeAt 128 (.pointer (some ⟨g, i * 64, none⟩)) (sv x)).run Tryz.prog w = .ok () w' ∧ SRow w' g n cap (upd f i x) ∧ w.grownBy w' (some g) ∧ w'.heap.size = w.heap.size := by
  obtain ⟨cur, hg, h1, h2, h3, h4⟩ := h
  have hlen : (x.map ov).length = 64 := by rw [List.length_map, hx]
  have hfit : i * 64 + 0 + (x.map ov).length ≤ cur.size := by rw [hlen, h1]; omega
  have hst := run_storeCells_at Tryz.prog g (i * 64) 128 (x.map ov) 0 cur w hg hfit (ov_one x)
  rw [Nat.add_zero] at hst hfit
  have hrun : (Instr.storeAt 128 (.pointer (some ⟨g, i * 64, none⟩)) (sv x)).run Tryz.prog w = .ok () (w.setRow g (cur.toList.take (i * 64) ++ x.map ov ++ cur.toList.drop (i * 64 + (x.map ov).length)).toArray) := by
    simp only [Instr.storeAt, Instr.sureAddr, Sem.run_bind, Sem.run_pure, Result.andThen_ok, storeVar, Tryz.sizeOf128, sv_cells, List.size_toArray, hlen, ne_eq, not_true, if_false]
    rw [hlen] at hst
    exact hst
  refine ⟨_, hrun, ⟨_, setRow_heap w g cur _ _ _ hg, ?_, h2, h3, fun k hk => ?_⟩, ⟨rfl, rfl, rfl, by simp, fun k _ hk => setRow_other w g k _ (fun e => hk (by rw [e]))⟩, by simp⟩
  · simp [hlen]; omega
  · by_cases e : k = i
    · subst e
      rw [upd_same]
      refine ⟨hx, fun j y hy => ?_⟩
      have hj : j < x.length := (List.getElem?_eq_some_iff.1 hy).1
      rw [List.getElem?_toArray, seg_get _ _ _ _ (by simpa using hfit), if_pos (by omega), show k * 64 + j - k * 64 = j by omega, List.getElem?_map, hy]
      rfl
    · rw [upd_other _ _ e]
      refine ⟨(h4 k hk).1, fun j y hy => ?_⟩
      have hj : j < (f k).length := (List.getElem?_eq_some_iff.1 hy).1
      have hj2 := (h4 k hk).1
      rw [List.getElem?_toArray, seg_get _ _ _ _ (by simpa using hfit), if_neg (by rw [hlen]; omega)]
      have := (h4 k hk).2 j y hy
      simpa using this
theorem wpList_store_sec {ops : Array Oper} {rest : List Oper} {o : Oper} {a : Act} {w : World} {Q : Exit → Act → World → Prop} (hgd : o.guard = none) (p y : Operand) (ho : o.op = .store 128 p y) {g n cap i off : Nat} {f : Nat → List UInt8} {x : List UInt8}
    (hp : a.eval p = .pointer (some ⟨g, off, none⟩)) (hoff : off = i * 64) (hy : a.eval y = sv x) (h : SRow w g n cap f) (hi : i < n) (hx : x.length = 64)
    (hK : ∀ w', SRow w' g n cap (upd f i x) → w.grownBy w' (some g) → w'.heap.size = w.heap.size → wpList Tryz.prog ops Q rest (a.put o.dst undef) w') : wpList Tryz.prog ops Q (o :: rest) a w := by
  subst hoff
  refine wpList_plain hgd fun K hK' => ?_
  obtain ⟨w', hrun, r1, r2, r3⟩ := run_store_sec h hi hx
  unfold Oper.wp
  simp [execOp, ho, hp, hy, hrun, Result.andThen]
  exact hK' _ _ (hK w' r1 r2 r3)

theorem ov_zero : ov 0 = .int .u8 0 := rfl
theorem zs_cells : (zs.map ov).toArray = Array.replicate 64 (.int .u8 0) := by
  unfold zs
  rw [List.map_replicate, ov_zero]
  rfl
theorem zero_sec (w : World) : (zeroValue 128).run Tryz.prog w = .ok (sv zs) w := by
  have h : (Tryz.prog.info? 128).map (fun i => (i.zero, i.size)) = some (some (.agg (Array.replicate 64 (.int .u8 0))), 64) := by kernel_rfl
  cases hq : Tryz.prog.info? 128 with
  | none => simp [hq] at h
  | some i =>
    simp only [hq, Option.map_some, Option.some.injEq, Prod.mk.injEq] at h
    unfold sv
    rw [zs_cells]
    simp [zeroValue, typeInfo, hq, h.1]
/-- a block that holds one sector -/
theorem srow_box (w : World) (x : List UInt8) (hx : x.length = 64) : SRow (w.alloc (.cells (x.map ov).toArray 128)) w.heap.size 1 1 (fun _ => x) := by
  refine ⟨_, heap_alloc_new w _, by simp [hx], Nat.le_refl _, by decide, fun i hi => ⟨hx, fun j y hy => ?_⟩⟩
  have : i = 0 := by omega
  subst this
  simp [hy]
theorem wpList_alloc_sec {ops : Array Oper} {rest : List Oper} {o : Oper} {a : Act} {w : World} {Q : Exit → Act → World → Prop} (hgd : o.guard = none) (ho : o.op = .alloc 128)
    (hK : ∀ w', SRow w' w.heap.size 1 1 (fun _ => zs) → w.grownBy w' none → w'.heap.size = w.heap.size + 1 → wpList Tryz.prog ops Q rest (a.put o.dst (.pointer (some ⟨w.heap.size, 0, none⟩))) w') : wpList Tryz.prog ops Q (o :: rest) a w := by
  refine wpList_plain hgd fun K hK' => ?_
  have hrun : (Instr.alloc 128 true (.tuple #[])).run Tryz.prog w = .ok (.pointer (some ⟨w.heap.size, 0, none⟩)) (w.alloc (.cells (sv zs).cells 128)) := by
    simp only [Instr.alloc, Sem.run_bind, zero_sec, Result.andThen_ok]
    simp [newVar, newRow, Result.andThen, go_sem]
  unfold Oper.wp
  simp [execOp, ho, hrun, Result.andThen]
  exact hK' _ _ (hK _ (srow_box w zs rfl) (World.grownBy_alloc w _ none) (by simp))
theorem wpList_box_sec {ops : Array Oper} {rest : List Oper} {o : Oper} {a : Act} {w : World} {Q : Exit → Act → World → Prop} (hgd : o.guard = none) (y : Operand) (ho : o.op = .box 128 y) {x : List UInt8} (hy : a.eval y = sv x) (hx : x.length = 64)
    (hK : ∀ w', SRow w' w.heap.size 1 1 (fun _ => x) → w.grownBy w' none → w'.heap.size = w.heap.size + 1 → wpList Tryz.prog ops Q rest (a.put o.dst (.pointer (some ⟨w.heap.size, 0, none⟩))) w') : wpList Tryz.prog ops Q (o :: rest) a w := by
  refine wpList_plain hgd fun K hK' => ?_
  have hrun : (Instr.box 128 (sv x)).run Tryz.prog w = .ok (.pointer (some ⟨w.heap.size, 0, none⟩)) (w.alloc (.cells (sv x).cells 128)) := by
    simp [Instr.box, newVar, newRow, Result.andThen, go_sem]
  unfold Oper.wp
  simp [execOp, ho, hy, hrun, Result.andThen]
  exact hK' _ _ (hK _ (srow_box w x hx) (World.grownBy_alloc w _ none) (by simp))
/-- all of a sector as a slice -/
theorem run_slice_sec (w : World) (g off : Nat) : (Instr.sliceAt 128 (.pointer (some ⟨g, off, none⟩)) none none none).run Tryz.prog w = .ok (.slice (some ⟨g, off, none⟩) 64 64) w := by
  have h := Tryz.underlying128
  have hadd : (⟨g, off, none⟩ : Addr).add 0 = ⟨g, off, none⟩ := by unfold Addr.add; split <;> simp_all
  simp [Instr.sliceAt, run_underlying h, Instr.sureAddr, Instr.sliceBounds, Tryz.sizeOf5, Result.andThen, hadd]
theorem wpList_slice_sec {ops : Array Oper} {rest : List Oper} {o : Oper} {a : Act} {w : World} {Q : Exit → Act → World → Prop} (hgd : o.guard = none) (y : Operand) (ho : o.op = .slice 128 y none none none) {g off : Nat} (hy : a.eval y = .pointer (some ⟨g, off, none⟩))
    (hK : wpList Tryz.prog ops Q rest (a.put o.dst (.slice (some ⟨g, off, none⟩) 64 64)) w) : wpList Tryz.prog ops Q (o :: rest) a w := by
  refine wpList_plain hgd fun K hK' => ?_
  unfold Oper.wp
  simp [execOp, ho, hy, run_slice_sec, Result.andThen]
  exact hK' _ _ hK
end Go.Proofs.YtapklelkcicjlaaGreatDoor.Dm

/-! Maps by sectors: of rows of writes, and of those that are rotten. No conditions. -/
namespace Go.Proofs.YtapklelkcicjlaaGreatDoor.Dm
set_option maxRecDepth 100000
open Go.RowKit Oc Go.Maps Go.ChangeMaps Go.MapKept
set_option linter.unusedVariables false

theorem kint : Keyed Tryz.prog 3 := int_keyed Tryz.underlying3
theorem kwf {i : Nat} (h : i ≤ 4096) : (Lit.int .i64 (i : Int)).wf = true := WalkArith.wf_i64 (by omega)
theorem kof {i : Nat} (h : i ≤ 4096) : keyOf Tryz.prog 3 (.int .i64 (i : Int)) = some (.int .i64 (i : Int)) := keyOf_int_mk Tryz.underlying3 (kwf h)
theorem kkey (x : Int) : WideAt.IsKeyLit (.int .i64 x) := trivial
theorem kne {i j : Nat} (h : i ≠ j) : (Lit.int .i64 (i : Int)) ≠ .int .i64 (j : Int) := fun e => h (by injection e with _ e; omega)

/-- a row's place: block, length, room -/
abbrev Pl := Nat × Nat × Nat
def slv : Option Pl → Value
  | none => .slice none 0 0
  | some t => .slice (some ⟨t.1, 0, none⟩) t.2.1 t.2.2
def encT (t : Pl) : DataW Unit := .agg [.lit (.int .i64 t.1), .lit (.int .i64 t.2.1), .lit (.int .i64 t.2.2)]
/-- how an element reads -/
def slElem : Value → Option (DataW Unit × List MemPlace)
  | .slice none n c => if n = 0 ∧ c = 0 then some (.nil, []) else none
  | .slice (some a) n c => if a = ⟨a.block, 0, none⟩ then some (encT (a.block, n, c), []) else none
  | _ => none
theorem slElem_none : slElem (.slice none 0 0) = some (.nil, []) := rfl
theorem slElem_some (t : Pl) : slElem (.slice (some ⟨t.1, 0, none⟩) t.2.1 t.2.2) = some (encT t, []) := by simp [slElem]
theorem encT_inj {s t : Pl} (h : encT s = encT t) : s = t := by
  obtain ⟨a, b, c⟩ := s
  obtain ⟨a', b', c'⟩ := t
  simp only [encT, DataW.agg.injEq, List.cons.injEq, DataW.lit.injEq, Lit.int.injEq, true_and, and_true] at h
  obtain ⟨h1, h2, h3⟩ := h
  have e1 : a = a' := by omega
  have e2 : b = b' := by omega
  have e3 : c = c' := by omega
  rw [e1, e2, e3]
theorem slElem_inv {v : Value} {d : DataW Unit} {ps : List MemPlace} (h : slElem v = some (d, ps)) : (v = slv none ∧ d = .nil) ∨ ∃ t, v = slv (some t) ∧ d = encT t := by
  unfold slElem at h
  split at h
  · split at h
    · rename_i hc
      injection h with h
      injection h with h1 h2
      exact .inl ⟨by rw [hc.1, hc.2]; rfl, h1.symm⟩
    · cases h
  · rename_i a n c
    split at h
    · rename_i hc
      injection h with h
      injection h with h1 h2
      exact .inr ⟨(a.block, n, c), by rw [hc]; rfl, h1.symm⟩
    · cases h
  · cases h

/-- what a map tells of the sectors below n -/
def View (D : DataW Unit) (n : Nat) (g : Nat → Option Pl) : Prop :=
  (∀ i, i < n → (g i = none → Maps.has D (.int .i64 (i : Int)) = false) ∧ ∀ t, g i = some t → ∀ z, D.atKey (.int .i64 (i : Int)) z = encT t) ∧ ∀ x : Int, Maps.has D (.int .i64 x) = true → ∃ i : Nat, x = (i : Int) ∧ i < n
/-- block m is a map of rows by sectors -/
def LM (w : World) (m N n : Nat) (g : Nat → Option Pl) : Prop := ∃ D, w.ownsMap Tryz.prog 3 slElem m N D ∧ View D n g

section
variable {w w' : World} {m N n : Nat} {g : Nat → Option Pl}
theorem LM.lt (h : LM w m N n g) : m < w.heap.size := by obtain ⟨D, h1, _⟩ := h; exact h1.lt
theorem LM.more {N' : Nat} (h : LM w m N n g) (hN : N ≤ N') : LM w m N' n g := by obtain ⟨D, h1, h2⟩ := h; exact ⟨D, h1.mono hN, h2⟩
theorem LM.heap (h : LM w m N n g) (e : w'.heap[m]? = w.heap[m]?) : LM w' m N n g := by
  obtain ⟨D, ⟨es, clock, hb, r⟩, h2⟩ := h
  exact ⟨D, ⟨es, clock, e.trans hb, r⟩, h2⟩
theorem LM.congr {g' : Nat → Option Pl} (h : LM w m N n g) (e : ∀ i, i < n → g' i = g i) : LM w m N n g' := by
  obtain ⟨D, h1, h2, h3⟩ := h
  exact ⟨D, h1, fun i hi => by rw [e i hi]; exact h2 i hi, h3⟩
theorem LM.made (w : World) (n : Nat) : LM (w.alloc (.map #[] 0)) w.heap.size 0 n (fun _ => none) :=
  ⟨_, World.ownsMap_made w _ _ _, ⟨fun i _ => ⟨fun _ => rfl, fun t e => by cases e⟩, fun x h => by cases h⟩⟩
theorem LM.look (h : LM w m N n g) {i : Nat} (hi : i < n) (hn : n ≤ 4096) : (Instr.lookup 122 (.map (some m)) (.int .i64 (i : Int)) false).run Tryz.prog w = .ok (slv (g i)) w := by
  obtain ⟨D, h1, h2, h3⟩ := h
  obtain ⟨v, ps, hrun, hv⟩ := h1.lookup (t := 122) kint Tryz.underlying122 (z := .slice none 0 0) (by kernel_rfl) slElem_none (kof (i := i) (by omega))
  suffices e : v = slv (g i) by rw [hrun, e]
  cases hg : g i with
  | none =>
    rw [Maps.atKey_of_not_has ((h2 i hi).1 hg)] at hv
    rcases slElem_inv hv with ⟨rfl, _⟩ | ⟨t, _, e⟩
    · rfl
    · cases e
  | some t =>
    rw [(h2 i hi).2 t hg] at hv
    rcases slElem_inv hv with ⟨_, e⟩ | ⟨t', rfl, e⟩
    · cases e
    · rw [encT_inj e]
theorem LM.put (h : LM w m N n g) {i : Nat} (hi : i < n) (hn : n ≤ 4096) (hN : N < maxLen) (t : Pl) :
    ∃ w', (Instr.mapUpdate 122 (.map (some m)) (.int .i64 (i : Int)) (slv (some t))).run Tryz.prog w = .ok () w' ∧ LM w' m (N + 1) n (upd g i (some t)) ∧ w.grownBy w' (some m) ∧ w'.heap.size = w.heap.size := by
  obtain ⟨D, h1, h2, h3⟩ := h
  obtain ⟨w', hrun, r1, r2⟩ := h1.store (t := 122) kint Tryz.underlying122 hN (kof (i := i) (by omega)) (slElem_some t)
  refine ⟨w', hrun, ⟨_, r1, fun j hj => ?_, fun x hx => ?_⟩, r2.grown, ?_⟩
  · by_cases e : j = i
    · subst e
      rw [upd_same]
      refine ⟨(fun e => by cases e), fun t' e z => ?_⟩
      rw [← Option.some.inj e]
      exact Maps.atKey_put_same h1.isMap (kkey _) _ _
    · rw [upd_other _ _ e, Maps.has_put_other (kne e)]
      refine ⟨(h2 j hj).1, fun t' e' z => ?_⟩
      rw [Maps.atKey_put_other (kne e)]
      exact (h2 j hj).2 t' e' z
  · by_cases e : x = (i : Int)
    · exact ⟨i, e, hi⟩
    · rw [Maps.has_put_other (fun e' => e (by injection e' with _ e'))] at hx
      exact h3 x hx
  · obtain ⟨_, _, _, _, _, e⟩ := r2
    rw [e]
    simp [setBlock]
theorem LM.clear (h : LM w m N n g) (ty : TypeId) :
    ∃ w', (Builtin.clear_ #[122] ty #[.map (some m)]).run Tryz.prog w = .ok (.tuple #[]) w' ∧ LM w' m N n (fun _ => none) ∧ w.grownBy w' (some m) ∧ w'.heap.size = w.heap.size := by
  obtain ⟨D, ⟨es, clock, hb, F, hs, hD⟩, h2⟩ := h
  have hrun : (Builtin.clear_ #[122] ty #[.map (some m)]).run Tryz.prog w = .ok (.tuple #[]) (setBlock w m (.map #[] clock)) := by
    simp [Builtin.clear_, run_underlying Tryz.underlying122, MapKept.run_getObj_map hb, MapKept.run_setObj_map _ hb, Result.andThen, setBlock]
  refine ⟨_, hrun, ⟨.map [], ⟨#[], clock, heap_setBlock_same hb _, ⟨by simp, ?_, by simp⟩, Nat.zero_le _, rfl⟩, ⟨fun i _ => ⟨fun _ => rfl, fun t e => by cases e⟩, fun x hx => by cases hx⟩⟩, ⟨rfl, rfl, rfl, by simp [setBlock], fun i _ hi => heap_setBlock_other hb _ (fun e => hi (by rw [e]))⟩, by simp [setBlock]⟩
  have := F.stamped
  exact ⟨by simp, by simp⟩
theorem LM.len (h : LM w m N n g) (ty : TypeId) : ∃ L, L ≤ N ∧ (Builtin.len_ #[122] ty #[.map (some m)]).run Tryz.prog w = .ok (.int .i64 ((L : Nat) : Int)) w := by
  obtain ⟨D, h1, _⟩ := h
  exact ⟨_, h1.size_le, h1.len Tryz.underlying122 ty⟩

/-- the map is being gone through: block r counts; left tells who is to come -/
def LR (w : World) (m r N n : Nat) (g : Nat → Option Pl) (left : Nat → Bool) (cnt : Nat) : Prop :=
  ∃ D L, w.ranges Tryz.prog 3 slElem m r N D L cnt ∧ View D n g ∧ (∀ i, i < n → left i = L (.int .i64 (i : Int))) ∧ ∀ i, i < n → left i = true → (g i).isSome = true
variable {r cnt : Nat} {left : Nat → Bool}
theorem LR.lm (h : LR w m r N n g left cnt) : LM w m N n g := by obtain ⟨D, L, h1, h2, _⟩ := h; exact ⟨D, h1.owns, h2⟩
theorem LR.lt (h : LR w m r N n g left cnt) : r < w.heap.size := by obtain ⟨D, L, h1, _⟩ := h; exact h1.lt
theorem LR.ne (h : LR w m r N n g left cnt) : r ≠ m := by obtain ⟨D, L, h1, _⟩ := h; exact h1.ne
theorem LR.left_eq (h : LR w m r N n g left cnt) : w.rangeLeft m r = cnt := by obtain ⟨D, L, h1, _⟩ := h; exact h1.left_eq
theorem LR.heap (h : LR w m r N n g left cnt) (e : w'.heap[m]? = w.heap[m]?) (e2 : w'.heap[r]? = w.heap[r]?) : LR w' m r N n g left cnt := by
  obtain ⟨D, L, ⟨es, clock, since, seen, c0, hb, F, hs, hD, hr, rest⟩, h2⟩ := h
  exact ⟨D, L, ⟨es, clock, since, seen, c0, e.trans hb, F, hs, hD, e2.trans hr, rest⟩, h2⟩
theorem has_view {D : DataW Unit} (h : View D n g) {i : Nat} (hi : i < n) : Maps.has D (.int .i64 (i : Int)) = (g i).isSome := by
  cases hg : g i with
  | none => exact (h.1 i hi).1 hg
  | some t => exact Maps.has_true_of_atKey ((h.1 i hi).2 t hg)
end

section
variable {w : World} {ops : Array Oper} {rest : List Oper} {o : Oper} {a : Act} {Q : Exit → Act → World → Prop} {m r N n cnt : Nat} {g : Nat → Option Pl} {left : Nat → Bool}
theorem wpList_look (hgd : o.guard = none) (x k : Operand) (ho : o.op = .lookup 122 x k false) {i : Nat} {z : Int} (hx : a.eval x = .map (some m)) (hk : a.eval k = .int .i64 z) (hz : z = (i : Int)) (h : LM w m N n g) (hi : i < n) (hn : n ≤ 4096) {v : Value} (hv : slv (g i) = v)
    (hK : wpList Tryz.prog ops Q rest (a.put o.dst v) w) : wpList Tryz.prog ops Q (o :: rest) a w := by
  subst hz hv
  refine wpList_plain hgd fun K hK' => ?_
  unfold Oper.wp
  simp [execOp, ho, hx, hk, h.look hi hn, Result.andThen]
  exact hK' _ _ hK
theorem wpList_put (hgd : o.guard = none) (x k y : Operand) (ho : o.op = .mapUpdate 122 x k y) {i b l c : Nat} {z : Int} (hx : a.eval x = .map (some m)) (hk : a.eval k = .int .i64 z) (hz : z = (i : Int)) (hy : a.eval y = .slice (some ⟨b, 0, none⟩) l c)
    (h : LM w m N n g) (hi : i < n) (hn : n ≤ 4096) (hN : N < maxLen)
    (hK : ∀ w', LM w' m (N + 1) n (upd g i (some (b, l, c))) → w.grownBy w' (some m) → w'.heap.size = w.heap.size → wpList Tryz.prog ops Q rest (a.put o.dst undef) w') : wpList Tryz.prog ops Q (o :: rest) a w := by
  subst hz
  refine wpList_plain hgd fun K hK' => ?_
  obtain ⟨w', hrun, r1, r2, r3⟩ := h.put hi hn hN (b, l, c)
  unfold slv at hrun
  unfold Oper.wp
  simp [execOp, ho, hx, hk, hy, hrun, Result.andThen]
  exact hK' _ _ (hK w' r1 r2 r3)
theorem wpList_clear (hgd : o.guard = none) (x : Operand) (ho : o.op = Op.call { callee := Callee.builtin Builtin.clear, args := #[x], argTypes := #[122] }) (hx : a.eval x = .map (some m)) (h : LM w m N n g)
    (hK : ∀ w', LM w' m N n (fun _ => none) → w.grownBy w' (some m) → w'.heap.size = w.heap.size → wpList Tryz.prog ops Q rest (a.put o.dst (.tuple #[])) w') : wpList Tryz.prog ops Q (o :: rest) a w := by
  refine wpList_plain hgd fun K hK' => ?_
  obtain ⟨w', hrun, r1, r2, r3⟩ := h.clear o.type
  unfold Oper.wp
  simp [execOp, ho, resolve, invoke, builtin, hx, hrun, Result.andThen]
  exact hK' _ _ (hK w' r1 r2 r3)
theorem wpList_len_lm (hgd : o.guard = none) (x : Operand) (ho : o.op = Op.call { callee := Callee.builtin Builtin.len, args := #[x], argTypes := #[122] }) (hx : a.eval x = .map (some m)) (h : LM w m N n g)
    (hK : ∀ L : Nat, L ≤ N → wpList Tryz.prog ops Q rest (a.put o.dst (.int .i64 (L : Int))) w) : wpList Tryz.prog ops Q (o :: rest) a w := by
  refine wpList_plain hgd fun K hK' => ?_
  obtain ⟨L, hL, hrun⟩ := h.len o.type
  unfold Oper.wp
  simp [execOp, ho, resolve, invoke, builtin, hx, hrun, Result.andThen]
  exact hK' _ _ (hK L hL)
theorem wpList_range_lm (hgd : o.guard = none) (x : Operand) (ho : o.op = Op.range 122 x) (hx : a.eval x = .map (some m)) (h : LM w m N n g)
    (hK : ∀ w' cnt, LR w' m w.heap.size N n g (fun i => (g i).isSome) cnt → cnt ≤ N → w.grownBy w' none → w'.heap.size = w.heap.size + 1 → wpList Tryz.prog ops Q rest (a.put o.dst (.pointer (some ⟨w.heap.size, 0, none⟩))) w') : wpList Tryz.prog ops Q (o :: rest) a w := by
  obtain ⟨D, h1, h2⟩ := h
  refine wpList_range_own _ hgd x 122 ho 3 _ kint Tryz.underlying122 slElem m N D hx h1 (fun w' hr hg hs => hK w' _ ⟨D, _, hr, h2, fun i hi => (has_view h2 hi).symm, fun i _ e => e⟩ h1.size_le hg hs)
theorem wpList_next_lm (hgd : o.guard = none) (it : Operand) (ho : o.op = Op.next it false) (hit : a.eval it = .pointer (some ⟨r, 0, none⟩)) (h : LR w m r N n g left cnt)
    (hDone : (∀ i, i < n → left i = false) → wpList Tryz.prog ops Q rest (a.put o.dst (.tuple #[.bool false])) w)
    (hMore : ∀ (i : Nat) (t : Pl) (w' : World) (cnt' : Nat), i < n → left i = true → g i = some t → LR w' m r N n g (upd left i false) cnt' → cnt' < cnt → w.grownBy w' (some r) → w'.heap.size = w.heap.size →
      (Instr.entry (.pointer (some ⟨r, 0, none⟩))).run Tryz.prog w' = .ok (.tuple #[.int .i64 (i : Int), .slice (some ⟨t.1, 0, none⟩) t.2.1 t.2.2]) w' → wpList Tryz.prog ops Q rest (a.put o.dst (.tuple #[.bool true, .int .i64 (i : Int), .slice (some ⟨t.1, 0, none⟩) t.2.1 t.2.2])) w') :
    wpList Tryz.prog ops Q (o :: rest) a w := by
  obtain ⟨D, L, h1, h2, h3, h4⟩ := h
  refine wpList_next_ranges (α := Int) (β := Option Pl) w hgd it ho 3 kint slElem (Value.int .i64) slv (fun key kl hk => by obtain ⟨x, rfl, _⟩ := Maps.keyOf_int_inv Tryz.underlying3 hk; exact ⟨x, rfl⟩)
    (fun v y hv => by
      obtain ⟨d, ps⟩ := y
      rcases slElem_inv hv with ⟨e, _⟩ | ⟨t, e, _⟩
      · exact ⟨none, e⟩
      · exact ⟨some t, e⟩) m r N D L cnt hit h1 (fun _ hl => hDone (fun i hi => by rw [h3 i hi, hl])) ?_
  intro x c kl y w' cnt' hkey hlk hv hat hrg hlt hg hs hen
  obtain ⟨x', ex, rfl, hwf⟩ := Maps.keyOf_int_inv Tryz.underlying3 hkey
  injection ex with _ ex
  subst ex
  obtain ⟨i, rfl, hi⟩ := h2.2 x (Maps.has_true_of_atKey hat)
  have hli : left i = true := by rw [h3 i hi]; exact hlk
  obtain ⟨t, ht⟩ := Option.isSome_iff_exists.1 (h4 i hi hli)
  have hy := (h2.1 i hi).2 t ht .nil
  rw [hat .nil] at hy
  obtain ⟨yd, yp⟩ := y
  dsimp only at hy
  subst hy
  have hc : c = some t := by
    rcases slElem_inv hv with ⟨_, e⟩ | ⟨t', e, e2⟩
    · cases e
    · rw [← encT_inj e2] at e
      cases c with
      | none => cases e
      | some c =>
        obtain ⟨c1, c2, c3⟩ := c
        obtain ⟨t1, t2, t3⟩ := t
        simp only [slv, Value.slice.injEq, Option.some.injEq, Addr.mk.injEq, and_true] at e
        obtain ⟨e1, e2, e3⟩ := e
        rw [e1, e2, e3]
  subst hc
  refine hMore i t w' cnt' hi hli ht ⟨D, _, hrg, h2, fun j hj => ?_, fun j hj e => ?_⟩ hlt hg hs hen
  · by_cases e : j = i
    · subst e
      rw [upd_same, WideAt.sameKey_self (kkey _)]
      simp
    · rw [upd_other _ _ e, Maps.sameKey_ne (kne e), h3 j hj]
      simp
  · by_cases e' : j = i
    · subst e'; rw [upd_same] at e; cases e
    · rw [upd_other _ _ e'] at e; exact h4 j hj e
end

/-- block r is the set of those that are rotten -/
def RM (w : World) (r N n : Nat) (q : Nat → Bool) : Prop := ∃ D : DataW Unit, w.ownsMap Tryz.prog 3 unitElem r N D ∧ ∀ i, i < n → Maps.has D (.int .i64 (i : Int)) = q i
section
variable {w w' : World} {r N n : Nat} {q : Nat → Bool}
theorem RM.lt (h : RM w r N n q) : r < w.heap.size := by obtain ⟨D, h1, _⟩ := h; exact h1.lt
theorem RM.more {N' : Nat} (h : RM w r N n q) (hN : N ≤ N') : RM w r N' n q := by obtain ⟨D, h1, h2⟩ := h; exact ⟨D, h1.mono hN, h2⟩
theorem RM.heap (h : RM w r N n q) (e : w'.heap[r]? = w.heap[r]?) : RM w' r N n q := by
  obtain ⟨D, ⟨es, clock, hb, r⟩, h2⟩ := h
  exact ⟨D, ⟨es, clock, e.trans hb, r⟩, h2⟩
theorem RM.congr {q' : Nat → Bool} (h : RM w r N n q) (e : ∀ i, i < n → q' i = q i) : RM w r N n q' := by
  obtain ⟨D, h1, h2⟩ := h
  exact ⟨D, h1, fun i hi => by rw [e i hi]; exact h2 i hi⟩
theorem RM.made (w : World) (n : Nat) : RM (w.alloc (.map #[] 0)) w.heap.size 0 n (fun _ => false) := ⟨_, World.ownsMap_made w _ _ _, fun i _ => rfl⟩
theorem zero_unit (w : World) : (zeroValue 137).run Tryz.prog w = .ok (.agg #[]) w := by kernel_rfl
theorem RM.look (h : RM w r N n q) {i : Nat} (hi : i < n) (hn : n ≤ 4096) : (Instr.lookup 123 (.map (some r)) (.int .i64 (i : Int)) true).run Tryz.prog w = .ok (.tuple #[.agg #[], .bool (q i)]) w := by
  obtain ⟨D, h1, h2⟩ := h
  obtain ⟨v, ps, hrun, hv⟩ := h1.look_ok (t := 123) kint Tryz.underlying123 (zero_unit w) unitElem_mk (kof (i := i) (by omega))
  obtain ⟨rfl, _⟩ := unitElem_inv hv
  rw [hrun, h2 i hi]
theorem RM.put (h : RM w r N n q) {i : Nat} (hi : i < n) (hn : n ≤ 4096) (hN : N < maxLen) :
    ∃ w', (Instr.mapUpdate 123 (.map (some r)) (.int .i64 (i : Int)) (.agg #[])).run Tryz.prog w = .ok () w' ∧ RM w' r (N + 1) n (upd q i true) ∧ w.grownBy w' (some r) := by
  obtain ⟨D, h1, h2⟩ := h
  obtain ⟨w', hrun, r1, r2⟩ := h1.update (t := 123) kint Tryz.underlying123 hN (kof (i := i) (by omega)) unitElem_mk
  refine ⟨w', hrun, ⟨_, r1, fun j hj => ?_⟩, r2⟩
  by_cases e : j = i
  · subst e
    rw [upd_same]
    exact Maps.has_put_same h1.isMap (kkey _) _
  · rw [upd_other _ _ e, Maps.has_put_other (kne e)]
    exact h2 j hj
theorem RM.drop (h : RM w r N n q) {i : Nat} (hi : i < n) (hn : n ≤ 4096) (ty : TypeId) :
    ∃ w', (Builtin.delete_ #[123, 3] ty #[.map (some r), .int .i64 (i : Int)]).run Tryz.prog w = .ok (.tuple #[]) w' ∧ RM w' r N n (upd q i false) ∧ w.grownBy w' (some r) := by
  obtain ⟨D, h1, h2⟩ := h
  obtain ⟨w', hrun, r1, r2⟩ := h1.drop (t := 123) kint Tryz.underlying123 (kof (i := i) (by omega)) ty
  refine ⟨w', hrun, ⟨_, r1, fun j hj => ?_⟩, r2.grown⟩
  by_cases e : j = i
  · subst e
    rw [upd_same]
    exact Maps.has_del_same
  · rw [upd_other _ _ e, Maps.has_del_other (kne e)]
    exact h2 j hj
end
section
variable {w : World} {ops : Array Oper} {rest : List Oper} {o : Oper} {a : Act} {Q : Exit → Act → World → Prop} {r N n : Nat} {q : Nat → Bool}
theorem wpList_look_rm (hgd : o.guard = none) (x k : Operand) (ho : o.op = .lookup 123 x k true) {i : Nat} {z : Int} (hx : a.eval x = .map (some r)) (hk : a.eval k = .int .i64 z) (hz : z = (i : Int)) (h : RM w r N n q) (hi : i < n) (hn : n ≤ 4096) {b : Bool} (hb : q i = b)
    (hK : wpList Tryz.prog ops Q rest (a.put o.dst (.tuple #[.agg #[], .bool b])) w) : wpList Tryz.prog ops Q (o :: rest) a w := by
  subst hz hb
  refine wpList_plain hgd fun K hK' => ?_
  unfold Oper.wp
  simp [execOp, ho, hx, hk, h.look hi hn, Result.andThen]
  exact hK' _ _ hK
theorem wpList_put_rm (hgd : o.guard = none) (x k y : Operand) (ho : o.op = .mapUpdate 123 x k y) {i : Nat} {z : Int} (hx : a.eval x = .map (some r)) (hk : a.eval k = .int .i64 z) (hz : z = (i : Int)) (hy : a.eval y = .agg #[])
    (h : RM w r N n q) (hi : i < n) (hn : n ≤ 4096) (hN : N < maxLen) (hK : ∀ w', RM w' r (N + 1) n (upd q i true) → w.grownBy w' (some r) → wpList Tryz.prog ops Q rest (a.put o.dst undef) w') : wpList Tryz.prog ops Q (o :: rest) a w := by
  subst hz
  refine wpList_plain hgd fun K hK' => ?_
  obtain ⟨w', hrun, r1, r2⟩ := h.put hi hn hN
  unfold Oper.wp
  simp [execOp, ho, hx, hk, hy, hrun, Result.andThen]
  exact hK' _ _ (hK w' r1 r2)
theorem wpList_drop_rm (hgd : o.guard = none) (x k : Operand) (ho : o.op = Op.call { callee := Callee.builtin Builtin.delete, args := #[x, k], argTypes := #[123, 3] }) {i : Nat} {z : Int} (hx : a.eval x = .map (some r)) (hk : a.eval k = .int .i64 z) (hz : z = (i : Int))
    (h : RM w r N n q) (hi : i < n) (hn : n ≤ 4096) (hK : ∀ w', RM w' r N n (upd q i false) → w.grownBy w' (some r) → wpList Tryz.prog ops Q rest (a.put o.dst (.tuple #[])) w') : wpList Tryz.prog ops Q (o :: rest) a w := by
  subst hz
  refine wpList_plain hgd fun K hK' => ?_
  obtain ⟨w', hrun, r1, r2⟩ := h.drop hi hn o.type
  unfold Oper.wp
  simp [execOp, ho, resolve, invoke, builtin, hx, hk, hrun, Result.andThen]
  exact hK' _ _ (hK w' r1 r2)
end
end Go.Proofs.YtapklelkcicjlaaGreatDoor.Dm

/-! The laws at the operations, each for its operation alone. No conditions. -/
namespace Go.Proofs.YtapklelkcicjlaaGreatDoor.Dm
set_option maxRecDepth 100000
open Go.RowKit Oc
set_option linter.unusedVariables false
section
variable {ops : Array Oper} {rest : List Oper} {a : Act} {w : World} {Q : Exit → Act → World → Prop} {dst : Option Tmp} {ty : TypeId} {pos : String} {af : Array Edge} {x y k : Operand} {b off i n m r N cap cnt : Nat} {z : Int} {xs : List UInt8} {f : Nat → List UInt8} {g : Nat → Option Pl} {q left : Nat → Bool}
theorem L_load (hx : a.eval x = .pointer (some ⟨b, off, none⟩)) (h : Oct w (some ⟨b, off, none⟩) 64 xs) (hK : wpList Tryz.prog ops Q rest (a.put dst (sv xs)) w) : wpList Tryz.prog ops Q (⟨dst, .load 128 x, ty, pos, af, none⟩ :: rest) a w := wpList_load_sec rfl x rfl hx h hK
theorem L_store (hp : a.eval x = .pointer (some ⟨b, i * 64, none⟩)) (hy : a.eval y = sv xs) (h : SRow w b n cap f) (hi : i < n) (hx : xs.length = 64)
    (hK : ∀ w', SRow w' b n cap (upd f i xs) → w.grownBy w' (some b) → w'.heap.size = w.heap.size → wpList Tryz.prog ops Q rest (a.put dst undef) w') : wpList Tryz.prog ops Q (⟨dst, .store 128 x y, ty, pos, af, none⟩ :: rest) a w := wpList_store_sec rfl x y rfl hp rfl hy h hi hx hK
theorem L_alloc (hK : ∀ w', SRow w' w.heap.size 1 1 (fun _ => zs) → w.grownBy w' none → w'.heap.size = w.heap.size + 1 → wpList Tryz.prog ops Q rest (a.put dst (.pointer (some ⟨w.heap.size, 0, none⟩))) w') : wpList Tryz.prog ops Q (⟨dst, .alloc 128, ty, pos, af, none⟩ :: rest) a w := wpList_alloc_sec rfl rfl hK
theorem L_box (hy : a.eval y = sv xs) (hx : xs.length = 64)
    (hK : ∀ w', SRow w' w.heap.size 1 1 (fun _ => xs) → w.grownBy w' none → w'.heap.size = w.heap.size + 1 → wpList Tryz.prog ops Q rest (a.put dst (.pointer (some ⟨w.heap.size, 0, none⟩))) w') : wpList Tryz.prog ops Q (⟨dst, .box 128 y, ty, pos, af, none⟩ :: rest) a w := wpList_box_sec rfl y rfl hy hx hK
theorem L_slice (hy : a.eval y = .pointer (some ⟨b, off, none⟩)) (hK : wpList Tryz.prog ops Q rest (a.put dst (.slice (some ⟨b, off, none⟩) 64 64)) w) : wpList Tryz.prog ops Q (⟨dst, .slice 128 y none none none, ty, pos, af, none⟩ :: rest) a w := wpList_slice_sec rfl y rfl hy hK
theorem L_look {v : Value} (hx : a.eval x = .map (some m)) (hk : a.eval k = .int .i64 (i : Int)) (h : LM w m N n g) (hi : i < n) (hn : n ≤ 4096) (hv : slv (g i) = v) (hK : wpList Tryz.prog ops Q rest (a.put dst v) w) :
    wpList Tryz.prog ops Q (⟨dst, .lookup 122 x k false, ty, pos, af, none⟩ :: rest) a w := wpList_look rfl x k rfl hx hk rfl h hi hn hv hK
theorem L_put {c l : Nat} (hx : a.eval x = .map (some m)) (hk : a.eval k = .int .i64 (i : Int)) (hy : a.eval y = .slice (some ⟨b, 0, none⟩) l c) (h : LM w m N n g) (hi : i < n) (hn : n ≤ 4096) (hN : N < maxLen)
    (hK : ∀ w', LM w' m (N + 1) n (upd g i (some (b, l, c))) → w.grownBy w' (some m) → w'.heap.size = w.heap.size → wpList Tryz.prog ops Q rest (a.put dst undef) w') : wpList Tryz.prog ops Q (⟨dst, .mapUpdate 122 x k y, ty, pos, af, none⟩ :: rest) a w := wpList_put rfl x k y rfl hx hk rfl hy h hi hn hN hK
theorem L_clear (hx : a.eval x = .map (some m)) (h : LM w m N n g) (hK : ∀ w', LM w' m N n (fun _ => none) → w.grownBy w' (some m) → w'.heap.size = w.heap.size → wpList Tryz.prog ops Q rest (a.put dst (.tuple #[])) w') :
    wpList Tryz.prog ops Q (⟨dst, Op.call { callee := Callee.builtin Builtin.clear, args := #[x], argTypes := #[122] }, ty, pos, af, none⟩ :: rest) a w := wpList_clear rfl x rfl hx h hK
theorem L_len (hx : a.eval x = .map (some m)) (h : LM w m N n g) (hK : ∀ L : Nat, L ≤ N → wpList Tryz.prog ops Q rest (a.put dst (.int .i64 (L : Int))) w) :
    wpList Tryz.prog ops Q (⟨dst, Op.call { callee := Callee.builtin Builtin.len, args := #[x], argTypes := #[122] }, ty, pos, af, none⟩ :: rest) a w := wpList_len_lm rfl x rfl hx h hK
theorem L_range (hx : a.eval x = .map (some m)) (h : LM w m N n g)
    (hK : ∀ w' cnt, LR w' m w.heap.size N n g (fun i => (g i).isSome) cnt → cnt ≤ N → w.grownBy w' none → w'.heap.size = w.heap.size + 1 → wpList Tryz.prog ops Q rest (a.put dst (.pointer (some ⟨w.heap.size, 0, none⟩))) w') :
    wpList Tryz.prog ops Q (⟨dst, Op.range 122 x, ty, pos, af, none⟩ :: rest) a w := wpList_range_lm rfl x rfl hx h hK
theorem L_next (hit : a.eval x = .pointer (some ⟨r, 0, none⟩)) (h : LR w m r N n g left cnt)
    (hDone : (∀ i, i < n → left i = false) → wpList Tryz.prog ops Q rest (a.put dst (.tuple #[.bool false])) w)
    (hMore : ∀ (i : Nat) (t : Pl) (w' : World) (cnt' : Nat), i < n → left i = true → g i = some t → LR w' m r N n g (upd left i false) cnt' → cnt' < cnt → w.grownBy w' (some r) → w'.heap.size = w.heap.size →
      (Instr.entry (.pointer (some ⟨r, 0, none⟩))).run Tryz.prog w' = .ok (.tuple #[.int .i64 (i : Int), .slice (some ⟨t.1, 0, none⟩) t.2.1 t.2.2]) w' → wpList Tryz.prog ops Q rest (a.put dst (.tuple #[.bool true, .int .i64 (i : Int), .slice (some ⟨t.1, 0, none⟩) t.2.1 t.2.2])) w') :
    wpList Tryz.prog ops Q (⟨dst, Op.next x false, ty, pos, af, none⟩ :: rest) a w := wpList_next_lm rfl x rfl hit h hDone hMore
theorem L_lookr {c : Bool} (hx : a.eval x = .map (some r)) (hk : a.eval k = .int .i64 (i : Int)) (h : RM w r N n q) (hi : i < n) (hn : n ≤ 4096) (hb : q i = c) (hK : wpList Tryz.prog ops Q rest (a.put dst (.tuple #[.agg #[], .bool c])) w) :
    wpList Tryz.prog ops Q (⟨dst, .lookup 123 x k true, ty, pos, af, none⟩ :: rest) a w := wpList_look_rm rfl x k rfl hx hk rfl h hi hn hb hK
theorem L_putr (hx : a.eval x = .map (some r)) (hk : a.eval k = .int .i64 (i : Int)) (hy : a.eval y = .agg #[]) (h : RM w r N n q) (hi : i < n) (hn : n ≤ 4096) (hN : N < maxLen)
    (hK : ∀ w', RM w' r (N + 1) n (upd q i true) → w.grownBy w' (some r) → wpList Tryz.prog ops Q rest (a.put dst undef) w') : wpList Tryz.prog ops Q (⟨dst, .mapUpdate 123 x k y, ty, pos, af, none⟩ :: rest) a w := wpList_put_rm rfl x k y rfl hx hk rfl hy h hi hn hN hK
theorem L_dropr (hx : a.eval x = .map (some r)) (hk : a.eval k = .int .i64 (i : Int)) (h : RM w r N n q) (hi : i < n) (hn : n ≤ 4096)
    (hK : ∀ w', RM w' r N n (upd q i false) → w.grownBy w' (some r) → wpList Tryz.prog ops Q rest (a.put dst (.tuple #[])) w') :
    wpList Tryz.prog ops Q (⟨dst, Op.call { callee := Callee.builtin Builtin.delete, args := #[x, k], argTypes := #[123, 3] }, ty, pos, af, none⟩ :: rest) a w := wpList_drop_rm rfl x k rfl hx hk rfl h hi hn hK
end
end Go.Proofs.YtapklelkcicjlaaGreatDoor.Dm

/-! Powers and sectors as the document tells of them: plain facts. No conditions. -/
namespace Go.Proofs.YtapklelkcicjlaaGreatDoor.Dm
set_option maxRecDepth 100000
open Go.RowKit Oc
set_option linter.unusedVariables false

/-- a sector: what is fixed, its loose writes, whether it is rotten -/
structure Sec where
  fixed : List UInt8
  loose : List (List UInt8)
  rotten : Bool
def Sec.stands (s : Sec) : List UInt8 := if s.loose = [] then s.fixed else s.loose.getD (s.loose.length - 1) []
theorem Sec.stands_fixed {s : Sec} (h : s.loose = []) : s.stands = s.fixed := if_pos h
theorem Sec.stands_loose {s : Sec} (h : s.loose ≠ []) : s.stands = s.loose.getD (s.loose.length - 1) [] := if_neg h
/-- a power -/
structure PS where
  off : Bool
  fuse : Option Nat
  done : Nat
def PS.spend (p : PS) : PS := match p.fuse with
  | some 0 => { p with off := true }
  | some (k + 1) => { p with fuse := some k, done := p.done + 1 }
  | none => { p with done := p.done + 1 }
/-- does it go? -/
def PS.goes (p : PS) : Bool := p.fuse == some 0
def fz : Option Nat → Int
  | none => -1
  | some k => k
theorem PS.done_le (p : PS) : p.spend.done ≤ p.done + 1 := by unfold PS.spend; split <;> simp
theorem PS.done_ge (p : PS) : p.done ≤ p.spend.done := by unfold PS.spend; split <;> simp
theorem PS.spend_goes {p : PS} (h : p.goes = true) : p.spend = { p with off := true } := by
  obtain ⟨off, fuse, done⟩ := p
  unfold PS.goes at h
  simp at h
  subst h
  rfl
end Go.Proofs.YtapklelkcicjlaaGreatDoor.Dm
