/-
  Elder texts, one behind the other: DvLoNum, DvLoose, DvLoose2, DvKept, DvCrash. No conditions.
-/
import Derived.Test.YtikbbikcacoobaaDoorKDw
import Derived.Test.YtikbbikcacoobaaDoorShelf
import Derived.Shelf.SlSortCmp.WholeK
import Derived.Shelf.SlMaps.Clone
/-! Which sectors are loose, as a row; rows that are sorted: plain facts. No conditions. -/
namespace Go.Proofs.YtikbbikcacoobaaDoor.Dw
set_option maxRecDepth 100000
open Go.RowKit Oc Dm
set_option linter.unusedVariables false
/-- the loose sectors, rising, and how many writes each has -/
def looseOf (n : Nat) (S : Nat → Sec) : List (Nat × Nat) := (List.range n).filterMap fun i => if (S i).loose = [] then none else some (i, (S i).loose.length)
theorem mem_loose {n : Nat} {S : Nat → Sec} {x : Nat × Nat} : x ∈ looseOf n S ↔ x.1 < n ∧ (S x.1).loose ≠ [] ∧ x.2 = (S x.1).loose.length := by
  unfold looseOf
  rw [List.mem_filterMap]
  constructor
  · rintro ⟨i, hi, e⟩
    rw [List.mem_range] at hi
    by_cases h : (S i).loose = []
    · rw [if_pos h] at e; cases e
    · rw [if_neg h] at e
      rw [← Option.some.inj e]
      exact ⟨hi, h, rfl⟩
  · rintro ⟨h1, h2, h3⟩
    refine ⟨x.1, List.mem_range.2 h1, ?_⟩
    rw [if_neg h2, ← h3]
theorem loose_rising (n : Nat) (S : Nat → Sec) : (looseOf n S).Pairwise (fun x y => x.1 < y.1) := by
  unfold looseOf
  rw [List.pairwise_filterMap]
  refine List.Pairwise.imp ?_ (List.pairwise_lt_range (n := n))
  intro a b hab x hx y hy
  by_cases h : (S a).loose = []
  · rw [if_pos h] at hx; cases hx
  · by_cases h2 : (S b).loose = []
    · rw [if_pos h2] at hy; cases hy
    · rw [if_neg h] at hx
      rw [if_neg h2] at hy
      rw [← Option.some.inj hx, ← Option.some.inj hy]
      exact hab
theorem loose_len (n : Nat) (S : Nat → Sec) : (looseOf n S).length ≤ n := by
  unfold looseOf
  have := List.length_filterMap_le (fun i => if (S i).loose = [] then none else some (i, (S i).loose.length)) (List.range n)
  simpa using this
theorem strict_unique : ∀ (a b : List (Nat × Nat)), a.Pairwise (fun x y => x.1 < y.1) → b.Pairwise (fun x y => x.1 < y.1) → (∀ x, x ∈ a ↔ x ∈ b) → a = b
  | [], [], _, _, _ => rfl
  | [], y :: b, _, _, h => absurd ((h y).2 (List.mem_cons_self ..)) List.not_mem_nil
  | x :: a, [], _, _, h => absurd ((h x).1 (List.mem_cons_self ..)) List.not_mem_nil
  | x :: a, y :: b, ha, hb, h => by
    obtain ⟨h1, h2⟩ := List.pairwise_cons.1 ha
    obtain ⟨h3, h4⟩ := List.pairwise_cons.1 hb
    have hxy : x = y := by
      rcases List.mem_cons.1 ((h x).1 (List.mem_cons_self ..)) with e | hx
      · exact e
      · rcases List.mem_cons.1 ((h y).2 (List.mem_cons_self ..)) with e | hy
        · exact e.symm
        · have := h3 x hx
          have := h1 y hy
          omega
    subst hxy
    rw [strict_unique a b h2 h4 (fun z => ?_)]
    constructor
    · intro hz
      rcases List.mem_cons.1 ((h z).1 (List.mem_cons_of_mem _ hz)) with e | hz2
      · have := h1 z hz; rw [e] at this; omega
      · exact hz2
    · intro hz
      rcases List.mem_cons.1 ((h z).2 (List.mem_cons_of_mem _ hz)) with e | hz2
      · have := h3 z hz; rw [e] at this; omega
      · exact hz2
theorem sorted_unique {l ps T : List (Nat × Nat)} (hm : ∀ x, x ∈ ps ↔ x ∈ T) (hd : ps.Pairwise (fun x y => x.1 ≠ y.1)) (hT : T.Pairwise (fun x y => x.1 < y.1)) (hp : l.Perm ps) (hs : l.Pairwise (fun x y => ¬ y.1 < x.1)) : l = T := by
  have h1 : l.Pairwise (fun x y => x.1 ≠ y.1) := (hp.pairwise_iff (fun {a b} h => Ne.symm h)).2 hd
  have h2 : l.Pairwise (fun x y => x.1 < y.1) := (hs.and h1).imp (fun ⟨a, b⟩ => by omega)
  exact strict_unique l T h2 hT (fun x => hp.mem_iff.trans (hm x))
section
variable {w : World} {F : Nat → Prop} {D p n N : Nat} {S : Nat → Sec} {rd wr fx m r : Nat} {g : Nat → Option Pl}
/-- those that have come -/
structure Coll (n : Nat) (S : Nat → Sec) (g : Nat → Option Pl) (left : Nat → Bool) (ps : List (Nat × Nat)) : Prop where
  mem : ∀ x, x ∈ ps ↔ x.1 < n ∧ (g x.1).isSome = true ∧ left x.1 = false ∧ x.2 = (S x.1).loose.length
  apart : ps.Pairwise (fun x y => x.1 ≠ y.1)
theorem Coll.start : Coll n S g (fun i => (g i).isSome) [] := ⟨fun x => ⟨(fun h => by cases h), fun ⟨_, h2, h3, _⟩ => by rw [h2] at h3; cases h3⟩, List.Pairwise.nil⟩
theorem Coll.step {left : Nat → Bool} {ps : List (Nat × Nat)} (h : Coll n S g left ps) {i : Nat} (hi : i < n) (hg : (g i).isSome = true) (hl : left i = true) : Coll n S g (upd left i false) (ps ++ [(i, (S i).loose.length)]) := by
  refine ⟨fun x => ?_, ?_⟩
  · rw [List.mem_append, List.mem_singleton, h.mem]
    constructor
    · rintro (⟨a, b, c, d⟩ | e)
      · refine ⟨a, b, ?_, d⟩
        unfold upd
        split
        · rfl
        · exact c
      · subst e
        exact ⟨hi, hg, upd_same _ _ _, rfl⟩
    · rintro ⟨a, b, c, d⟩
      by_cases e : x.1 = i
      · right
        obtain ⟨x1, x2⟩ := x
        dsimp only at e d
        subst e
        rw [d]
      · rw [upd_other _ _ e] at c
        exact .inl ⟨a, b, c, d⟩
  · rw [List.pairwise_append]
    refine ⟨h.apart, List.pairwise_singleton _ _, fun x hx y hy => ?_⟩
    rw [List.mem_singleton] at hy
    subst hy
    intro e
    have := ((h.mem x).1 hx).2.2.1
    rw [e, hl] at this
    cases this
theorem Coll.end_ {left : Nat → Bool} {ps : List (Nat × Nat)} (h : Coll n S g left ps) (H : DvAt w F D p n N S rd wr fx m r g) (hl : ∀ i, i < n → left i = false) (x : Nat × Nat) : x ∈ ps ↔ x ∈ looseOf n S := by
  rw [h.mem, mem_loose]
  constructor
  · rintro ⟨a, b, _, d⟩
    obtain ⟨t, ht⟩ := Option.isSome_iff_exists.1 b
    exact ⟨a, (H.some_ _ t a ht).1, d⟩
  · rintro ⟨a, b, d⟩
    refine ⟨a, ?_, hl _ a, d⟩
    cases hg : g x.1 with
    | none => exact absurd (H.none_ _ a hg) b
    | some t => rfl
end
/-! the sort's words -/
def encL (x : Nat × Nat) : List Value := [.int .i64 ((x.1 % 4096 : Nat) : Int), .int .i64 (x.2 : Int)]
def cmpL (x y : Nat × Nat) : Int := ((x.1 % 4096 : Nat) : Int) - ((y.1 % 4096 : Nat) : Int)
end Go.Proofs.YtikbbikcacoobaaDoor.Dw

/-! Contract of Loose. No conditions. -/
namespace Go.Proofs.YtikbbikcacoobaaDoor.Dw
set_option maxRecDepth 100000
open Go.RowKit Oc Dm Go.Sort Go.Lib
set_option linter.unusedVariables false

/-- the slice at A reads as loose sectors -/
def Lo (w : World) (A : Option Addr) (k : Nat) (ps : List (Nat × Nat)) : Prop :=
  ps.length = k ∧ (0 < k → ∃ b, A = some ⟨b, 0, none⟩ ∧ ∀ (j : Nat) (x : Nat × Nat), ps[j]? = some x → w.cell? ⟨b, j * 2, none⟩ = some (.int .i64 (x.1 : Int)) ∧ w.cell? ⟨b, j * 2 + 1, none⟩ = some (.int .i64 (x.2 : Int)))
section
variable {w w' : World} {A : Option Addr} {k : Nat} {ps : List (Nat × Nat)}
theorem Lo.at_ (h : Lo w A k ps) {j : Nat} {x : Nat × Nat} (hx : ps[j]? = some x) : ∃ b, A = some ⟨b, 0, none⟩ ∧ w.cell? ⟨b, j * 2, none⟩ = some (.int .i64 (x.1 : Int)) ∧ w.cell? ⟨b, j * 2 + 1, none⟩ = some (.int .i64 (x.2 : Int)) := by
  have hj := (List.getElem?_eq_some_iff.1 hx).1
  obtain ⟨b, e, hc⟩ := h.2 (by have := h.1; omega)
  exact ⟨b, e, hc j x hx⟩
theorem Lo.lt {b : Nat} (h : Lo w A k ps) (hk : 0 < k) (e : A = some ⟨b, 0, none⟩) : b < w.heap.size := by
  have hl := h.1
  obtain ⟨b', e', hc, _⟩ := h.at_ (j := 0) (List.getElem?_eq_getElem (by omega))
  rw [e] at e'
  injection e' with e'
  injection e' with e'
  subst e'
  exact World.block_lt_of_cell? w _ hc
theorem Lo.heap (h : Lo w A k ps) (hk : ∀ b, 0 < k → A = some ⟨b, 0, none⟩ → w'.heap[b]? = w.heap[b]?) : Lo w' A k ps :=
  ⟨h.1, fun hn => by
    obtain ⟨b, e, hc⟩ := h.2 hn
    exact ⟨b, e, fun j x hx => ⟨(World.cell?_of_block (a := ⟨b, j * 2, none⟩) (hk b hn e)).trans (hc j x hx).1, (World.cell?_of_block (a := ⟨b, j * 2 + 1, none⟩) (hk b hn e)).trans (hc j x hx).2⟩⟩⟩
theorem Lo.below (h : Lo w A k ps) (hb : Below w.heap.size w w') : Lo w' A k ps := h.heap fun b hn e => hb.block _ (h.lt hn e)
end
theorem cmpL_lt (x y : Nat × Nat) : ltOf cmpL x y = decide (x.1 % 4096 < y.1 % 4096) := by
  unfold ltOf cmpL
  by_cases h : x.1 % 4096 < y.1 % 4096
  · simp only [h, decide_true, decide_eq_true_eq]; omega
  · simp only [h, decide_false, decide_eq_false_iff_not]; omega
theorem swoL : SWO (ltOf cmpL) where
  irrefl x := by rw [cmpL_lt]; simp
  trans x y z h1 h2 := by rw [cmpL_lt] at *; simp at *; omega
  ntrans x y z h1 h2 := by rw [cmpL_lt] at *; simp at *; omega
theorem grown_sort {w : World} {b n : Nat} {os : Array Obj} (d : Array (Nat × Nat)) : w.grownBy (sortWorldK encL 2 w b 0 n d os) (some b) := by
  unfold sortWorldK putRowK
  refine ⟨rfl, rfl, rfl, ?_, fun i hi hne => ?_⟩
  · simp [grow]
  · have hb : i ≠ b := fun e => hne (by rw [e])
    simp only [grow]
    rw [Array.getElem?_append_left (by simpa using hi)]
    unfold putRow mapBlock
    simp [Array.getElem?_modify, Ne.symm hb, Sort.ahead]
theorem flat_get (ps : List (Nat × Nat)) : ∀ (j : Nat) (x : Nat × Nat), ps[j]? = some x → (ps.flatMap (fun x => [Value.int .i64 (x.1 : Int), .int .i64 (x.2 : Int)]))[j * 2]? = some (.int .i64 (x.1 : Int)) ∧ (ps.flatMap (fun x => [Value.int .i64 (x.1 : Int), .int .i64 (x.2 : Int)]))[j * 2 + 1]? = some (.int .i64 (x.2 : Int)) := by
  induction ps with
  | nil => intro j x h; simp at h
  | cons y ps ih =>
    intro j x h
    cases j with
    | zero =>
      simp at h
      subst h
      simp
    | succ j =>
      rw [List.getElem?_cons_succ] at h
      obtain ⟨h1, h2⟩ := ih j x h
      rw [List.flatMap_cons, show (j + 1) * 2 = (j * 2) + 1 + 1 by omega]
      simp only [List.cons_append, List.nil_append, List.getElem?_cons_succ]
      exact ⟨h1, h2⟩
abbrev flatL (ps : List (Nat × Nat)) : List Value := ps.flatMap (fun x => [Value.int .i64 (x.1 : Int), .int .i64 (x.2 : Int)])
theorem flat_app (ps : List (Nat × Nat)) (x : Nat × Nat) : flatL (ps ++ [x]) = flatL ps ++ [.int .i64 (x.1 : Int), .int .i64 (x.2 : Int)] := by simp [flatL]
theorem cell_two_new (w : World) (x y : Value) (t : TypeId) : ∀ j u, [x, y][j]? = some u → (w.alloc (.cells #[x, y] t)).cell? ((⟨w.heap.size, 0, none⟩ : Addr).add j) = some u := by
  intro j u h
  have hadd : (⟨w.heap.size, 0, none⟩ : Addr).add j = ⟨w.heap.size, 0 + j, none⟩ := by unfold Addr.add; split <;> simp_all
  rw [hadd, cell_of_row _ _ _ _ _ (0, 0) (heap_alloc_new w _), Nat.zero_add]
  simpa using h
theorem two_one (a b : Int) : ∀ u ∈ [Value.int .i64 a, .int .i64 b], u.oneCell' = true := by
  intro u hu
  simp at hu
  rcases hu with rfl | rfl <;> rfl
theorem owns_cells {w : World} {base b n cap : Nat} {e : TypeId} {xs : List Value} (h : w.ownsRow base e 2 (.slice (some ⟨b, 0, none⟩) n cap) n xs) {j : Nat} {u : Value} (hu : xs[j]? = some u) : w.cell? ⟨b, j, none⟩ = some u ∧ w.frozen? ⟨b, j, none⟩ = false := by
  have hj := (List.getElem?_eq_some_iff.1 hu).1
  have hl := h.1
  exact ⟨by rw [h.cellAt j (by omega)]; exact hu, h.frozenAt j⟩
theorem lo_held {w : World} {b : Nat} {ps : List (Nat × Nat)} (h : HoldsK encL 2 w b 0 ps.toArray) (hs : ∀ x ∈ ps, x.1 < 4096) : Lo w (some ⟨b, 0, none⟩) ps.length ps := by
  refine ⟨rfl, fun _ => ⟨b, rfl, fun j x hx => ?_⟩⟩
  have hj := (List.getElem?_eq_some_iff.1 hx).1
  have hm := hs x (List.mem_of_getElem? hx)
  have e1 : x.1 % 4096 = x.1 := Nat.mod_eq_of_lt hm
  have ex : ps.toArray[j]! = x := by
    rw [getElem!_pos _ _ (by simp; omega)]
    obtain ⟨_, h⟩ := List.getElem?_eq_some_iff.1 hx
    simpa using h
  have h0 := (h (j * 2) (by rw [size_flatK]; simp; omega)).1
  have h1 := (h (j * 2 + 1) (by rw [size_flatK]; simp; omega)).1
  rw [get_flatK _ _ _ _ (by simp; omega), show j * 2 / 2 = j by omega, show j * 2 % 2 = 0 by omega, ex, Nat.zero_add] at h0
  rw [get_flatK _ _ _ _ (by simp; omega), show (j * 2 + 1) / 2 = j by omega, show (j * 2 + 1) % 2 = 1 by omega, ex, Nat.zero_add] at h1
  exact ⟨by simpa [encL, e1] using h0, by simpa [encL] using h1⟩
end Go.Proofs.YtikbbikcacoobaaDoor.Dw

/-! Contract of Loose. No conditions. -/
namespace Go.Proofs.YtikbbikcacoobaaDoor.Dw
set_option maxRecDepth 100000
open Go.RowKit Oc Dm
set_option linter.unusedVariables false
/-- loose sectors are told, in new memory -/
def ToldL (w : World) (ps : List (Nat × Nat)) (e : Ending) (w' : World) : Prop := ∃ b k c, e = .returned (.slice (some ⟨b, 0, none⟩) k c) ∧ Lo w' (some ⟨b, 0, none⟩) k ps ∧ w.heap.size ≤ b ∧ Below w.heap.size w w'
section
variable {w w' : World} {F : Nat → Prop} {D p n N : Nat} {S : Nat → Sec} {rd wr fx m r : Nat} {g : Nat → Option Pl} {s : PS}
theorem row_ne {v : Value} {e : TypeId} {base size k rr cnt : Nat} {xs : List Value} {left : Nat → Bool} (h : w.ownsRow base e size v k xs) (hl : LR w m rr N n g left cnt) : v.ownBlock ≠ some rr := by
  intro e1
  rcases h.2 with ⟨rfl, _⟩ | ⟨g', cap, cur, rfl, _, hg, _⟩
  · cases e1
  · have : g' = rr := by simpa [Value.ownBlock] using e1
    subst this
    obtain ⟨D', L, ⟨es, clock, since, seen, c0, hb, F', hs, hD, hr, rest⟩, h2⟩ := hl
    rw [hg] at hr
    cases hr
end
end Go.Proofs.YtikbbikcacoobaaDoor.Dw

/-! Contracts of maps.Clone and kept. No conditions. -/
namespace Go.Proofs.YtikbbikcacoobaaDoor.Dw
set_option maxRecDepth 100000
open Go.RowKit Oc Dm
set_option linter.unusedVariables false
theorem run_copy_k {P : Program} (w : World) (dT sT ty elem : TypeId) (k g n : Nat) (a : Addr) (cur : Array Value) (t : TypeId) (cs : List Value) (hu : P.underlying dT = some (.slice elem)) (hs : (P.info? elem).map (·.size) = some k)
    (hg : w.heap[g]? = some (.cells cur t (0, 0))) (hn : cs.length = n * k) (hsrc : ∀ j v, cs[j]? = some v → w.cell? (a.add j) = some v) (hfit : cs.length ≤ cur.size) (h1 : ∀ v ∈ cs, v.oneCell' = true) :
    (Builtin.copy_ #[dT, sT] ty #[.slice (some ⟨g, 0, none⟩) n n, .slice (some a) n n]).run P w = .ok (goInt n) (w.setRow g (cs ++ cur.toList.drop cs.length).toArray) := by
  have hl := run_loadCells_list (P := P) w a cs hsrc
  have hst := run_storeCells_at P g 0 t cs 0 cur w hg (by simpa using hfit) h1
  simp only [Nat.zero_add, List.take_zero, List.nil_append] at hst
  cases hq : P.info? elem with
  | none => simp [hq] at hs
  | some i =>
    have hi : i.size = k := by simpa [hq] using hs
    have hm : Nat.min n n = n := Nat.min_self n
    simp [Builtin.copy_, run_underlying hu, Builtin.lenOf, Builtin.firstCells, sizeOf, typeInfo, hq, hi, ← hn, hl, hst]
/-- a copy of all of a row of sectors -/
theorem run_copy_sec {w : World} {b fx n : Nat} {f f2 : Nat → List UInt8} (ty : TypeId) (h : SRow w fx n n f) (h2 : SRow w b n n f2) :
    ∃ w', (Builtin.copy_ #[78, 78] ty #[.slice (some ⟨b, 0, none⟩) n n, .slice (some ⟨fx, 0, none⟩) n n]).run Tryd.prog w = .ok (.int .i64 (n : Int)) w' ∧ SRow w' b n n f ∧ w.grownBy w' (some b) ∧ w'.heap.size = w.heap.size := by
  obtain ⟨cur, hg, h1, _, h3, h4⟩ := h
  obtain ⟨cur2, hg2, k1, _, _, _⟩ := h2
  have hsrc : ∀ j v, cur.toList[j]? = some v → w.cell? ((⟨fx, 0, none⟩ : Addr).add j) = some v := fun j v hv => by
    have hadd : (⟨fx, 0, none⟩ : Addr).add j = ⟨fx, 0 + j, none⟩ := by unfold Addr.add; split <;> simp_all
    rw [hadd, cell_of_row w fx _ cur _ (0, 0) hg, Nat.zero_add]
    simpa using hv
  have hone : ∀ v ∈ cur.toList, v.oneCell' = true := fun v hv => by
    obtain ⟨j, hj, rfl⟩ := List.mem_iff_getElem.1 hv
    simp only [Array.length_toList] at hj
    obtain ⟨hl, hc⟩ := h4 (j / 64) (by omega)
    obtain ⟨x, hx⟩ : ∃ x, (f (j / 64))[j % 64]? = some x := ⟨_, List.getElem?_eq_getElem (by have := Nat.mod_lt j (show 0 < 64 by decide); omega)⟩
    have := hc _ x hx
    rw [show j / 64 * 64 + j % 64 = j by omega, Array.getElem?_eq_getElem hj] at this
    simp only [Array.getElem_toList]
    rw [Option.some.inj this]
    rfl
  obtain ⟨i, hi, hz, hs, hb⟩ := sec_info
  have hlen : cur.toList.length = n * 64 := by simpa using h1
  have hrun := run_copy_k (P := Tryd.prog) w 78 78 ty 103 64 b n ⟨fx, 0, none⟩ cur2 103 cur.toList Tryd.underlying78 (by rw [hi]; simp [hs]) hg2 hlen hsrc (by rw [hlen]; omega) hone
  have e2 : (cur.toList ++ cur2.toList.drop cur.toList.length).toArray = cur := by
    rw [hlen, List.drop_of_length_le (by simp; omega)]
    simp
  rw [e2] at hrun
  exact ⟨_, hrun, ⟨cur, setRow_heap w b cur2 _ _ _ hg2, h1, Nat.le_refl _, h3, h4⟩, ⟨rfl, rfl, rfl, by simp, fun k _ hk => setRow_other w b k _ (fun e => hk (by rw [e]))⟩, by simp⟩
theorem wpList_copy_sec {ops : Array Oper} {rest : List Oper} {o : Oper} {a : Act} {w : World} {Q : Exit → Act → World → Prop} {x y : Operand} {b fx n : Nat} {f f2 : Nat → List UInt8} (hgd : o.guard = none) (ho : o.op = Op.call { callee := Callee.builtin Builtin.copy, args := #[x, y], argTypes := #[78, 78] })
    (hx : a.eval x = .slice (some ⟨b, 0, none⟩) n n) (hy : a.eval y = .slice (some ⟨fx, 0, none⟩) n n) (h : SRow w fx n n f) (h2 : SRow w b n n f2)
    (hK : ∀ w', SRow w' b n n f → w.grownBy w' (some b) → w'.heap.size = w.heap.size → wpList Tryd.prog ops Q rest (a.put o.dst (.int .i64 (n : Int))) w') : wpList Tryd.prog ops Q (o :: rest) a w := by
  refine wpList_plain hgd fun K hK' => ?_
  obtain ⟨w', hrun, r1, r2, r3⟩ := run_copy_sec o.type h h2
  unfold Oper.wp execOp
  simp only [ho, resolve, invoke, builtin, Sem.run_bind, Sem.run_pure, Result.andThen_ok, List.map_toArray, List.map_cons, List.map_nil, hx, hy, hrun]
  exact hK' _ _ (hK w' r1 r2 r3)
/-- what is fixed, and nothing else -/
def keptS (S : Nat → Sec) (i : Nat) : Sec := ⟨(S i).fixed, [], (S i).rotten⟩
section
variable {w w' : World} {F : Nat → Prop} {D p n N : Nat} {S : Nat → Sec} {rd wr fx m r : Nat} {g : Nat → Option Pl} {s : PS}
end
end Go.Proofs.YtikbbikcacoobaaDoor.Dw

/-! Contract of Crash. No conditions. -/
namespace Go.Proofs.YtikbbikcacoobaaDoor.Dw
set_option maxRecDepth 100000
open Go.RowKit Oc Dm
set_option linter.unusedVariables false
/-- the slice at A reads as fates -/
def Fi (w : World) (A : Option Addr) (k : Nat) (fs : List Int) : Prop := Rw.Sl w A k (fs.map (Value.int .i64))
section
variable {w w' : World} {A : Option Addr} {k : Nat} {fs : List Int}
theorem Fi.len (h : Fi w A k fs) : fs.length = k := by have := Rw.Sl.len h; simpa using this
theorem Fi.below (h : Fi w A k fs) (hb : Below w.heap.size w w') : Fi w' A k fs := Rw.Sl.below h hb
theorem Fi.at_ (h : Fi w A k fs) {j : Nat} {f : Int} (hf : fs[j]? = some f) : ∃ b off, A = some ⟨b, off, none⟩ ∧ w.cell? ⟨b, off + j, none⟩ = some (.int .i64 f) := Rw.Sl.at_ h (by rw [List.getElem?_map, hf]; rfl)
end
/-- fates that may be -/
def Good (L : List (Nat × Nat)) (fs : List Int) (j : Nat) : Prop := ∀ f x, fs[j]? = some f → L[j]? = some x → 0 ≤ f ∧ f ≤ (x.2 : Int)
/-- what a crash makes of sectors, behind k fates -/
def crashTo (n : Nat) (S : Nat → Sec) (fs : List Int) : Nat → Nat → Sec
  | 0 => keptS S
  | k + 1 => match fs[k]?, (looseOf n S)[k]? with
    | some f, some x => if 0 < f then upd (crashTo n S fs k) x.1 ⟨(S x.1).loose.getD (f - 1).toNat [], [], false⟩ else crashTo n S fs k
    | _, _ => crashTo n S fs k
theorem crashTo_loose (n : Nat) (S : Nat → Sec) (fs : List Int) : ∀ k i, (crashTo n S fs k i).loose = []
  | 0, i => rfl
  | k + 1, i => by
    rw [crashTo]
    cases fs[k]? with
    | none => exact crashTo_loose n S fs k i
    | some f =>
      cases (looseOf n S)[k]? with
      | none => exact crashTo_loose n S fs k i
      | some x =>
        dsimp only
        by_cases h : 0 < f
        · rw [if_pos h]
          unfold upd
          split
          · rfl
          · exact crashTo_loose n S fs k i
        · rw [if_neg h]
          exact crashTo_loose n S fs k i
theorem crashTo_yes {n : Nat} {S : Nat → Sec} {fs : List Int} {k : Nat} {f : Int} {x : Nat × Nat} (hf : fs[k]? = some f) (hx : (looseOf n S)[k]? = some x) (h : 0 < f) : crashTo n S fs (k + 1) = upd (crashTo n S fs k) x.1 ⟨(S x.1).loose.getD (f - 1).toNat [], [], false⟩ := by
  rw [crashTo, hf, hx]
  exact if_pos h
theorem crashTo_no {n : Nat} {S : Nat → Sec} {fs : List Int} {k : Nat} {f : Int} {x : Nat × Nat} (hf : fs[k]? = some f) (hx : (looseOf n S)[k]? = some x) (h : ¬ 0 < f) : crashTo n S fs (k + 1) = crashTo n S fs k := by
  rw [crashTo, hf, hx]
  exact if_neg h
/-- a new device is told -/
def Crashed (w : World) (p2 n N : Nat) (S : Nat → Sec) (e : Ending) (w' : World) : Prop := ∃ X fx' m' r', e = .returned (.tuple #[.pointer (some ⟨X, 0, none⟩), .int .i64 0]) ∧ w.heap.size ≤ X ∧ DvAt w' (Fresh w w') X p2 n N S 0 0 fx' m' r' (fun _ => none) ∧ Below w.heap.size w w'
section
variable {w w' : World} {F : Nat → Prop} {D p n N : Nat} {S : Nat → Sec} {rd wr fx m r : Nat} {g : Nat → Option Pl} {s : PS} {A : Option Addr} {k c p2 : Nat} {fs : List Int}
end
end Go.Proofs.YtikbbikcacoobaaDoor.Dw
