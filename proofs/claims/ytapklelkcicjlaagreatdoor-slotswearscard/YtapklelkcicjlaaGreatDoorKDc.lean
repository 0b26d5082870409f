/-
  Elder texts, one behind the other: DvLoNum, DvLoose, DvLoose2, DvKept, DvCrash. No conditions.
-/
import Derived.Test.YtapklelkcicjlaaGreatDoorKDw
import Derived.Test.YtapklelkcicjlaaGreatDoorShelf
import Derived.Shelf.SlSortCmp.WholeK
import Derived.Shelf.SlMaps.Clone
/-! Which sectors are loose, as a row; rows that are sorted: plain facts. No conditions. -/
namespace Go.Proofs.YtapklelkcicjlaaGreatDoor.Dw
set_option maxRecDepth 100000
open Go.RowKit Oc Dm
set_option linter.unusedVariables false
/-- the loose sectors, rising, and how many writes each has -/
def looseOf (n : Nat) (S : Nat → Sec) : List (Nat × Nat) := (List.range n).filterMap fun i => if (S i).loose = [] then none else some (i, (S i).loose.length)
theorem mem_loose {n : Nat} {S : Nat → Sec} {x : Nat × Nat} : x ∈ looseOf n S ↔ x.1 < n ∧ (S x.1).loose ≠ [] ∧ x.2 = (S x.1).loose.length := by
  unfold looseOf
  rw [List.mem_filterMap]
  constructor
  · rintro ⟨i, hi, e⟩
    rw [List.mem_range] at hi
    by_cases h : (S i).loose = []
    · rw [if_pos h] at e; cases e
    · rw [if_neg h] at e
      rw [← Option.some.inj e]
      exact ⟨hi, h, rfl⟩
  · rintro ⟨h1, h2, h3⟩
    refine ⟨x.1, List.mem_range.2 h1, ?_⟩
    rw [if_neg h2, ← h3]
theorem loose_rising (n : Nat) (S : Nat → Sec) : (looseOf n S).Pairwise (fun x y => x.1 < y.1) := by
  unfold looseOf
  rw [List.pairwise_filterMap]
  refine List.Pairwise.imp ?_ (List.pairwise_lt_range (n := n))
  intro a b hab x hx y hy
  by_cases h : (S a).loose = []
  · rw [if_pos h] at hx; cases hx
  · by_cases h2 : (S b).loose = []
    · rw [if_pos h2] at hy; cases hy
    · rw [if_neg h] at hx
      rw [if_neg h2] at hy
      rw [← Option.some.inj hx, ← Option.some.inj hy]
      exact hab
theorem loose_len (n : Nat) (S : Nat → Sec) : (looseOf n S).length ≤ n := by
  unfold looseOf
  have := List.length_filterMap_le (fun i => if (S i).loose = [] then none else some (i, (S i).loose.length)) (List.range n)
  simpa using this
theorem strict_unique : ∀ (a b : List (Nat × Nat)), a.Pairwise (fun x y => x.1 < y.1) → b.Pairwise (fun x y => x.1 < y.1) → (∀ x, x ∈ a ↔ x ∈ b) → a = b
  | [], [], _, _, _ => rfl
  | [], y :: b, _, _, h => absurd ((h y).2 (List.mem_cons_self ..)) List.not_mem_nil
  | x :: a, [], _, _, h => absurd ((h x).1 (List.mem_cons_self ..)) List.not_mem_nil
  | x :: a, y :: b, ha, hb, h => by
    obtain ⟨h1, h2⟩ := List.pairwise_cons.1 ha
    obtain ⟨h3, h4⟩ := List.pairwise_cons.1 hb
    have hxy : x = y := by
      rcases List.mem_cons.1 ((h x).1 (List.mem_cons_self ..)) with e | hx
      · exact e
      · rcases List.mem_cons.1 ((h y).2 (List.mem_cons_self ..)) with e | hy
        · exact e.symm
        · have := h3 x hx
          have := h1 y hy
          omega
    subst hxy
    rw [strict_unique a b h2 h4 (fun z => ?_)]
    constructor
    · intro hz
      rcases List.mem_cons.1 ((h z).1 (List.mem_cons_of_mem _ hz)) with e | hz2
      · have := h1 z hz; rw [e] at this; omega
      · exact hz2
    · intro hz
      rcases List.mem_cons.1 ((h z).2 (List.mem_cons_of_mem _ hz)) with e | hz2
      · have := h3 z hz; rw [e] at this; omega
      · exact hz2
theorem sorted_unique {l ps T : List (Nat × Nat)} (hm : ∀ x, x ∈ ps ↔ x ∈ T) (hd : ps.Pairwise (fun x y => x.1 ≠ y.1)) (hT : T.Pairwise (fun x y => x.1 < y.1)) (hp : l.Perm ps) (hs : l.Pairwise (fun x y => ¬ y.1 < x.1)) : l = T := by
  have h1 : l.Pairwise (fun x y => x.1 ≠ y.1) := (hp.pairwise_iff (fun {a b} h => Ne.symm h)).2 hd
  have h2 : l.Pairwise (fun x y => x.1 < y.1) := (hs.and h1).imp (fun ⟨a, b⟩ => by omega)
  exact strict_unique l T h2 hT (fun x => hp.mem_iff.trans (hm x))
section
variable {w : World} {F : Nat → Prop} {D p n N : Nat} {S : Nat → Sec} {rd wr fx m r : Nat} {g : Nat → Option Pl}
/-- those that have come -/
structure Coll (n : Nat) (S : Nat → Sec) (g : Nat → Option Pl) (left : Nat → Bool) (ps : List (Nat × Nat)) : Prop where
  mem : ∀ x, x ∈ ps ↔ x.1 < n ∧ (g x.1).isSome = true ∧ left x.1 = false ∧ x.2 = (S x.1).loose.length
  apart : ps.Pairwise (fun x y => x.1 ≠ y.1)
theorem Coll.start : Coll n S g (fun i => (g i).isSome) [] := ⟨fun x => ⟨(fun h => by cases h), fun ⟨_, h2, h3, _⟩ => by rw [h2] at h3; cases h3⟩, List.Pairwise.nil⟩
theorem Coll.step {left : Nat → Bool} {ps : List (Nat × Nat)} (h : Coll n S g left ps) {i : Nat} (hi : i < n) (hg : (g i).isSome = true) (hl : left i = true) : Coll n S g (upd left i false) (ps ++ [(i, (S i).loose.length)]) := by
  refine ⟨fun x => ?_, ?_⟩
  · rw [List.mem_append, List.mem_singleton, h.mem]
    constructor
    · rintro (⟨a, b, c, d⟩ | e)
      · refine ⟨a, b, ?_, d⟩
        unfold upd
        split
        · rfl
        · exact c
      · subst e
        exact ⟨hi, hg, upd_same _ _ _, rfl⟩
    · rintro ⟨a, b, c, d⟩
      by_cases e : x.1 = i
      · right
        obtain ⟨x1, x2⟩ := x
        dsimp only at e d
        subst e
        rw [d]
      · rw [upd_other _ _ e] at c
        exact .inl ⟨a, b, c, d⟩
  · rw [List.pairwise_append]
    refine ⟨h.apart, List.pairwise_singleton _ _, fun x hx y hy => ?_⟩
    rw [List.mem_singleton] at hy
    subst hy
    intro e
    have := ((h.mem x).1 hx).2.2.1
    rw [e, hl] at this
    cases this
theorem Coll.end_ {left : Nat → Bool} {ps : List (Nat × Nat)} (h : Coll n S g left ps) (H : DvAt w F D p n N S rd wr fx m r g) (hl : ∀ i, i < n → left i = false) (x : Nat × Nat) : x ∈ ps ↔ x ∈ looseOf n S := by
  rw [h.mem, mem_loose]
  constructor
  · rintro ⟨a, b, _, d⟩
    obtain ⟨t, ht⟩ := Option.isSome_iff_exists.1 b
    exact ⟨a, (H.some_ _ t a ht).1, d⟩
  · rintro ⟨a, b, d⟩
    refine ⟨a, ?_, hl _ a, d⟩
    cases hg : g x.1 with
    | none => exact absurd (H.none_ _ a hg) b
    | some t => rfl
end
/-! the sort's words -/
def encL (x : Nat × Nat) : List Value := [.int .i64 ((x.1 % 4096 : Nat) : Int), .int .i64 (x.2 : Int)]
def cmpL (x y : Nat × Nat) : Int := ((x.1 % 4096 : Nat) : Int) - ((y.1 % 4096 : Nat) : Int)
end Go.Proofs.YtapklelkcicjlaaGreatDoor.Dw

/-! Contract of Loose. No conditions. -/
namespace Go.Proofs.YtapklelkcicjlaaGreatDoor.Dw
set_option maxRecDepth 100000
open Go.RowKit Oc Dm Go.Sort Go.Lib
set_option linter.unusedVariables false

/-- the slice at A reads as loose sectors -/
def Lo (w : World) (A : Option Addr) (k : Nat) (ps : List (Nat × Nat)) : Prop :=
  ps.length = k ∧ (0 < k → ∃ b, A = some ⟨b, 0, none⟩ ∧ ∀ (j : Nat) (x : Nat × Nat), ps[j]? = some x → w.cell? ⟨b, j * 2, none⟩ = some (.int .i64 (x.1 : Int)) ∧ w.cell? ⟨b, j * 2 + 1, none⟩ = some (.int .i64 (x.2 : Int)))
section
variable {w w' : World} {A : Option Addr} {k : Nat} {ps : List (Nat × Nat)}
theorem Lo.at_ (h : Lo w A k ps) {j : Nat} {x : Nat × Nat} (hx : ps[j]? = some x) : ∃ b, A = some ⟨b, 0, none⟩ ∧ w.cell? ⟨b, j * 2, none⟩ = some (.int .i64 (x.1 : Int)) ∧ w.cell? ⟨b, j * 2 + 1, none⟩ = some (.int .i64 (x.2 : Int)) := by
  have hj := (List.getElem?_eq_some_iff.1 hx).1
  obtain ⟨b, e, hc⟩ := h.2 (by have := h.1; omega)
  exact ⟨b, e, hc j x hx⟩
theorem Lo.lt {b : Nat} (h : Lo w A k ps) (hk : 0 < k) (e : A = some ⟨b, 0, none⟩) : b < w.heap.size := by
  have hl := h.1
  obtain ⟨b', e', hc, _⟩ := h.at_ (j := 0) (List.getElem?_eq_getElem (by omega))
  rw [e] at e'
  injection e' with e'
  injection e' with e'
  subst e'
  exact World.block_lt_of_cell? w _ hc
theorem Lo.heap (h : Lo w A k ps) (hk : ∀ b, 0 < k → A = some ⟨b, 0, none⟩ → w'.heap[b]? = w.heap[b]?) : Lo w' A k ps :=
  ⟨h.1, fun hn => by
    obtain ⟨b, e, hc⟩ := h.2 hn
    exact ⟨b, e, fun j x hx => ⟨(World.cell?_of_block (a := ⟨b, j * 2, none⟩) (hk b hn e)).trans (hc j x hx).1, (World.cell?_of_block (a := ⟨b, j * 2 + 1, none⟩) (hk b hn e)).trans (hc j x hx).2⟩⟩⟩
theorem Lo.below (h : Lo w A k ps) (hb : Below w.heap.size w w') : Lo w' A k ps := h.heap fun b hn e => hb.block _ (h.lt hn e)
end
theorem cmpL_lt (x y : Nat × Nat) : ltOf cmpL x y = decide (x.1 % 4096 < y.1 % 4096) := by
  unfold ltOf cmpL
  by_cases h : x.1 % 4096 < y.1 % 4096
  · simp only [h, decide_true, decide_eq_true_eq]; omega
  · simp only [h, decide_false, decide_eq_false_iff_not]; omega
theorem swoL : SWO (ltOf cmpL) where
  irrefl x := by rw [cmpL_lt]; simp
  trans x y z h1 h2 := by rw [cmpL_lt] at *; simp at *; omega
  ntrans x y z h1 h2 := by rw [cmpL_lt] at *; simp at *; omega
theorem closureL (x y : Nat × Nat) (W : World) : Calls Tryz.prog 74 #[.agg #[.int .i64 ((x.1 % 4096 : Nat) : Int), .int .i64 (x.2 : Int)], .agg #[.int .i64 ((y.1 % 4096 : Nat) : Int), .int .i64 (y.2 : Int)]] W fun e w' => e = .returned (.int .i64 (cmpL x y)) ∧ ∃ q os', w' = grow (W.drewN q) os' := by
  have h1 : x.1 % 4096 < 4096 := Nat.mod_lt _ (by decide)
  have h2 : y.1 % 4096 < 4096 := Nat.mod_lt _ (by decide)
  unfold cmpL
  generalize x.1 % 4096 = a at h1 ⊢
  generalize y.1 % 4096 = b at h2 ⊢
  go_enter Tryz.func74, Tryz.ntmps74
  go_wp2
  go_ret
  exact ⟨rfl, 0, _, by rw [alloc_eq_grow, alloc_eq_grow, grow_grow]; rfl⟩
theorem cmpLaysL (blk off size : Nat) (w : World) : CmpLays Tryz.prog 74 #[] encL 2 cmpL blk off size w := fun _ _ _ _ x y => closureL x y _
theorem grown_sort {w : World} {b n : Nat} {os : Array Obj} (d : Array (Nat × Nat)) : w.grownBy (sortWorldK encL 2 w b 0 n d os) (some b) := by
  unfold sortWorldK putRowK
  refine ⟨rfl, rfl, rfl, ?_, fun i hi hne => ?_⟩
  · simp [grow]
  · have hb : i ≠ b := fun e => hne (by rw [e])
    simp only [grow]
    rw [Array.getElem?_append_left (by simpa using hi)]
    unfold putRow mapBlock
    simp [Array.getElem?_modify, Ne.symm hb, Sort.ahead]
theorem flat_get (ps : List (Nat × Nat)) : ∀ (j : Nat) (x : Nat × Nat), ps[j]? = some x → (ps.flatMap (fun x => [Value.int .i64 (x.1 : Int), .int .i64 (x.2 : Int)]))[j * 2]? = some (.int .i64 (x.1 : Int)) ∧ (ps.flatMap (fun x => [Value.int .i64 (x.1 : Int), .int .i64 (x.2 : Int)]))[j * 2 + 1]? = some (.int .i64 (x.2 : Int)) := by
  induction ps with
  | nil => intro j x h; simp at h
  | cons y ps ih =>
    intro j x h
    cases j with
    | zero =>
      simp at h
      subst h
      simp
    | succ j =>
      rw [List.getElem?_cons_succ] at h
      obtain ⟨h1, h2⟩ := ih j x h
      rw [List.flatMap_cons, show (j + 1) * 2 = (j * 2) + 1 + 1 by omega]
      simp only [List.cons_append, List.nil_append, List.getElem?_cons_succ]
      exact ⟨h1, h2⟩
abbrev flatL (ps : List (Nat × Nat)) : List Value := ps.flatMap (fun x => [Value.int .i64 (x.1 : Int), .int .i64 (x.2 : Int)])
theorem flat_app (ps : List (Nat × Nat)) (x : Nat × Nat) : flatL (ps ++ [x]) = flatL ps ++ [.int .i64 (x.1 : Int), .int .i64 (x.2 : Int)] := by simp [flatL]
theorem cell_two_new (w : World) (x y : Value) (t : TypeId) : ∀ j u, [x, y][j]? = some u → (w.alloc (.cells #[x, y] t)).cell? ((⟨w.heap.size, 0, none⟩ : Addr).add j) = some u := by
  intro j u h
  have hadd : (⟨w.heap.size, 0, none⟩ : Addr).add j = ⟨w.heap.size, 0 + j, none⟩ := by unfold Addr.add; split <;> simp_all
  rw [hadd, cell_of_row _ _ _ _ _ (0, 0) (heap_alloc_new w _), Nat.zero_add]
  simpa using h
theorem two_one (a b : Int) : ∀ u ∈ [Value.int .i64 a, .int .i64 b], u.oneCell' = true := by
  intro u hu
  simp at hu
  rcases hu with rfl | rfl <;> rfl
theorem lo_info : (Tryz.prog.info? 131).map (fun i => (i.zero, i.size, i.bytes)) = some (some (.agg #[.int .i64 0, .int .i64 0]), 2, 16) := by kernel_rfl
theorem owns_cells {w : World} {base b n cap : Nat} {e : TypeId} {xs : List Value} (h : w.ownsRow base e 2 (.slice (some ⟨b, 0, none⟩) n cap) n xs) {j : Nat} {u : Value} (hu : xs[j]? = some u) : w.cell? ⟨b, j, none⟩ = some u ∧ w.frozen? ⟨b, j, none⟩ = false := by
  have hj := (List.getElem?_eq_some_iff.1 hu).1
  have hl := h.1
  exact ⟨by rw [h.cellAt j (by omega)]; exact hu, h.frozenAt j⟩
theorem holds_row {w : World} {base b cap : Nat} {ps : List (Nat × Nat)} (h : w.ownsRow base 131 2 (.slice (some ⟨b, 0, none⟩) ps.length cap) ps.length (flatL ps)) (hs : ∀ x ∈ ps, x.1 < 4096) : HoldsK encL 2 w b 0 ps.toArray := by
  intro j hj
  rw [size_flatK] at hj
  rw [get_flatK _ _ _ _ hj]
  simp only [List.size_toArray] at hj
  obtain ⟨x, hx⟩ : ∃ x, ps[j / 2]? = some x := ⟨_, List.getElem?_eq_getElem (by omega)⟩
  have hm := hs x (List.mem_of_getElem? hx)
  obtain ⟨h1, h2⟩ := flat_get ps (j / 2) x hx
  have ex : ps.toArray[j / 2]! = x := by
    rw [getElem!_pos _ _ (by simp; omega)]
    have := List.getElem?_eq_some_iff.1 hx
    obtain ⟨_, h⟩ := this
    simpa using h
  rw [ex, Nat.zero_add]
  have e1 : x.1 % 4096 = x.1 := Nat.mod_eq_of_lt hm
  rcases Nat.mod_two_eq_zero_or_one j with h0 | h0
  · rw [h0]
    have : j = j / 2 * 2 := by omega
    rw [← this] at h1
    have := owns_cells h h1
    simpa [encL, e1] using this
  · rw [h0]
    have : j = j / 2 * 2 + 1 := by omega
    rw [← this] at h2
    have := owns_cells h h2
    simpa [encL] using this
theorem lo_held {w : World} {b : Nat} {ps : List (Nat × Nat)} (h : HoldsK encL 2 w b 0 ps.toArray) (hs : ∀ x ∈ ps, x.1 < 4096) : Lo w (some ⟨b, 0, none⟩) ps.length ps := by
  refine ⟨rfl, fun _ => ⟨b, rfl, fun j x hx => ?_⟩⟩
  have hj := (List.getElem?_eq_some_iff.1 hx).1
  have hm := hs x (List.mem_of_getElem? hx)
  have e1 : x.1 % 4096 = x.1 := Nat.mod_eq_of_lt hm
  have ex : ps.toArray[j]! = x := by
    rw [getElem!_pos _ _ (by simp; omega)]
    obtain ⟨_, h⟩ := List.getElem?_eq_some_iff.1 hx
    simpa using h
  have h0 := (h (j * 2) (by rw [size_flatK]; simp; omega)).1
  have h1 := (h (j * 2 + 1) (by rw [size_flatK]; simp; omega)).1
  rw [get_flatK _ _ _ _ (by simp; omega), show j * 2 / 2 = j by omega, show j * 2 % 2 = 0 by omega, ex, Nat.zero_add] at h0
  rw [get_flatK _ _ _ _ (by simp; omega), show (j * 2 + 1) / 2 = j by omega, show (j * 2 + 1) % 2 = 1 by omega, ex, Nat.zero_add] at h1
  exact ⟨by simpa [encL, e1] using h0, by simpa [encL] using h1⟩
/-- the sort, at a row of loose sectors -/
theorem sort_any {w : World} {base b cap n : Nat} {S : Nat → Sec} {ps : List (Nat × Nat)} (h : w.ownsRow base 131 2 (.slice (some ⟨b, 0, none⟩) ps.length cap) ps.length (flatL ps)) (hn : n ≤ 4096) (hm : ∀ x, x ∈ ps ↔ x ∈ looseOf n S) (hd : ps.Pairwise (fun x y => x.1 ≠ y.1)) :
    Calls Tryz.prog 73 #[.slice (some ⟨b, 0, none⟩) ps.length cap, .func (.func 74) #[] #[]] w fun e w' => e = .returned (.tuple #[]) ∧ Lo w' (some ⟨b, 0, none⟩) ps.length (looseOf n S) ∧ w.grownBy w' (some b) := by
  have hs : ∀ x ∈ ps, x.1 < 4096 := fun x hx => by have := (mem_loose.1 ((hm x).1 hx)).1; omega
  have hlen : ps.length ≤ 4096 := by
    have hp : ps.length = (looseOf n S).length := by
      have h1 : ps.Nodup := hd.imp (fun {a b} hne e => hne (by rw [e]))
      have h2 : (looseOf n S).Nodup := (loose_rising n S).imp (fun {a b} hlt e => by rw [e] at hlt; omega)
      exact ((List.perm_ext_iff_of_nodup h1 h2).2 hm).length_eq
    have := loose_len n S
    omega
  have hH := holds_row h hs
  have hblk : b < w.heap.size := (h.lt b rfl).2
  have eg : ∀ args w, (callFunc 74 args).run Tryz.prog w = .ok (.enter 74 args) w := enters_of Tryz.func74 (by kernel_rfl) rfl
  have hcon := AnyQ.slices_SortFunc Tryz.laysF6 2 Tryz.isAgg131 Tryz.sizeOf131 encL (fun _ => rfl) (fun x v hv => by simp [encL] at hv; rcases hv with rfl | rfl <;> rfl) cmpL swoL 74 #[] b 0 cap ps.toArray w eg (cmpLaysL b 0 _ w) hH hblk (by simp; omega)
  rw [List.size_toArray] at hcon
  change Calls Tryz.prog 73 _ _ _ at hcon
  refine hcon.mono ?_
  rintro e w' ⟨rfl, d', k, os, hp, hso, rfl⟩
  refine ⟨rfl, ?_, grown_sort d'⟩
  obtain ⟨hsz, _, hperm⟩ := hp
  simp only [List.size_toArray] at hsz hperm
  have hpl : d'.toList.Perm ps := by
    have e1 : (d'.extract 0 ps.length).toList = d'.toList := by simp [← hsz]
    have e2 : (ps.toArray.extract 0 ps.length).toList = ps := by simp
    rw [e1, e2] at hperm
    exact hperm
  have hd' : d'.toList = looseOf n S := by
    refine sorted_unique hm hd (loose_rising n S) hpl (List.pairwise_iff_getElem.2 (fun i j hi hj hij => ?_))
    simp only [Array.length_toList] at hi hj
    have h1 := hso i j (Nat.zero_le _) hij (by omega)
    rw [getElem!_pos d' i hi, getElem!_pos d' j hj, cmpL_lt] at h1
    have m1 := hs _ (hpl.mem_iff.1 (List.getElem_mem (by simpa using hi)))
    have m2 := hs _ (hpl.mem_iff.1 (List.getElem_mem (by simpa using hj)))
    simp only [Array.getElem_toList] at m1 m2 ⊢
    simp only [decide_eq_false_iff_not] at h1
    rw [Nat.mod_eq_of_lt m1, Nat.mod_eq_of_lt m2] at h1
    exact h1
  have hh := holdsK_sortWorldK_c encL 2 w b 0 ps.toArray d' k os hH hblk (by simpa using hsz)
  have e3 : d' = (looseOf n S).toArray := by rw [← hd']
  rw [e3] at hh ⊢
  have hll : (looseOf n S).length = ps.length := by rw [← hd']; simpa using hsz
  rw [← hll]
  exact lo_held hh (fun x hx => hs x ((hm x).2 hx))
end Go.Proofs.YtapklelkcicjlaaGreatDoor.Dw

/-! Contract of Loose. No conditions. -/
namespace Go.Proofs.YtapklelkcicjlaaGreatDoor.Dw
set_option maxRecDepth 100000
open Go.RowKit Oc Dm
set_option linter.unusedVariables false
/-- loose sectors are told, in new memory -/
def ToldL (w : World) (ps : List (Nat × Nat)) (e : Ending) (w' : World) : Prop := ∃ b k c, e = .returned (.slice (some ⟨b, 0, none⟩) k c) ∧ Lo w' (some ⟨b, 0, none⟩) k ps ∧ w.heap.size ≤ b ∧ Below w.heap.size w w'
section
variable {w w' : World} {F : Nat → Prop} {D p n N : Nat} {S : Nat → Sec} {rd wr fx m r : Nat} {g : Nat → Option Pl} {s : PS}
theorem row_ne {v : Value} {e : TypeId} {base size k rr cnt : Nat} {xs : List Value} {left : Nat → Bool} (h : w.ownsRow base e size v k xs) (hl : LR w m rr N n g left cnt) : v.ownBlock ≠ some rr := by
  intro e1
  rcases h.2 with ⟨rfl, _⟩ | ⟨g', cap, cur, rfl, _, hg, _⟩
  · cases e1
  · have : g' = rr := by simpa [Value.ownBlock] using e1
    subst this
    obtain ⟨D', L, ⟨es, clock, since, seen, c0, hb, F', hs, hD, hr, rest⟩, h2⟩ := hl
    rw [hg] at hr
    cases hr
set_option maxRecDepth 100000 in
set_option maxHeartbeats 4000000 in
theorem loose_any (h : DvAt w F D p n N S rd wr fx m r g) : Calls Tryz.prog 20 #[.pointer (some ⟨D, 0, none⟩)] w (ToldL w (looseOf n S)) := by
  have H := Lib.hid h
  obtain ⟨c0, c1, c2, c3, c4, c5, fr⟩ := h.cells
  have hN := h.hN
  obtain ⟨i0, hi0, hz0, hz1, hz2⟩ := info_parts lo_info
  have HI := Lib.hid hi0
  have HZ0 := Lib.hid hz0
  have HZ1 := Lib.hid hz1
  have HZ2 := Lib.hid hz2
  clear h hi0 hz0 hz1 hz2
  go_enter Tryz.func20, Tryz.ntmps20
  go_wp2_with fail
  refine (dmade_any H.out).mono ?_; rintro e w' ⟨rfl, rfl⟩
  go_wp2_with (first | ((with_reducible refine L_len ?_ H.out.lm ?_); exact rfl; intro L hL; have HL := Lib.hid hL; clear hL) | (at_make; refine wpList_make_own _ rfl _ _ 65 rfl w.heap.size 131 i0 _ 2 Tryz.underlying65 HI.out HZ0.out HZ1.out .i64 .i64 _ L rfl rfl rfl (by rw [HZ2.out]; have := HL.out; omega) (by unfold maxLen; have := HL.out; omega) (Nat.le_refl _) ?_; intro w1 o1 g1; have O1 := Lib.hid o1; have G1 := Lib.hid g1; have H1 := Lib.hid (H.out.grown0 g1); clear o1 g1 c0 c1 c2 c3 c4 c5 fr; obtain ⟨c0, c1, c2, c3, c4, c5, fr⟩ := H1.out.cells) | ((with_reducible refine L_range ?_ H1.out.lm ?_); exact rfl; intro w2 cnt0 lr0 hcnt g2 z2; have L0 := Lib.hid lr0; have CN := Lib.hid hcnt; have G2 := Lib.hid g2; have Z2 := Lib.hid z2; clear lr0 hcnt g2 z2))
  go_frame
  have B1 := Lib.hid ((Below.refl w.heap.size w).grown G1.out (Nat.le_refl _) (fun j e => by cases e))
  have B2 := Lib.hid (B1.out.grown G2.out B1.out.size (fun j e => by cases e))
  go_loopw [3] (fun v wr' => ∃ left cnt ps, Hid (LR wr' m w1.heap.size N n g left cnt) ∧ Hid (Coll n S g left ps) ∧ Hid (wr'.ownsRow w.heap.size 131 2 v ps.length (flatL ps)) ∧ Hid (v ≠ .slice none 0 0) ∧ Hid (Below w.heap.size w wr') ∧ Hid (ps.length + cnt ≤ N)) (fun _ wr' => wr'.rangeLeft m w1.heap.size)
  case atStart =>
    exact ⟨_, _, [], L0, Coll.start, O1.out.kept G2.out (.inr (by simp [Value.ownBlock])), (fun e => by cases e), B2, by show 0 + _ ≤ _; have := CN.out; omega⟩
  case round =>
    obtain ⟨left, cnt, ps, LRJ, CJ, OJ, NJ, BJ, KJ⟩ := hrel
    clear c0 c1 c2 c3 c4 c5 fr
    have HJ := Lib.hid (H.out.below BJ.out)
    go_wp2_with ((with_reducible refine L_next ?_ LRJ.out ?_ ?_); exact rfl)
    · intro hl0
      have HL0 := Lib.hid hl0
      clear hl0
      obtain ⟨hol, hor⟩ := OJ.out
      rcases hor with ⟨e, _⟩ | ⟨b, cap, cur, rfl, hb, hg', h1, h2, h3, h4⟩
      · exact absurd e NJ.out
      have OJ2 := Lib.hid (show _ from OJ.out)
      clear hol hg' h3 h4
      have HB := Lib.hid hb
      go_wp2_with fail
      refine (sort_any OJ.out HJ.out.hn (CJ.out.end_ HJ.out HL0.out) CJ.out.apart).mono ?_; rintro e w5 ⟨rfl, lo5, g5⟩
      have LO5 := Lib.hid lo5
      have G5 := Lib.hid g5
      clear lo5 g5
      go_wp2
      go_ret
      exact ⟨b, _, _, rfl, LO5.out, HB.out, BJ.out.grown G5.out BJ.out.size (fun j e => by injection e with e; subst e; exact HB.out)⟩
    · intro i t w3 cnt3 hi hli hgi lr3 hlt g3 z3 hen
      have B3 := Lib.hid (BJ.out.grown g3 BJ.out.size (fun j e => by injection e with e; subst e; exact B1.out.size))
      have O3 := Lib.hid (OJ.out.kept g3 (.inr (fun e => by
        have h1 := (row_ne OJ.out LRJ.out)
        exact h1 e)))
      have ET := Lib.hid (H.out.some_ i t hi hgi).2.1
      have C3 := Lib.hid (CJ.out.step hi (by rw [hgi]; rfl) hli)
      have L3 := Lib.hid lr3
      have LT := Lib.hid hlt
      clear hli hgi lr3 hlt g3 z3
      go_wp2_with (at_builtin; refine wpList_append_own_at _ rfl _ _ 65 rfl w.heap.size 131 i0 _ 2 16 Tryz.underlying65 HI.out HZ0.out HZ1.out HZ2.out rfl (by decide) _ _ _ rfl (O3.out.alloc _) ⟨w3.heap.size, 0, none⟩ 1 1 [.int .i64 (i : Int), .int .i64 (t.2.1 : Int)] rfl rfl (cell_two_new _ _ _ _) (two_one _ _) (by unfold maxLen; have := KJ.out; omega) (by have := KJ.out; omega) (by have := B3.out.size; simp; omega) ?_; intro v' w4 o4 g4 nil4 loc4; have O4 := Lib.hid o4; have G4 := Lib.hid g4; have NL4 := Lib.hid nil4; have LC4 := Lib.hid loc4; clear o4 g4 nil4 loc4)
      go_roundw
      case rel =>
        have g34 : w3.grownBy w4 _ := (World.grownBy_alloc w3 _ _).trans G4.out
        have hlo := O3.out.lt
        refine ⟨upd left i false, cnt3, ps ++ [(i, t.2.1)], ?_, ?_, ?_, ?_, ?_, ?_⟩
        · refine L3.out.heap (g34.block _ L3.out.lm.lt (fun e => ?_)) (g34.block _ L3.out.lt (fun e => ?_))
          · have h1 := (hlo _ e.symm).1
            have h2 := H.out.lm.lt
            omega
          · exact (row_ne O3.out L3.out) e.symm
        · have := C3.out
          rw [← ET.out] at this
          exact this
        · have := O4.out
          rw [flat_app]
          rw [show (ps ++ [(i, t.2.1)]).length = ps.length + 1 by simp]
          exact this
        · intro e
          have := (NL4.out.1 e).2
          omega
        · exact B3.out.grown g34 B3.out.size (fun j e => (hlo _ e).1)
        · show (ps ++ [(i, t.2.1)]).length + cnt3 ≤ N
          have h1 := KJ.out
          have h2 := LT.out
          simp
          omega
      case measure =>
        have g34 : w3.grownBy w4 _ := (World.grownBy_alloc w3 _ _).trans G4.out
        have hlo := O3.out.lt
        have L4 : LR w4 m w1.heap.size N n g _ cnt3 := L3.out.heap (g34.block _ L3.out.lm.lt (fun e => by
          have h1 := (hlo _ e.symm).1
          have h2 := H.out.lm.lt
          omega)) (g34.block _ L3.out.lt (fun e => (row_ne O3.out L3.out) e.symm))
        rw [L4.left_eq, LRJ.out.left_eq]
        exact LT.out
end
end Go.Proofs.YtapklelkcicjlaaGreatDoor.Dw

/-! Contracts of maps.Clone and kept. No conditions. -/
namespace Go.Proofs.YtapklelkcicjlaaGreatDoor.Dw
set_option maxRecDepth 100000
open Go.RowKit Oc Dm
set_option linter.unusedVariables false
theorem run_copy_k {P : Program} (w : World) (dT sT ty elem : TypeId) (k g n : Nat) (a : Addr) (cur : Array Value) (t : TypeId) (cs : List Value) (hu : P.underlying dT = some (.slice elem)) (hs : (P.info? elem).map (·.size) = some k)
    (hg : w.heap[g]? = some (.cells cur t (0, 0))) (hn : cs.length = n * k) (hsrc : ∀ j v, cs[j]? = some v → w.cell? (a.add j) = some v) (hfit : cs.length ≤ cur.size) (h1 : ∀ v ∈ cs, v.oneCell' = true) :
    (Builtin.copy_ #[dT, sT] ty #[.slice (some ⟨g, 0, none⟩) n n, .slice (some a) n n]).run P w = .ok (goInt n) (w.setRow g (cs ++ cur.toList.drop cs.length).toArray) := by
  have hl := run_loadCells_list (P := P) w a cs hsrc
  have hst := run_storeCells_at P g 0 t cs 0 cur w hg (by simpa using hfit) h1
  simp only [Nat.zero_add, List.take_zero, List.nil_append] at hst
  cases hq : P.info? elem with
  | none => simp [hq] at hs
  | some i =>
    have hi : i.size = k := by simpa [hq] using hs
    have hm : Nat.min n n = n := Nat.min_self n
    simp [Builtin.copy_, run_underlying hu, Builtin.lenOf, Builtin.firstCells, sizeOf, typeInfo, hq, hi, ← hn, hl, hst]
/-- a copy of all of a row of sectors -/
theorem run_copy_sec {w : World} {b fx n : Nat} {f f2 : Nat → List UInt8} (ty : TypeId) (h : SRow w fx n n f) (h2 : SRow w b n n f2) :
    ∃ w', (Builtin.copy_ #[121, 121] ty #[.slice (some ⟨b, 0, none⟩) n n, .slice (some ⟨fx, 0, none⟩) n n]).run Tryz.prog w = .ok (.int .i64 (n : Int)) w' ∧ SRow w' b n n f ∧ w.grownBy w' (some b) ∧ w'.heap.size = w.heap.size := by
  obtain ⟨cur, hg, h1, _, h3, h4⟩ := h
  obtain ⟨cur2, hg2, k1, _, _, _⟩ := h2
  have hsrc : ∀ j v, cur.toList[j]? = some v → w.cell? ((⟨fx, 0, none⟩ : Addr).add j) = some v := fun j v hv => by
    have hadd : (⟨fx, 0, none⟩ : Addr).add j = ⟨fx, 0 + j, none⟩ := by unfold Addr.add; split <;> simp_all
    rw [hadd, cell_of_row w fx _ cur _ (0, 0) hg, Nat.zero_add]
    simpa using hv
  have hone : ∀ v ∈ cur.toList, v.oneCell' = true := fun v hv => by
    obtain ⟨j, hj, rfl⟩ := List.mem_iff_getElem.1 hv
    simp only [Array.length_toList] at hj
    obtain ⟨hl, hc⟩ := h4 (j / 64) (by omega)
    obtain ⟨x, hx⟩ : ∃ x, (f (j / 64))[j % 64]? = some x := ⟨_, List.getElem?_eq_getElem (by have := Nat.mod_lt j (show 0 < 64 by decide); omega)⟩
    have := hc _ x hx
    rw [show j / 64 * 64 + j % 64 = j by omega, Array.getElem?_eq_getElem hj] at this
    simp only [Array.getElem_toList]
    rw [Option.some.inj this]
    rfl
  obtain ⟨i, hi, hz, hs, hb⟩ := sec_info
  have hlen : cur.toList.length = n * 64 := by simpa using h1
  have hrun := run_copy_k (P := Tryz.prog) w 121 121 ty 128 64 b n ⟨fx, 0, none⟩ cur2 128 cur.toList Tryz.underlying121 (by rw [hi]; simp [hs]) hg2 hlen hsrc (by rw [hlen]; omega) hone
  have e2 : (cur.toList ++ cur2.toList.drop cur.toList.length).toArray = cur := by
    rw [hlen, List.drop_of_length_le (by simp; omega)]
    simp
  rw [e2] at hrun
  exact ⟨_, hrun, ⟨cur, setRow_heap w b cur2 _ _ _ hg2, h1, Nat.le_refl _, h3, h4⟩, ⟨rfl, rfl, rfl, by simp, fun k _ hk => setRow_other w b k _ (fun e => hk (by rw [e]))⟩, by simp⟩
theorem wpList_copy_sec {ops : Array Oper} {rest : List Oper} {o : Oper} {a : Act} {w : World} {Q : Exit → Act → World → Prop} {x y : Operand} {b fx n : Nat} {f f2 : Nat → List UInt8} (hgd : o.guard = none) (ho : o.op = Op.call { callee := Callee.builtin Builtin.copy, args := #[x, y], argTypes := #[121, 121] })
    (hx : a.eval x = .slice (some ⟨b, 0, none⟩) n n) (hy : a.eval y = .slice (some ⟨fx, 0, none⟩) n n) (h : SRow w fx n n f) (h2 : SRow w b n n f2)
    (hK : ∀ w', SRow w' b n n f → w.grownBy w' (some b) → w'.heap.size = w.heap.size → wpList Tryz.prog ops Q rest (a.put o.dst (.int .i64 (n : Int))) w') : wpList Tryz.prog ops Q (o :: rest) a w := by
  refine wpList_plain hgd fun K hK' => ?_
  obtain ⟨w', hrun, r1, r2, r3⟩ := run_copy_sec o.type h h2
  unfold Oper.wp execOp
  simp only [ho, resolve, invoke, builtin, Sem.run_bind, Sem.run_pure, Result.andThen_ok, List.map_toArray, List.map_cons, List.map_nil, hx, hy, hrun]
  exact hK' _ _ (hK w' r1 r2 r3)
set_option maxRecDepth 100000 in
/-- maps.Clone at a set of those that are rotten -/
theorem clone_any {w : World} {r N n : Nat} {q : Nat → Bool} (h : RM w r N n q) : Calls Tryz.prog 115 #[.map (some r)] w fun e w' => e = .returned (.map (some w.heap.size)) ∧ RM w' w.heap.size N n q ∧ Below w.heap.size w w' ∧ w'.heap.size = w.heap.size + 1 := by
  obtain ⟨D, ⟨es, clock, hb, hr⟩, h2⟩ := h
  have hq := fun w => run_eql_map_nil_sl (P := Tryz.prog) w 123 _ _ (some r) Tryz.underlying123
  have HR := Lib.hid hr
  have H2 := Lib.hid h2
  clear hr h2
  go_enter Tryz.func115, Tryz.ntmps115
  go_wp2
  rw [run_callFunc_extern Tryz.func135 (by kernel_rfl) (by kernel_rfl) (by kernel_rfl) (e := Extern.MapsClone.clone) (by kernel_rfl), run_maps_clone_sl w 123 hb]
  simp only [Result.andThen]
  rw [Oper.upon_value]
  go_wp2
  rw [run_typeAssert_map_sl _ 123 _ _ _ _ Tryz.underlying123]
  simp only [Result.andThen]
  rw [Oper.upon_value]
  go_wp2
  go_ret
  exact ⟨rfl, ⟨D, ⟨es, clock, heap_alloc_new w _, HR.out⟩, H2.out⟩, (Below.refl _ w).alloc (Nat.le_refl _) _, by simp⟩
/-- what is fixed, and nothing else -/
def keptS (S : Nat → Sec) (i : Nat) : Sec := ⟨(S i).fixed, [], (S i).rotten⟩
section
variable {w w' : World} {F : Nat → Prop} {D p n N : Nat} {S : Nat → Sec} {rd wr fx m r : Nat} {g : Nat → Option Pl} {s : PS}
set_option maxRecDepth 100000 in
set_option maxHeartbeats 4000000 in
theorem kept_any (h : DvAt w F D p n N S rd wr fx m r g) (p2 : Nat) : Calls Tryz.prog 72 #[.pointer (some ⟨D, 0, none⟩), .pointer (some ⟨p2, 0, none⟩)] w fun e w' => ∃ X fx' m' r', e = .returned (.pointer (some ⟨X, 0, none⟩)) ∧ w.heap.size ≤ X ∧ DvAt w' (Fresh w w') X p2 n N (keptS S) 0 0 fx' m' r' (fun _ => none) ∧ Below w.heap.size w w' := by
  have H := Lib.hid h
  obtain ⟨c0, c1, c2, c3, c4, c5, fr⟩ := h.cells
  clear h
  go_enter Tryz.func72, Tryz.ntmps72
  go_wp2_with fail
  refine (blank_any w n p2 H.out.hn).mono ?_; rintro e w1 ⟨X, fx', m', r0, rfl, hX, hx1, b1⟩
  have H1 := Lib.hid (H.out.below b1)
  have X1 := Lib.hid hx1
  have B1 := Lib.hid b1
  have HX := Lib.hid hX
  clear c0 c1 c2 c3 c4 c5 fr hx1 b1 hX
  obtain ⟨c0, c1, c2, c3, c4, c5, fr⟩ := H1.out.cells
  obtain ⟨d0, d1, d2, d3, d4, d5, dr⟩ := X1.out.cells
  go_wp2_with fail
  refine wp_region_still_tail 8 (by kernel_rfl) (by kernel_rfl) ?_
  simp only [List.take_succ_cons, List.take_zero, List.drop_succ_cons, List.drop_zero]
  iterate 8 still_step
  refine wpStill_nil ?_
  change wpList _ _ _ _ _ w1.drew
  refine wpList_copy_sec (b := fx') (fx := fx) (n := n) rfl rfl rfl rfl (show SRow w1.drew fx n n (fun i => (S i).fixed) from H1.out.fixd) (show SRow w1.drew fx' n n (fun i => sec0.fixed) from X1.out.fixd) ?_
  intro w2 r2 g2' z2
  have g2 : w1.grownBy w2 (some fx') := ⟨g2'.os, g2'.tape, g2'.output, g2'.size, g2'.block⟩
  have hfx' : w.heap.size ≤ fx' := X1.out.inF.2.1.1
  have B2 := Lib.hid (B1.out.grown g2 B1.out.size (fun j e => by injection e with e; omega))
  have H2 := Lib.hid (H.out.below B2.out)
  have hX2 : w2.heap[X]? = w1.heap[X]? := g2.block X (lt_of_heap X1.out.head) (fun e => by
    obtain ⟨cur, hg, _⟩ := X1.out.fixd
    have hh := X1.out.head
    injection e with e
    rw [e, hg] at hh
    cases hh)
  have HX2 := Lib.hid (hX2.trans X1.out.head)
  have hm2 : w2.heap[m']? = w1.heap[m']? := g2.block m' X1.out.lm.lt (fun e => by injection e with e; exact X1.out.ne_m.2.1 e.symm)
  have LM2 := Lib.hid (X1.out.lm.heap hm2)
  have R2 := Lib.hid r2
  have Z2 := Lib.hid z2
  have Z12 := Lib.hid g2.size
  clear g2 g2' z2 r2 hX2 hm2 hfx' c0 c1 c2 c3 c4 c5 fr d0 d1 d2 d3 d4 d5 dr
  obtain ⟨c0, c1, c2, c3, c4, c5, fr⟩ := H2.out.cells
  go_wp2_with fail
  refine (clone_any H2.out.rm).mono ?_; rintro e w3 ⟨rfl, r3, b3, z3⟩
  have hX3 : w3.heap[X]? = w2.heap[X]? := b3.block X (lt_of_heap HX2.out)
  have HX3 := Lib.hid (hX3.trans HX2.out)
  have R3 := Lib.hid (R2.out.heap (b3.block _ R2.out.lt))
  have LM3 := Lib.hid (LM2.out.heap (b3.block _ LM2.out.lt))
  have RM3 := Lib.hid r3
  have B3 := Lib.hid b3
  have Z3 := Lib.hid z3
  have d3 : w3.cell? ⟨X, 3, none⟩ = some (.map (some r0)) := by rw [cell_of_row w3 X _ _ _ (0, 0) HX3.out]; rfl
  have dr : w3.frozen? ⟨X, 3, none⟩ = false := frozen_of_row w3 X 3 _ _ HX3.out
  clear c0 c1 c2 c3 c4 c5 fr hX3 r3 b3 z3
  go_wp2
  go_ret
  have bx := HX.out
  have z3 := Z3.out
  have z2 := Z12.out
  have hb2 := B2.out.size
  have hmX : m' ≠ X := fun e => X1.out.ne_m.1 e.symm
  have hfX : fx' ≠ X := fun e => by
    obtain ⟨cur, hg, _⟩ := R3.out
    have hh := HX3.out
    rw [← e, hg] at hh
    cases hh
  have hrX : w2.heap.size ≠ X := fun e => by
    have := lt_of_heap HX2.out
    omega
  have hml := LM2.out.lt
  have hfl := R2.out.lt
  have hXl := lt_of_heap HX2.out
  have hm0 : w.heap.size ≤ m' := X1.out.inF.2.2.1.1
  have hf0 : w.heap.size ≤ fx' := X1.out.inF.2.1.1
  refine ⟨X, fx', m', w2.heap.size, rfl, bx, ?_, ?_⟩
  · exact {
      head := by rw [heap_setCell_same _ _ _ _ _ _ HX3.out]; rfl
      fixd := R3.out.heap (heap_setCell_other w3 _ _ _ hfX)
      lm := (LM3.out.heap (heap_setCell_other w3 _ _ _ hmX)).more (Nat.zero_le _)
      rm := RM3.out.heap (heap_setCell_other w3 _ _ _ hrX)
      none_ := fun i hi e => rfl
      some_ := fun i t hi e => by cases e
      apart := fun i j s t hi hj hne e => by cases e
      mr := by omega
      hn := H.out.hn
      hN := H.out.hN
      hl := fun i hi => Nat.zero_le _
      hrd := by decide
      hwr := by decide
      inF := by unfold Fresh; rw [size_cell]; omega
      bound := fun k x => x.2 }
  · exact (B2.out.trans (B3.out.mono (by omega))).grown (grown_cell w3 X 3 _) (B2.out.trans (B3.out.mono (by omega))).size (fun j e => by injection e with e; omega)
end
end Go.Proofs.YtapklelkcicjlaaGreatDoor.Dw

/-! Contract of Crash. No conditions. -/
namespace Go.Proofs.YtapklelkcicjlaaGreatDoor.Dw
set_option maxRecDepth 100000
open Go.RowKit Oc Dm
set_option linter.unusedVariables false
/-- the slice at A reads as fates -/
def Fi (w : World) (A : Option Addr) (k : Nat) (fs : List Int) : Prop := Rw.Sl w A k (fs.map (Value.int .i64))
section
variable {w w' : World} {A : Option Addr} {k : Nat} {fs : List Int}
theorem Fi.len (h : Fi w A k fs) : fs.length = k := by have := Rw.Sl.len h; simpa using this
theorem Fi.below (h : Fi w A k fs) (hb : Below w.heap.size w w') : Fi w' A k fs := Rw.Sl.below h hb
theorem Fi.at_ (h : Fi w A k fs) {j : Nat} {f : Int} (hf : fs[j]? = some f) : ∃ b off, A = some ⟨b, off, none⟩ ∧ w.cell? ⟨b, off + j, none⟩ = some (.int .i64 f) := Rw.Sl.at_ h (by rw [List.getElem?_map, hf]; rfl)
end
/-- fates that may be -/
def Good (L : List (Nat × Nat)) (fs : List Int) (j : Nat) : Prop := ∀ f x, fs[j]? = some f → L[j]? = some x → 0 ≤ f ∧ f ≤ (x.2 : Int)
/-- what a crash makes of sectors, behind k fates -/
def crashTo (n : Nat) (S : Nat → Sec) (fs : List Int) : Nat → Nat → Sec
  | 0 => keptS S
  | k + 1 => match fs[k]?, (looseOf n S)[k]? with
    | some f, some x => if 0 < f then upd (crashTo n S fs k) x.1 ⟨(S x.1).loose.getD (f - 1).toNat [], [], false⟩ else crashTo n S fs k
    | _, _ => crashTo n S fs k
theorem crashTo_loose (n : Nat) (S : Nat → Sec) (fs : List Int) : ∀ k i, (crashTo n S fs k i).loose = []
  | 0, i => rfl
  | k + 1, i => by
    rw [crashTo]
    cases fs[k]? with
    | none => exact crashTo_loose n S fs k i
    | some f =>
      cases (looseOf n S)[k]? with
      | none => exact crashTo_loose n S fs k i
      | some x =>
        dsimp only
        by_cases h : 0 < f
        · rw [if_pos h]
          unfold upd
          split
          · rfl
          · exact crashTo_loose n S fs k i
        · rw [if_neg h]
          exact crashTo_loose n S fs k i
theorem crashTo_yes {n : Nat} {S : Nat → Sec} {fs : List Int} {k : Nat} {f : Int} {x : Nat × Nat} (hf : fs[k]? = some f) (hx : (looseOf n S)[k]? = some x) (h : 0 < f) : crashTo n S fs (k + 1) = upd (crashTo n S fs k) x.1 ⟨(S x.1).loose.getD (f - 1).toNat [], [], false⟩ := by
  rw [crashTo, hf, hx]
  exact if_pos h
theorem crashTo_no {n : Nat} {S : Nat → Sec} {fs : List Int} {k : Nat} {f : Int} {x : Nat × Nat} (hf : fs[k]? = some f) (hx : (looseOf n S)[k]? = some x) (h : ¬ 0 < f) : crashTo n S fs (k + 1) = crashTo n S fs k := by
  rw [crashTo, hf, hx]
  exact if_neg h
/-- a new device is told -/
def Crashed (w : World) (p2 n N : Nat) (S : Nat → Sec) (e : Ending) (w' : World) : Prop := ∃ X fx' m' r', e = .returned (.tuple #[.pointer (some ⟨X, 0, none⟩), .int .i64 0]) ∧ w.heap.size ≤ X ∧ DvAt w' (Fresh w w') X p2 n N S 0 0 fx' m' r' (fun _ => none) ∧ Below w.heap.size w w'
section
variable {w w' : World} {F : Nat → Prop} {D p n N : Nat} {S : Nat → Sec} {rd wr fx m r : Nat} {g : Nat → Option Pl} {s : PS} {A : Option Addr} {k c p2 : Nat} {fs : List Int}
theorem crash_long (h : DvAt w F D p n N S rd wr fx m r g) (hp : Pw w p2 s) (hf : Fi w A k fs) (hk : (looseOf n S).length < k) : Calls Tryz.prog 17 #[.pointer (some ⟨D, 0, none⟩), .pointer (some ⟨p2, 0, none⟩), .slice A k c] w fun e w' => e = .returned (.tuple #[.pointer none, .int .i64 7]) ∧ Below w.heap.size w w' := by
  have H := Lib.hid h
  have HP := Lib.hid hp
  clear h hp hf
  go_enter Tryz.func17, Tryz.ntmps17
  go_wp2_with fail
  refine (dmade_any H.out).mono ?_; rintro e w' ⟨rfl, rfl⟩
  go_wp2_with fail
  refine (pmade_any HP.out).mono ?_; rintro e w' ⟨rfl, rfl⟩
  go_wp2_with fail
  refine (loose_any H.out).mono ?_; rintro e w1 ⟨b, k0, c0, rfl, lo1, hb, b1⟩
  have hlen := lo1.1
  clear lo1
  have hlt : (k0 : Int) < (k : Int) := by omega
  go_wp2
  go_ret2
  exact ⟨rfl, b1⟩
set_option maxRecDepth 100000 in
set_option maxHeartbeats 4000000 in
theorem crash_range (h : DvAt w F D p n N S rd wr fx m r g) (hp : Pw w p2 s) (hf : Fi w A k fs) (hk : k ≤ (looseOf n S).length) (J : Nat) (hJ : J < k) (hbad : ¬ Good (looseOf n S) fs J) : Calls Tryz.prog 17 #[.pointer (some ⟨D, 0, none⟩), .pointer (some ⟨p2, 0, none⟩), .slice A k c] w fun e w' => e = .returned (.tuple #[.pointer none, .int .i64 3]) ∧ Below w.heap.size w w' := by
  have H := Lib.hid h
  have HP := Lib.hid hp
  have HF := Lib.hid hf
  have HB := Lib.hid hbad
  clear h hp hf hbad
  go_enter Tryz.func17, Tryz.ntmps17
  go_wp2_with fail
  refine (dmade_any H.out).mono ?_; rintro e w' ⟨rfl, rfl⟩
  go_wp2_with fail
  refine (pmade_any HP.out).mono ?_; rintro e w' ⟨rfl, rfl⟩
  go_wp2_with fail
  refine (loose_any H.out).mono ?_; rintro e w1 ⟨b, k0, c0, rfl, lo1, hb, b1⟩
  have hlen := lo1.1
  have LO1 := Lib.hid lo1
  have B1 := Lib.hid b1
  have F1 := Lib.hid (HF.out.below b1)
  have hkk : ¬ (k0 : Int) < (k : Int) := by omega
  have hkk2 : k ≤ k0 := by omega
  have hn := H.out.hn
  have hk4 : k0 ≤ 4096 := by have := loose_len n S; omega
  clear lo1 b1 hlen hb hk
  go_wp2
  go_loop [32] (fun q => ∃ j : Nat, j ≤ J ∧ q = .int .i64 j) (fun q => J - (intOf q).toNat)
  case atStart => exact ⟨0, Nat.zero_le _, rfl⟩
  case round =>
    obtain ⟨j, hj, rfl⟩ := hrel
    have hjk : j < k := by omega
    have hjk0 : (j : Int) < (k0 : Int) := by omega
    have hjk1 : (j : Int) < (k : Int) := by omega
    obtain ⟨f, hf⟩ : ∃ f, fs[j]? = some f := ⟨_, List.getElem?_eq_getElem (by rw [F1.out.len]; exact hjk)⟩
    obtain ⟨x, hx⟩ : ∃ x, (looseOf n S)[j]? = some x := ⟨_, List.getElem?_eq_getElem (by rw [LO1.out.1]; omega)⟩
    obtain ⟨fb, fo, rfl, hfc⟩ := F1.out.at_ hf
    obtain ⟨lb, hle, hl0, hl1⟩ := LO1.out.at_ hx
    injection hle with hle
    injection hle with hle
    subst hle
    have HFX := Lib.hid hf
    have HXX := Lib.hid hx
    clear hf hx
    by_cases h1 : f < 0
    · go_wp2
      go_ret2
      exact ⟨rfl, B1.out⟩
    · by_cases h2 : (x.2 : Int) < f
      · go_wp2
        go_ret2
        exact ⟨rfl, B1.out⟩
      · have hjJ : j ≠ J := fun e => HB.out (by
          subst e
          intro f' x' hf' hx'
          rw [HFX.out] at hf'
          rw [HXX.out] at hx'
          rw [← Option.some.inj hf', ← Option.some.inj hx']
          omega)
        have hd : decide ((x.2 : Int) < f) = false := by simp; omega
        go_wp2
        go_round
        case rel => exact ⟨j + 1, by omega, rfl⟩
        case measure => simp [intOf]; omega
set_option maxRecDepth 100000 in
set_option maxHeartbeats 8000000 in
theorem crash_ok (h : DvAt w F D p n N S rd wr fx m r g) (hp : Pw w p2 s) (hf : Fi w A k fs) (hk : k ≤ (looseOf n S).length) (hgood : ∀ j, j < k → Good (looseOf n S) fs j) : Calls Tryz.prog 17 #[.pointer (some ⟨D, 0, none⟩), .pointer (some ⟨p2, 0, none⟩), .slice A k c] w (Crashed w p2 n N (crashTo n S fs k)) := by
  have H := Lib.hid h
  have HP := Lib.hid hp
  have HF := Lib.hid hf
  have HG := Lib.hid hgood
  clear h hp hf hgood
  go_enter Tryz.func17, Tryz.ntmps17
  go_wp2_with fail
  refine (dmade_any H.out).mono ?_; rintro e w' ⟨rfl, rfl⟩
  go_wp2_with fail
  refine (pmade_any HP.out).mono ?_; rintro e w' ⟨rfl, rfl⟩
  go_wp2_with fail
  refine (loose_any H.out).mono ?_; rintro e w1 ⟨b, k0, c0, rfl, lo1, hb, b1⟩
  have hlen := lo1.1
  have LO1 := Lib.hid lo1
  have B1 := Lib.hid b1
  have F1 := Lib.hid (HF.out.below b1)
  have hkk : ¬ (k0 : Int) < (k : Int) := by omega
  have hkk2 : k ≤ k0 := by omega
  have hn := H.out.hn
  have hk4 : k0 ≤ 4096 := by have := loose_len n S; omega
  clear lo1 b1 hlen hb hk
  go_wp2
  go_loop [32] (fun q => ∃ j : Nat, j ≤ k ∧ q = .int .i64 j) (fun q => k - (intOf q).toNat)
  case atStart => exact ⟨0, Nat.zero_le _, rfl⟩
  case round =>
    obtain ⟨j, hj, rfl⟩ := hrel
    by_cases hjk : j < k
    · have hjk0 : (j : Int) < (k0 : Int) := by omega
      have hjk1 : (j : Int) < (k : Int) := by omega
      obtain ⟨f, hf⟩ : ∃ f, fs[j]? = some f := ⟨_, List.getElem?_eq_getElem (by rw [F1.out.len]; exact hjk)⟩
      obtain ⟨x, hx⟩ : ∃ x, (looseOf n S)[j]? = some x := ⟨_, List.getElem?_eq_getElem (by rw [LO1.out.1]; omega)⟩
      obtain ⟨h1, h2⟩ := HG.out j hjk f x hf hx
      obtain ⟨fb, fo, rfl, hfc⟩ := F1.out.at_ hf
      obtain ⟨lb, hle, hl0, hl1⟩ := LO1.out.at_ hx
      injection hle with hle
      injection hle with hle
      subst hle
      have hd : decide ((x.2 : Int) < f) = false := by simp; omega
      have h3 : ¬ f < 0 := by omega
      have h4 : ¬ (x.2 : Int) < f := by omega
      clear hf hx h1 h2
      go_wp2
      go_round
      case rel => exact ⟨j + 1, by omega, rfl⟩
      case measure => simp [intOf]; omega
    · have hjk1 : ¬ (j : Int) < (k : Int) := by omega
      clear hj
      have H1 := Lib.hid (H.out.below B1.out)
      go_wp2_with fail
      refine (kept_any H1.out p2).mono ?_; rintro e w2 ⟨X, fx', m', r', rfl, hX, hx2, b2⟩
      have X2 := Lib.hid hx2
      have B2 := Lib.hid b2
      have HX := Lib.hid hX
      have LO2 := Lib.hid (LO1.out.below b2)
      have F2 := Lib.hid (F1.out.below b2)
      have H2 := Lib.hid (H1.out.below b2)
      clear hx2 b2 hX hjk1 hjk
      have hZ1 := B1.out.size
      go_wp2
      go_loopw [54] (fun q wr' => ∃ i : Nat, i ≤ k ∧ q = .int .i64 i ∧ Hid (DvAt wr' (Fresh w1 w2) X p2 n N (crashTo n S fs i) 0 0 fx' m' r' (fun _ => none)) ∧ Hid (Below w2.heap.size w2 w2 → Chg (fun a => a = fx' ∨ a = r') w2 wr')) (fun q _ => k - (intOf q).toNat)
      case atStart => exact ⟨0, Nat.zero_le _, rfl, X2.out, fun _ => Chg.refl _ _⟩
      case round =>
        obtain ⟨i, hi, rfl, XJ, CJ'⟩ := hrel
        have CJ := Lib.hid (CJ'.out (Below.refl _ _))
        clear CJ'
        have hfx0 : w1.heap.size ≤ fx' := X2.out.inF.2.1.1
        have hr0 : w1.heap.size ≤ r' := X2.out.inF.2.2.2.1
        have BJ := Lib.hid (show Below w1.heap.size w2 _ from CJ.out.below B2.out.size (fun a ha e => by rcases e with e | e <;> omega))
        have B1J := Lib.hid (B2.out.trans BJ.out)
        have HJ := Lib.hid (H1.out.below B1J.out)
        have LOJ := Lib.hid (LO1.out.below B1J.out)
        have FJ := Lib.hid (F1.out.below B1J.out)
        obtain ⟨c0', c1, c2, c3, c4, c5, fr⟩ := HJ.out.cells
        clear hfx0 hr0
        by_cases hik : i < k
        · have hik1 : (i : Int) < (k : Int) := by omega
          have hik0 : (i : Int) < (k0 : Int) := by omega
          obtain ⟨f, hf⟩ : ∃ f, fs[i]? = some f := ⟨_, List.getElem?_eq_getElem (by rw [F1.out.len]; exact hik)⟩
          obtain ⟨x, hx⟩ : ∃ x, (looseOf n S)[i]? = some x := ⟨_, List.getElem?_eq_getElem (by rw [LO1.out.1]; omega)⟩
          obtain ⟨h1, h2⟩ := HG.out i hik f x hf hx
          obtain ⟨fb, fo, rfl, hfc⟩ := FJ.out.at_ hf
          obtain ⟨lb, hle, hl0, hl1⟩ := LOJ.out.at_ hx
          injection hle with hle
          injection hle with hle
          subst hle
          have HFX := Lib.hid hf
          have HXX := Lib.hid hx
          obtain ⟨m1, m2, m3⟩ := mem_loose.1 (List.mem_of_getElem? hx)
          have HM3 := Lib.hid m3
          clear hf hx m3
          by_cases h3 : 0 < f
          · have HYes := Lib.hid (crashTo_yes HFX.out HXX.out h3)
            obtain ⟨φ, rfl⟩ : ∃ φ : Nat, f = (φ : Int) + 1 := ⟨(f - 1).toNat, by omega⟩
            have e1 : (((φ : Int) + 1) - 1).toNat = φ := by omega
            rw [e1] at HYes
            obtain ⟨t, ht⟩ : ∃ t, g x.1 = some t := by
              cases hg : g x.1 with
              | none => exact absurd (H.out.none_ _ m1 hg) m2
              | some t => exact ⟨t, rfl⟩
            obtain ⟨tb, tk, tc⟩ := t
            obtain ⟨_, q2, q3, _, _⟩ := HJ.out.some_ _ _ m1 ht
            dsimp only at q2 q3
            have hφ : φ < tk := by have := HM3.out; omega
            have hφ2 : (φ : Int) < (tk : Int) := by omega
            have hφ3 : φ ≤ 1000000000 := by have := HJ.out.hl _ m1; have := HJ.out.hN; omega
            have HV : Hid (slv (g x.1) = .slice (some ⟨tb, 0, none⟩) tk tc) := Lib.hid (congrArg slv ht)
            have Q3 := Lib.hid q3
            have QL := Lib.hid (q3.len hφ)
            clear q2 q3 ht h2 h1 e1 m2
            go_wp2_with (first | ((with_reducible refine L_look ?_ ?_ HJ.out.lm m1 hn HV.out ?_); exact rfl; exact rfl) | ((with_reducible refine L_load ?_ (Q3.out.oct hφ) ?_); exact rfl) | fail)
            refine (fix_any XJ.out x.1 m1 _ QL.out).mono ?_; rintro e w5 ⟨rfl, h5, c5'⟩
            have H5 := Lib.hid h5
            have C5 := Lib.hid c5'
            clear h5 c5'
            go_wp2
            go_roundw
            case rel =>
              refine ⟨i + 1, by omega, rfl, ?_, fun _ => CJ.out.trans C5.out (fun _ _ x => x)⟩
              rw [HYes.out]
              have := H5.out
              rw [crashTo_loose] at this
              exact this
            case measure => simp [intOf]; omega
          · have HNo := Lib.hid (crashTo_no HFX.out HXX.out h3)
            go_wp2
            go_roundw
            case rel => exact ⟨i + 1, by omega, rfl, by rw [HNo.out]; exact XJ, fun _ => CJ.out⟩
            case measure => simp [intOf]; omega
        · have hik1 : ¬ (i : Int) < (k : Int) := by omega
          have : i = k := by omega
          subst this
          go_wp2
          go_ret2
          refine ⟨X, fx', m', r', rfl, by have := HX.out; omega, XJ.out.frame (fun a x => ⟨by have := x.1; omega, Nat.lt_of_lt_of_le x.2 CJ.out.size⟩) (fun a x => x.2) (fun _ _ => rfl), B1.out.trans (B1J.out.mono hZ1)⟩
end
end Go.Proofs.YtapklelkcicjlaaGreatDoor.Dw
