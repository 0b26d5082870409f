/-
  Contract of Loose. No conditions.
-/
import Derived.Test.YtdkniholeaiemaaDvLoNum
import Derived.Test.YtdkniholeaiemaaShelf
import Derived.Shelf.SlSortCmp.WholeK
namespace Go.Proofs.Ytdkniholeaiemaa.W
open Go.RowKit Oc Dm Go.Sort Go.Lib
set_option linter.unusedVariables false

/-- the slice at A reads as loose sectors -/
def Lo (w : World) (A : Option Addr) (k : Nat) (ps : List (Nat × Nat)) : Prop :=
  ps.length = k ∧ (0 < k → ∃ b, A = some ⟨b, 0, none⟩ ∧ ∀ (j : Nat) (x : Nat × Nat), ps[j]? = some x → w.cell? ⟨b, j * 2, none⟩ = some (.int .i64 (x.1 : Int)) ∧ w.cell? ⟨b, j * 2 + 1, none⟩ = some (.int .i64 (x.2 : Int)))
section
variable {w w' : World} {A : Option Addr} {k : Nat} {ps : List (Nat × Nat)}
theorem Lo.at_ (h : Lo w A k ps) {j : Nat} {x : Nat × Nat} (hx : ps[j]? = some x) : ∃ b, A = some ⟨b, 0, none⟩ ∧ w.cell? ⟨b, j * 2, none⟩ = some (.int .i64 (x.1 : Int)) ∧ w.cell? ⟨b, j * 2 + 1, none⟩ = some (.int .i64 (x.2 : Int)) := by
  have hj := (List.getElem?_eq_some_iff.1 hx).1
  obtain ⟨b, e, hc⟩ := h.2 (by have := h.1; omega)
  exact ⟨b, e, hc j x hx⟩
theorem Lo.lt {b : Nat} (h : Lo w A k ps) (hk : 0 < k) (e : A = some ⟨b, 0, none⟩) : b < w.heap.size := by
  have hl := h.1
  obtain ⟨b', e', hc, _⟩ := h.at_ (j := 0) (List.getElem?_eq_getElem (by omega))
  rw [e] at e'
  injection e' with e'
  injection e' with e'
  subst e'
  exact World.block_lt_of_cell? w _ hc
theorem Lo.heap (h : Lo w A k ps) (hk : ∀ b, 0 < k → A = some ⟨b, 0, none⟩ → w'.heap[b]? = w.heap[b]?) : Lo w' A k ps :=
  ⟨h.1, fun hn => by
    obtain ⟨b, e, hc⟩ := h.2 hn
    exact ⟨b, e, fun j x hx => ⟨(World.cell?_of_block (a := ⟨b, j * 2, none⟩) (hk b hn e)).trans (hc j x hx).1, (World.cell?_of_block (a := ⟨b, j * 2 + 1, none⟩) (hk b hn e)).trans (hc j x hx).2⟩⟩⟩
theorem Lo.below (h : Lo w A k ps) (hb : Below w.heap.size w w') : Lo w' A k ps := h.heap fun b hn e => hb.block _ (h.lt hn e)
end
theorem cmpL_lt (x y : Nat × Nat) : ltOf cmpL x y = decide (x.1 % 4096 < y.1 % 4096) := by
  unfold ltOf cmpL
  by_cases h : x.1 % 4096 < y.1 % 4096
  · simp only [h, decide_true, decide_eq_true_eq]; omega
  · simp only [h, decide_false, decide_eq_false_iff_not]; omega
theorem swoL : SWO (ltOf cmpL) where
  irrefl x := by rw [cmpL_lt]; simp
  trans x y z h1 h2 := by rw [cmpL_lt] at *; simp at *; omega
  ntrans x y z h1 h2 := by rw [cmpL_lt] at *; simp at *; omega
theorem closureL (x y : Nat × Nat) (W : World) : Calls Try.prog 49 #[.agg #[.int .i64 ((x.1 % 4096 : Nat) : Int), .int .i64 (x.2 : Int)], .agg #[.int .i64 ((y.1 % 4096 : Nat) : Int), .int .i64 (y.2 : Int)]] W fun e w' => e = .returned (.int .i64 (cmpL x y)) ∧ ∃ q os', w' = grow (W.drewN q) os' := by
  have h1 : x.1 % 4096 < 4096 := Nat.mod_lt _ (by decide)
  have h2 : y.1 % 4096 < 4096 := Nat.mod_lt _ (by decide)
  unfold cmpL
  generalize x.1 % 4096 = a at h1 ⊢
  generalize y.1 % 4096 = b at h2 ⊢
  go_enter Try.func49, Try.ntmps49
  go_wp2
  go_ret
  exact ⟨rfl, 0, _, by rw [alloc_eq_grow, alloc_eq_grow, grow_grow]; rfl⟩
theorem cmpLaysL (blk off size : Nat) (w : World) : CmpLays Try.prog 49 #[] encL 2 cmpL blk off size w := fun _ _ _ _ x y => closureL x y _
theorem grown_sort {w : World} {b n : Nat} {os : Array Obj} (d : Array (Nat × Nat)) : w.grownBy (sortWorldK encL 2 w b 0 n d os) (some b) := by
  unfold sortWorldK putRowK
  refine ⟨rfl, rfl, rfl, ?_, fun i hi hne => ?_⟩
  · simp [grow]
  · have hb : i ≠ b := fun e => hne (by rw [e])
    simp only [grow]
    rw [Array.getElem?_append_left (by simpa using hi)]
    unfold putRow mapBlock
    simp [Array.getElem?_modify, Ne.symm hb, Sort.ahead]
theorem flat_get (ps : List (Nat × Nat)) : ∀ (j : Nat) (x : Nat × Nat), ps[j]? = some x → (ps.flatMap (fun x => [Value.int .i64 (x.1 : Int), .int .i64 (x.2 : Int)]))[j * 2]? = some (.int .i64 (x.1 : Int)) ∧ (ps.flatMap (fun x => [Value.int .i64 (x.1 : Int), .int .i64 (x.2 : Int)]))[j * 2 + 1]? = some (.int .i64 (x.2 : Int)) := by
  induction ps with
  | nil => intro j x h; simp at h
  | cons y ps ih =>
    intro j x h
    cases j with
    | zero =>
      simp at h
      subst h
      simp
    | succ j =>
      rw [List.getElem?_cons_succ] at h
      obtain ⟨h1, h2⟩ := ih j x h
      rw [List.flatMap_cons, show (j + 1) * 2 = (j * 2) + 1 + 1 by omega]
      simp only [List.cons_append, List.nil_append, List.getElem?_cons_succ]
      exact ⟨h1, h2⟩
abbrev flatL (ps : List (Nat × Nat)) : List Value := ps.flatMap (fun x => [Value.int .i64 (x.1 : Int), .int .i64 (x.2 : Int)])
theorem flat_app (ps : List (Nat × Nat)) (x : Nat × Nat) : flatL (ps ++ [x]) = flatL ps ++ [.int .i64 (x.1 : Int), .int .i64 (x.2 : Int)] := by simp [flatL]
theorem cell_two_new (w : World) (x y : Value) (t : TypeId) : ∀ j u, [x, y][j]? = some u → (w.alloc (.cells #[x, y] t)).cell? ((⟨w.heap.size, 0, none⟩ : Addr).add j) = some u := by
  intro j u h
  have hadd : (⟨w.heap.size, 0, none⟩ : Addr).add j = ⟨w.heap.size, 0 + j, none⟩ := by unfold Addr.add; split <;> simp_all
  rw [hadd, cell_of_row _ _ _ _ _ (0, 0) (heap_alloc_new w _), Nat.zero_add]
  simpa using h
theorem two_one (a b : Int) : ∀ u ∈ [Value.int .i64 a, .int .i64 b], u.oneCell' = true := by
  intro u hu
  simp at hu
  rcases hu with rfl | rfl <;> rfl
theorem lo_info : (Try.prog.info? 91).map (fun i => (i.zero, i.size, i.bytes)) = some (some (.agg #[.int .i64 0, .int .i64 0]), 2, 16) := by kernel_rfl
theorem owns_cells {w : World} {base b n cap : Nat} {e : TypeId} {xs : List Value} (h : w.ownsRow base e 2 (.slice (some ⟨b, 0, none⟩) n cap) n xs) {j : Nat} {u : Value} (hu : xs[j]? = some u) : w.cell? ⟨b, j, none⟩ = some u ∧ w.frozen? ⟨b, j, none⟩ = false := by
  have hj := (List.getElem?_eq_some_iff.1 hu).1
  have hl := h.1
  exact ⟨by rw [h.cellAt j (by omega)]; exact hu, h.frozenAt j⟩
theorem holds_row {w : World} {base b cap : Nat} {ps : List (Nat × Nat)} (h : w.ownsRow base 91 2 (.slice (some ⟨b, 0, none⟩) ps.length cap) ps.length (flatL ps)) (hs : ∀ x ∈ ps, x.1 < 4096) : HoldsK encL 2 w b 0 ps.toArray := by
  intro j hj
  rw [size_flatK] at hj
  rw [get_flatK _ _ _ _ hj]
  simp only [List.size_toArray] at hj
  obtain ⟨x, hx⟩ : ∃ x, ps[j / 2]? = some x := ⟨_, List.getElem?_eq_getElem (by omega)⟩
  have hm := hs x (List.mem_of_getElem? hx)
  obtain ⟨h1, h2⟩ := flat_get ps (j / 2) x hx
  have ex : ps.toArray[j / 2]! = x := by
    rw [getElem!_pos _ _ (by simp; omega)]
    have := List.getElem?_eq_some_iff.1 hx
    obtain ⟨_, h⟩ := this
    simpa using h
  rw [ex, Nat.zero_add]
  have e1 : x.1 % 4096 = x.1 := Nat.mod_eq_of_lt hm
  rcases Nat.mod_two_eq_zero_or_one j with h0 | h0
  · rw [h0]
    have : j = j / 2 * 2 := by omega
    rw [← this] at h1
    have := owns_cells h h1
    simpa [encL, e1] using this
  · rw [h0]
    have : j = j / 2 * 2 + 1 := by omega
    rw [← this] at h2
    have := owns_cells h h2
    simpa [encL] using this
theorem lo_held {w : World} {b : Nat} {ps : List (Nat × Nat)} (h : HoldsK encL 2 w b 0 ps.toArray) (hs : ∀ x ∈ ps, x.1 < 4096) : Lo w (some ⟨b, 0, none⟩) ps.length ps := by
  refine ⟨rfl, fun _ => ⟨b, rfl, fun j x hx => ?_⟩⟩
  have hj := (List.getElem?_eq_some_iff.1 hx).1
  have hm := hs x (List.mem_of_getElem? hx)
  have e1 : x.1 % 4096 = x.1 := Nat.mod_eq_of_lt hm
  have ex : ps.toArray[j]! = x := by
    rw [getElem!_pos _ _ (by simp; omega)]
    obtain ⟨_, h⟩ := List.getElem?_eq_some_iff.1 hx
    simpa using h
  have h0 := (h (j * 2) (by rw [size_flatK]; simp; omega)).1
  have h1 := (h (j * 2 + 1) (by rw [size_flatK]; simp; omega)).1
  rw [get_flatK _ _ _ _ (by simp; omega), show j * 2 / 2 = j by omega, show j * 2 % 2 = 0 by omega, ex, Nat.zero_add] at h0
  rw [get_flatK _ _ _ _ (by simp; omega), show (j * 2 + 1) / 2 = j by omega, show (j * 2 + 1) % 2 = 1 by omega, ex, Nat.zero_add] at h1
  exact ⟨by simpa [encL, e1] using h0, by simpa [encL] using h1⟩
/-- the sort, at a row of loose sectors -/
theorem sort_any {w : World} {base b cap n : Nat} {S : Nat → Sec} {ps : List (Nat × Nat)} (h : w.ownsRow base 91 2 (.slice (some ⟨b, 0, none⟩) ps.length cap) ps.length (flatL ps)) (hn : n ≤ 4096) (hm : ∀ x, x ∈ ps ↔ x ∈ looseOf n S) (hd : ps.Pairwise (fun x y => x.1 ≠ y.1)) :
    Calls Try.prog 48 #[.slice (some ⟨b, 0, none⟩) ps.length cap, .func (.func 49) #[] #[]] w fun e w' => e = .returned (.tuple #[]) ∧ Lo w' (some ⟨b, 0, none⟩) ps.length (looseOf n S) ∧ w.grownBy w' (some b) := by
  have hs : ∀ x ∈ ps, x.1 < 4096 := fun x hx => by have := (mem_loose.1 ((hm x).1 hx)).1; omega
  have hlen : ps.length ≤ 4096 := by
    have hp : ps.length = (looseOf n S).length := by
      have h1 : ps.Nodup := hd.imp (fun {a b} hne e => hne (by rw [e]))
      have h2 : (looseOf n S).Nodup := (loose_rising n S).imp (fun {a b} hlt e => by rw [e] at hlt; omega)
      exact ((List.perm_ext_iff_of_nodup h1 h2).2 hm).length_eq
    have := loose_len n S
    omega
  have hH := holds_row h hs
  have hblk : b < w.heap.size := (h.lt b rfl).2
  have eg : ∀ args w, (callFunc 49 args).run Try.prog w = .ok (.enter 49 args) w := enters_of Try.func49 (by kernel_rfl) rfl
  have hcon := AnyQ.slices_SortFunc Try.laysF6 2 Try.isAgg91 Try.sizeOf91 encL (fun _ => rfl) (fun x v hv => by simp [encL] at hv; rcases hv with rfl | rfl <;> rfl) cmpL swoL 49 #[] b 0 cap ps.toArray w eg (cmpLaysL b 0 _ w) hH hblk (by simp; omega)
  rw [List.size_toArray] at hcon
  change Calls Try.prog 48 _ _ _ at hcon
  refine hcon.mono ?_
  rintro e w' ⟨rfl, d', k, os, hp, hso, rfl⟩
  refine ⟨rfl, ?_, grown_sort d'⟩
  obtain ⟨hsz, _, hperm⟩ := hp
  simp only [List.size_toArray] at hsz hperm
  have hpl : d'.toList.Perm ps := by
    have e1 : (d'.extract 0 ps.length).toList = d'.toList := by simp [← hsz]
    have e2 : (ps.toArray.extract 0 ps.length).toList = ps := by simp
    rw [e1, e2] at hperm
    exact hperm
  have hd' : d'.toList = looseOf n S := by
    refine sorted_unique hm hd (loose_rising n S) hpl (List.pairwise_iff_getElem.2 (fun i j hi hj hij => ?_))
    simp only [Array.length_toList] at hi hj
    have h1 := hso i j (Nat.zero_le _) hij (by omega)
    rw [getElem!_pos d' i hi, getElem!_pos d' j hj, cmpL_lt] at h1
    have m1 := hs _ (hpl.mem_iff.1 (List.getElem_mem (by simpa using hi)))
    have m2 := hs _ (hpl.mem_iff.1 (List.getElem_mem (by simpa using hj)))
    simp only [Array.getElem_toList] at m1 m2 ⊢
    simp only [decide_eq_false_iff_not] at h1
    rw [Nat.mod_eq_of_lt m1, Nat.mod_eq_of_lt m2] at h1
    exact h1
  have hh := holdsK_sortWorldK_c encL 2 w b 0 ps.toArray d' k os hH hblk (by simpa using hsz)
  have e3 : d' = (looseOf n S).toArray := by rw [← hd']
  rw [e3] at hh ⊢
  have hll : (looseOf n S).length = ps.length := by rw [← hd']; simpa using hsz
  rw [← hll]
  exact lo_held hh (fun x hx => hs x ((hm x).2 hx))
end Go.Proofs.Ytdkniholeaiemaa.W
