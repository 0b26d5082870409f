/-
  The keys of a map of pages, sorted. No conditions.
-/
import Derived.Test.YtgdgehfapfgdfaaGreatDoorGbRepl
import Derived.Test.YtgdgehfapfgdfaaGreatDoorShelf
namespace Go.Proofs.YtgdgehfapfgdfaaGreatDoor.Tb
open Go.RowKit Go.Maps Go.Sort Go.Shelf Oc Dm W Dw Sr
set_option linter.unusedVariables false
set_option maxRecDepth 100000

theorem keys_fn (mb : Option Nat) (w : World) : Calls Tryz.prog 49 #[.map mb] w fun e w' => e = .returned (.func (.func 89) #[] #[.pointer (some ⟨w.heap.size, 0, none⟩)]) ∧ w' = w.alloc (.cells #[.map mb] 107) :=
  (callsIn_wide (n := 6)).1 (AnyZI.keys_in Tryz.keysA Fence.wide 6 trivial rfl mb w)
theorem sorts_fn (m : Nat) : AnyZI.SortsIn Tryz.prog Tryz.sortedA_ren Fence.wide m :=
  ⟨fun blk off cap ss W hH hblk hsz => callsIn_wide.2 (AnyM.slices_Sort_int Tryz.sortA blk off cap ss W hH hblk hsz),
   fun p cap W => callsIn_wide.2 (AnyM.slices_Sort_int_none Tryz.sortA p cap W)⟩
theorem sorted_fn {H : Type} (b nn Bm : Nat) (D0 : DataW H) (R : Value → Option (DataW H × List MemPlace)) (w : World) (hBm : Bm < w.heap.size) (hm : w.cell? ⟨Bm, 0, none⟩ = some (.map (some b))) (hown : w.ownsMap Tryz.prog 3 R b nn D0) (hmax : Maps.size D0 ≤ maxLen) (hbytes : Maps.size D0 * 8 ≤ 140737488355328) :
    Calls Tryz.prog 48 #[.func (.func 89) #[] #[.pointer (some ⟨Bm, 0, none⟩)]] w fun e w' => ∃ (v : Value) (ss : List Int), e = .returned v ∧ ss.Perm (intKeys D0) ∧
      w'.ownsRow w.heap.size 3 1 v ss.length ((ss.mergeSort (fun x y => decide (x ≤ y))).map encZ) ∧ (v = .slice none 0 0 ↔ ss = []) ∧ Below w.heap.size w w' := by
  refine (callsIn_wide (n := 6)).1 ?_
  have hseq : SeqGives Fence.wide 2 Tryz.prog 89 #[.pointer (some ⟨Bm, 0, none⟩)] encZ (fun ss => ss.Perm (intKeys D0)) (Maps.size D0) w :=
    AnyZI.keys_gives (ρ := Tryz.keysA_ren) { Tryz.keysA with } Fence.wide _ trivial rfl (by omega) Bm b nn D0 _ hBm hm hown
  have cS := AnyZI.sorted_in Tryz.sortedA Fence.wide 5 trivial trivial trivial trivial rfl (by omega) (sorts_fn _) (enters_of Tryz.func88 (by kernel_rfl) rfl) 89 #[.pointer (some ⟨Bm, 0, none⟩)] trivial (enters_of Tryz.func89 (by kernel_rfl) rfl) _ _ hmax hbytes _ hseq
  change CallsIn _ _ Tryz.prog 48 _ _ _ at cS
  exact callsIn_wide.2 (callsIn_wide.1 cS)
/-- the pages that a map has, as a new row -/
theorem sorted_any {W : World} {Bm mb M n : Nat} {f : Nat → Option (Nat → Nat)} (hm : W.cell? ⟨Bm, 0, none⟩ = some (.map (some mb))) (hU : UM W mb M n f) (hM : M ≤ 1000000) :
    Calls Tryz.prog 48 #[.func (.func 89) #[] #[.pointer (some ⟨Bm, 0, none⟩)]] W fun e w' => ∃ A c, e = .returned (.slice A (keysOf f n).length c) ∧ Fi w' A (keysOf f n).length ((keysOf f n).map fun (i : Nat) => (i : Int)) ∧ (∀ b off, A = some ⟨b, off, none⟩ → W.heap.size ≤ b) ∧ Below W.heap.size W w' := by
  obtain ⟨D, h1, h2⟩ := hU
  have hs : Maps.size D ≤ M := h1.size_le
  refine (sorted_fn mb M Bm D upElem W (World.block_lt_of_cell? W ⟨Bm, 0, none⟩ hm) hm h1 (by unfold maxLen; omega) (by omega)).mono fun e w' ⟨v, ss, he, hp, hr, hn, hb⟩ => ?_
  subst he
  have hp2 : ss.Perm ((keysOf f n).map fun (i : Nat) => (i : Int)) := hp.trans (UM.perm h1 h2).symm
  have hsort : ss.mergeSort leI = (keysOf f n).map fun (i : Nat) => (i : Int) := (mergeSort_of_perm_i hp2).trans (keys_sorted f n)
  have hlen : ss.length = (keysOf f n).length := by have := hp2.length_eq; rwa [List.length_map] at this
  have hr2 : Rw.OwnV w' 3 W.heap.size v (((keysOf f n).map fun (i : Nat) => (i : Int)).map (Value.int .i64)) := by
    have e : (fun x y : Int => decide (x ≤ y)) = leI := rfl
    rw [e, hsort] at hr
    unfold Rw.OwnV
    rw [List.length_map, List.length_map, ← hlen]
    exact hr
  obtain ⟨A, c, rfl, _, _, hsl⟩ := hr2.form (n := (keysOf f n).length) (by rw [List.length_map, List.length_map])
  refine ⟨A, c, rfl, hsl, fun b off e => ?_, hb⟩
  subst e
  exact (hr2.ge b rfl).1
end Go.Proofs.YtgdgehfapfgdfaaGreatDoor.Tb
