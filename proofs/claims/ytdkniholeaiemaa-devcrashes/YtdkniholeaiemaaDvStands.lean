/-
  Contracts of stands, Peek, Read and fix. No conditions.
-/
import Derived.Test.YtdkniholeaiemaaDvPow
import Derived.Test.YtdkniholeaiemaaDvLaw
namespace Go.Proofs.Ytdkniholeaiemaa.W
open Go.RowKit Oc Dm
set_option linter.unusedVariables false

theorem srow_one {w : World} {b : Nat} {f : Nat → List UInt8} (h : SRow w b 1 1 f) : w.heap[b]? = some (.cells ((f 0).map ov).toArray 95 (0, 0)) := by
  obtain ⟨cur, hg, h1, h2, h3, h4⟩ := h
  obtain ⟨hl, hc⟩ := h4 0 (by decide)
  rw [hg]
  congr 2
  apply Array.ext_getElem?
  intro j
  by_cases hj : j < 64
  · obtain ⟨x, hx⟩ : ∃ x, (f 0)[j]? = some x := ⟨_, List.getElem?_eq_getElem (by omega)⟩
    have := hc j x hx
    simp at this
    rw [this]
    simp [hx]
  · rw [Array.getElem?_eq_none (by omega), Array.getElem?_eq_none (by simp [hl]; omega)]
theorem sec_size {x : List UInt8} (h : x.length = 64) : (Try.prog.info? 95).map (·.size) = some x.length := by rw [h]; kernel_rfl
section
variable {w w' : World} {F : Nat → Prop} {D p n N : Nat} {S : Nat → Sec} {rd wr fx m r : Nat} {g : Nat → Option Pl} {s : PS}
theorem DvAt.grown0 (h : DvAt w F D p n N S rd wr fx m r g) (hg : w.grownBy w' none) : DvAt w' F D p n N S rd wr fx m r g := h.kept (G := fun _ => False) (Chg.of_grown hg (fun k e => by cases e)) (fun _ _ x => x)
theorem DvAt.new (h : DvAt w F D p n N S rd wr fx m r g) {b : Nat} (hb : w.heap.size ≤ b) (hg : w.grownBy w' (some b)) : DvAt w' F D p n N S rd wr fx m r g := h.kept (G := fun k => k = b) (Chg.of_grown hg (fun k e _ => by injection e with e; exact e.symm)) (fun k x e => by have := h.bound k x; omega)
theorem DvAt.below (h : DvAt w F D p n N S rd wr fx m r g) (hc : Below w.heap.size w w') : DvAt w' F D p n N S rd wr fx m r g := h.kept (G := fun _ => False) (Chg.of_below hc) (fun _ _ x => x)
theorem DvAt.sec (h : DvAt w F D p n N S rd wr fx m r g) {i : Nat} (hi : i < n) : (S i).fixed.length = 64 ∧ (∀ x ∈ (S i).loose, x.length = 64) ∧ (S i).stands.length = 64 := by
  have h1 := h.fixd.len hi
  have h2 : ∀ x ∈ (S i).loose, x.length = 64 := by
    intro x hx
    cases hg : g i with
    | none => rw [h.none_ i hi hg] at hx; cases hx
    | some t =>
      obtain ⟨_, e, c, _⟩ := h.some_ i t hi hg
      obtain ⟨j, hj, rfl⟩ := List.mem_iff_getElem.1 hx
      have := c.len (i := j) (by omega)
      simpa [List.getD_eq_getElem?_getD, hj] using this
  refine ⟨h1, h2, ?_⟩
  by_cases e : (S i).loose = []
  · rw [Sec.stands_fixed e]; exact h1
  · rw [Sec.stands_loose e]
    have hl : 0 < (S i).loose.length := List.length_pos_iff.2 e
    apply h2
    rw [List.getD_eq_getElem?_getD, List.getElem?_eq_getElem (by omega)]
    exact List.getElem_mem _
set_option maxRecDepth 100000 in
set_option maxHeartbeats 2000000 in
theorem stands_any (h : DvAt w F D p n N S rd wr fx m r g) (i : Nat) (hi : i < n) :
    Calls Try.prog 45 #[.pointer (some ⟨D, 0, none⟩), .int .i64 (i : Int)] w fun e w' => e = .returned (sv (S i).stands) ∧ Below w.heap.size w w' := by
  have H := Lib.hid h
  have hn := h.hn
  have hi2 : (i : Int) < (n : Int) := by omega
  have hw : (i : Int) ≤ 4096 := by omega
  clear h
  cases hg : g i with
  | none =>
    have e0 := H.out.none_ i hi hg
    have ES := Lib.hid (Sec.stands_fixed e0)
    have HV : Hid (slv (g i) = .slice none 0 0) := Lib.hid (congrArg slv hg)
    clear e0
    go_enter Try.func45, Try.ntmps45
    go_wp2_with (first | ((with_reducible refine L_alloc ?_); intro w1 r1 g1 s1; have H1 := Lib.hid (H.out.grown0 g1); have R1 := Lib.hid r1; have G1 := Lib.hid g1; obtain ⟨c0, c1, c2, c3, c4, c5, fr⟩ := H1.out.cells; clear r1 g1 s1) | ((with_reducible refine L_look ?_ ?_ H1.out.lm hi hn HV.out ?_); exact rfl; exact rfl) | ((with_reducible refine L_load ?_ (H1.out.fixd.oct hi) ?_); exact rfl) | ((with_reducible refine L_store (i := 0) (xs := (S i).fixed) ?_ ?_ R1.out ?_ ?_ ?_); exact rfl; exact rfl; decide; exact (H1.out.sec hi).1; intro w2 r2 g2 s2; have R2 := Lib.hid r2; have G2 := Lib.hid g2; clear r2 g2 s2))
    refine bodyPost_ret (results_cell_row rfl _ _ _ _ _ _ _ rfl (srow_one R2.out) Try.underlying95 rfl (by rw [List.size_toArray, List.length_map]; exact sec_size ((H1.out.sec hi).1))) rfl ?_
    refine ⟨by rw [ES.out]; rfl, ?_⟩
    exact ((Below.refl _ w).grown G1.out (Nat.le_refl _) (fun j e => by cases e)).grown G2.out G1.out.size (fun j e => by injection e with e; omega)
  | some t =>
    obtain ⟨b, k, c⟩ := t
    obtain ⟨e0, e1, row, hF, hfx⟩ := H.out.some_ i _ hi hg
    dsimp only at e1 row hF hfx
    have hk : 0 < k := by rw [e1]; exact List.length_pos_iff.2 e0
    have hk2 : k ≤ 1000000000 := by rw [e1]; exact Nat.le_trans (H.out.hl i hi) H.out.hN
    obtain ⟨k', rfl⟩ : ∃ k', k = k' + 1 := ⟨k - 1, by omega⟩
    have ES := Lib.hid (show (S i).stands = (S i).loose.getD k' [] by rw [Sec.stands_loose e0, ← e1]; rfl)
    have ROW := Lib.hid row
    have HV : Hid (slv (g i) = .slice (some ⟨b, 0, none⟩) (k' + 1) c) := Lib.hid (congrArg slv hg)
    have HB := Lib.hid (H.out.bound _ hF)
    have EL := Lib.hid (row.len (i := k') (by omega))
    clear e0 e1 row hfx
    have hcast : ((k' + 1 : Nat) : Int) = (k' : Int) + 1 := by omega
    go_enter Try.func45, Try.ntmps45
    go_wp2_with (first | ((with_reducible refine L_alloc ?_); intro w1 r1 g1 s1; have H1 := Lib.hid (H.out.grown0 g1); have ROW1 := Lib.hid (ROW.out.heap (g1.block _ HB.out (by simp))); have R1 := Lib.hid r1; have G1 := Lib.hid g1; obtain ⟨c0, c1, c2, c3, c4, c5, fr⟩ := H1.out.cells; clear r1 g1 s1) | ((with_reducible refine L_look ?_ ?_ H1.out.lm hi hn HV.out ?_); exact rfl; exact rfl) | ((with_reducible refine L_load ?_ (ROW1.out.oct (i := k') (by omega)) ?_); exact rfl) | ((with_reducible refine L_store (i := 0) (xs := (S i).loose.getD k' []) ?_ ?_ R1.out ?_ ?_ ?_); exact rfl; exact rfl; decide; exact EL.out; intro w2 r2 g2 s2; have R2 := Lib.hid r2; have G2 := Lib.hid g2; clear r2 g2 s2))
    refine bodyPost_ret (results_cell_row rfl _ _ _ _ _ _ _ rfl (srow_one R2.out) Try.underlying95 rfl (by rw [List.size_toArray, List.length_map]; exact sec_size EL.out)) rfl ?_
    refine ⟨by rw [ES.out]; rfl, ?_⟩
    exact ((Below.refl _ w).grown G1.out (Nat.le_refl _) (fun j e => by cases e)).grown G2.out G1.out.size (fun j e => by injection e with e; omega)
end
end Go.Proofs.Ytdkniholeaiemaa.W
