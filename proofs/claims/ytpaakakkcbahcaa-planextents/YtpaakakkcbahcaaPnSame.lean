/-
  Lists compared; what the walk of PlanExtents leans on. No conditions.
-/
import Derived.Test.YtpaakakkcbahcaaPnRmask
namespace Go.Proofs.Ytpaakakkcbahcaa.W
open Go.RowKit Num Rw Mk
set_option linter.unusedVariables false

/-- rows that are alike are told so -/
theorem same_yes (A A2 : Option Addr) (n c c2 : Nat) (zs : List Int) (w : World) (hn : n ≤ 1000000000) (h1 : Sl w A n (zs.map (Value.int .i64))) (h2 : Sl w A2 n (zs.map (Value.int .i64))) :
    Calls Try.prog 26 #[.slice A n c, .slice A2 n c2] w fun e w' => e = .returned (.bool true) ∧ Below w.heap.size w w' := by
  have H1 := Lib.hid h1
  have H2 := Lib.hid h2
  clear h1 h2
  go_enter Try.func26, Try.ntmps26
  go_wp2
  go_loopw [5] (fun q wr => ∃ j : Nat, j ≤ n ∧ q = .int .i64 (j : Int) ∧ Hid (∃ m, wr = w.drewN m)) (fun q _ => n - (intOf q).toNat)
  case atStart => exact ⟨0, by omega, rfl, 0, rfl⟩
  case round =>
    obtain ⟨j, hj, rfl, HD⟩ := hrel
    obtain ⟨m, rfl⟩ := HD.out
    by_cases hlt : j < n
    · obtain ⟨z, hz⟩ : ∃ z, zs[j]? = some z := ⟨_, List.getElem?_eq_getElem (by have := H1.out.len; rw [List.length_map] at this; omega)⟩
      have hz2 : (zs.map (Value.int .i64))[j]? = some (Value.int .i64 z) := by rw [List.getElem?_map, hz]; rfl
      obtain ⟨b, off, rfl, hcell⟩ := H1.out.at_ hz2
      obtain ⟨b2, off2, rfl, hcell2⟩ := H2.out.at_ hz2
      clear hz hz2
      go_wp2
      go_quiet (fail)
      go_wp2
      go_roundw
      case rel => exact ⟨j + 1, by omega, rfl, _, rfl⟩
      case measure => simp [intOf]; omega
    · have : j = n := by omega
      subst this
      go_wp2
      go_ret
      exact ⟨rfl, below_drewN (Below.refl _ _) _⟩
theorem exs_map (L c : Nat) : exs L c = ((List.range c).map fun t => ((L / 8 + t : Nat) : Int)).map (Value.int .i64) := by unfold exs; rw [List.map_map]; rfl
theorem bt : Oc.ByteTy Try.prog 57 5 := ⟨Try.underlying57, Try.underlying5, by kernel_rfl⟩
theorem oct_of {w : World} {A : Option Addr} {n L h j : Nat} (s : Sl w A n (mkv L h j)) : Oc.Oct w A n (mks L h j) := by
  refine ⟨by have := s.1; unfold mkv at this; rwa [List.length_map] at this, fun hn => ?_⟩
  obtain ⟨b, off, e, hc⟩ := s.2 hn
  refine ⟨b, off, e, fun t x hx => hc t _ ?_⟩
  unfold mkv
  rw [List.getElem?_map, hx]
  rfl
/-- what both Masks tell -/
theorem masks_two (p : Pl) (lba n : Int) (nb : Nat) (h0 : p.a0 = nb) (hb : nb ≤ 512) (h1 : -9223372036854775808 ≤ lba) (h2 : lba ≤ 9223372036854775807) (h3 : -9223372036854775808 ≤ n) (h4 : n ≤ 9223372036854775807) :
    ∃ (k : Nat) (zs : List Int) (ms : List UInt8), k ≤ 1000 ∧
      (∀ w, Calls Try.prog 24 #[(.agg #[.int .i64 p.a0, .int .i64 p.a1, .int .i64 p.a2, .int .i64 p.a3, .int .i64 p.a4, .int .i64 p.a5, .int .i64 p.a6, .int .i64 p.a7, .int .i64 p.a8, .int .i64 p.a9, .int .i64 p.a10, .int .i64 p.a11, .int .i64 p.a12]), .int .i64 lba, .int .i64 n] w fun e w' => ∃ A c A2 c2, e = .returned (.tuple #[.slice A k c, .slice A2 k c2]) ∧ Sl w' A k (zs.map (Value.int .i64)) ∧ Oc.Oct w' A2 k ms ∧ Below w.heap.size w w') ∧
      (∀ w, Calls Try.prog 25 #[(.agg #[.int .i64 p.a0, .int .i64 p.a1, .int .i64 p.a2, .int .i64 p.a3, .int .i64 p.a4, .int .i64 p.a5, .int .i64 p.a6, .int .i64 p.a7, .int .i64 p.a8, .int .i64 p.a9, .int .i64 p.a10, .int .i64 p.a11, .int .i64 p.a12]), .int .i64 lba, .int .i64 n] w fun e w' => ∃ A c A2 c2, e = .returned (.tuple #[.slice A k c, .slice A2 k c2]) ∧ Sl w' A k (zs.map (Value.int .i64)) ∧ Oc.Oct w' A2 k ms ∧ Below w.heap.size w w') := by
  obtain ⟨L, hL⟩ : ∃ L : Nat, (if lba < 0 then 0 else lba) = (L : Int) := ⟨(if lba < 0 then 0 else lba).toNat, by split <;> omega⟩
  obtain ⟨E, hE⟩ : ∃ E, (if (nb : Int) < sat (lba + n) then (nb : Int) else sat (lba + n)) = E := ⟨_, rfl⟩
  have hEn : E ≤ nb := by split at hE <;> omega
  refine ⟨cnt L E.toNat, (List.range (cnt L E.toNat)).map (fun t => ((L / 8 + t : Nat) : Int)), mks L E.toNat (cnt L E.toNat), by have := cnt_le (L := L) (i := E.toNat); omega, fun w => (masks_any p lba n nb L E h0 hb hL hE w h1 h2 h3 h4).mono ?_, fun w => (rmasks_any p lba n nb L E h0 hb hL hE w h1 h2 h3 h4).mono ?_⟩
  all_goals
    rintro e w' ⟨v1, v2, rfl, o1, o2, b⟩
    obtain ⟨A, c, rfl, _, _, s1⟩ := o1.form (exs_len _ _)
    obtain ⟨A2, c2, rfl, _, _, s2⟩ := o2.form (mkv_len _ _ _)
    rw [exs_map] at s1
    exact ⟨A, c, A2, c2, rfl, s1, oct_of s2, b⟩
end Go.Proofs.Ytpaakakkcbahcaa.W
