/-
  The page's examples hold. No conditions.
-/
import Derived.Test.YtkbnmgaelcajlaaDoorOctUnhex
namespace Go.Proofs.YtkbnmgaelcajlaaDoor.W
open Go.RowKit Oc
set_option linter.unusedVariables false

set_option maxHeartbeats 2000000 in
theorem awake_any (w : World) (he : Env w) : Calls Tryd.prog 14 #[] w fun e w' => e = .returned (.bool true) ∧ Below w.heap.size w w' := by
  have HE := Lib.hid he
  clear he
  have hs1 : (bstr (octs 258 3)).toList = [2, 1, 0] := by decide +kernel
  have hs2 : (bstr (hexOf [0, 255])).toList = [48, 48, 102, 102] := by decide +kernel
  go_enter Tryd.func14, Tryd.ntmps14
  go_wp2_with fail
  refine (read_any _ 3 _ [2, 1, 0] _ (by omega) (Oct.cells w _ [2, 1, 0] _ rfl)).mono ?_; rintro e w1 ⟨R, rfl, hR, hr, hb⟩
  have B1 : Hid (Below w.heap.size w w1) := ((Below.refl _ _).alloc (Nat.le_refl _) _).trans (hb.mono (by simp))
  have R1 := Lib.hid hr
  have HR : Hid (w.heap.size ≤ R) := Nat.le_trans (by simp) hR
  clear hb hr hR
  go_wp2_with fail
  refine (u_take 2 R1.out (by simp) (by omega) (by omega) (by simp) 258 (by decide)).mono ?_; rintro e w2 ⟨rfl, hr, hg⟩
  have R2 := Lib.hid hr
  have B2 : Hid (Below w.heap.size w w2) := B1.out.trans (below_of_grown hg B1.out.size HR.out)
  clear hr hg
  go_wp2_with fail
  refine (put_yes none 0 _ [] 258 3 _ (by omega) (Oct.nil _ _) (by omega) (by omega) (by omega)).mono ?_; rintro e w3 ⟨v, rfl, ho, hb⟩
  obtain ⟨A3, c3, rfl, l3, s3⟩ := ho.form (n := 3) rfl
  have cv := s3.conv bt Tryd.underlying9 c3
  rw [List.nil_append] at cv
  have R3 := Lib.hid (R2.out.below hb)
  have B3 : Hid (Below w.heap.size w w3) := B2.out.trans (hb.mono B2.out.size)
  clear ho hb s3 l3
  go_wp2_with fail
  refine (hex_any _ 2 _ [0, 255] _ (by omega) (Oct.cells w3 _ [0, 255] _ rfl) ((HE.out.below B3.out).below ((Below.refl _ _).alloc (Nat.le_refl _) _))).mono ?_; rintro e w4 ⟨rfl, hb⟩
  have B4 : Hid (Below w3.heap.size w3 w4) := ((Below.refl _ _).alloc (Nat.le_refl _) _).trans (hb.mono (by simp))
  clear hb cv
  have R4 := Lib.hid (R3.out.below B4.out)
  go_wp2_with fail
  refine (left_good R4.out).mono ?_; rintro e w5 ⟨rfl, rfl⟩
  go_wp2
  go_ret
  exact ⟨rfl, B3.out.trans (B4.out.mono B3.out.size)⟩
end Go.Proofs.YtkbnmgaelcajlaaDoor.W
