/-
  The page's examples hold. No conditions.
-/
import Derived.Test.YtnalbonplhbboaaDoorPgGet
namespace Go.Proofs.YtnalbonplhbboaaDoor.W
open Go.RowKit Oc
set_option linter.unusedVariables false

theorem ex_put : putL 2 [7] = sealed (body 2 [7]) := putL_ok (k := 2) (by decide) (by decide)
theorem ex_take : (sealed (body 2 [7])).take 4 = [213, 2, 7, 0] := by decide +kernel
theorem ex_get : getE (List.replicate 64 0) 2 = 40 := by decide +kernel
theorem ex_text : (bstr [213, 2, 7, 0]).toList = [213, 2, 7, 0] := by decide +kernel

set_option maxRecDepth 100000 in
set_option maxHeartbeats 1000000 in
theorem awake_any (w : World) (he : Env w) : Calls Tryd.prog 9 #[] w fun e w' => e = .returned (.bool true) ∧ Below w.heap.size w w' := by
  have HE := Lib.hid he
  clear he
  have HP : Hid (putE 2 1 = 0) := by show _ = _; decide
  have HPL : Hid ((sealed (body 2 [7])).length = 64) := (page_facts (k := 2) (by decide) (by decide)).1
  have HK : Hid (kindE (sealed (body 2 [7])) = 2) := page_kind (k := 2) (by decide) (by decide)
  have HX := Lib.hid ex_put
  have HT := Lib.hid ex_take
  have HG := Lib.hid ex_get
  go_enter Tryd.func9, Tryd.ntmps9
  go_wp2_with fail
  refine (pput_any (some ⟨w.heap.size, 0, none⟩) 1 1 [7] 2 _ (by omega) (Oct.one w _ 7 _ rfl) (HE.out.alloc _)).mono ?_; rintro e w1 ⟨v1, rfl, o, b⟩
  rw [HX.out] at o
  rw [show putE 2 ([7] : List UInt8).length = 0 from HP.out]
  obtain ⟨A1, c1, rfl, l1, s1⟩ := o.form HPL.out
  have S1 := Lib.hid s1
  have B1 : Hid (Below w.heap.size w w1) := bthen (balloc _ _) b
  clear o b s1
  go_wp2_with (at_make; refine wpList_make_zero rfl _ _ 22 rfl bt 64 64 64 rfl rfl rfl rfl (by omega) ?_; intro w2 o2 b2; obtain ⟨A2, c2, hv2, l2, s2⟩ := o2.form (n := 64) (by rw [List.length_replicate]); injection hv2 with hv2 hv4 hv5; have S2 := Lib.hid s2; have HA := Lib.hid hv2; have B2 := Lib.hid b2; clear o2 b2 s2 l2 hv2 hv4 hv5)
  refine (pget_any _ 64 64 (List.replicate 64 0) 2 _ (by omega) (by omega) (by rw [HA.out]; exact S2.out) (HE.out.below (bthen B1.out B2.out))).mono ?_; rintro e w3 ⟨v3, rfl, o, b⟩
  rw [HG.out]
  have B3 : Hid (Below w1.heap.size w1 w3) := bthen B2.out b
  clear o b
  have s4 := (S1.out.below B3.out).take (k := 4) (by omega)
  rw [HT.out] at s4
  have cv := s4.conv bt Tryd.underlying9 c1
  have ht := ex_text
  clear s4
  go_wp2_with fail
  refine (pkind_any _ 64 _ 2 (sealed (body 2 [7])) _ (by omega) l1 (S1.out.below B3.out) (HE.out.below (bthen B1.out B3.out)) HK.out).mono ?_; rintro e w4 ⟨rfl, b⟩
  have B4 : Hid (Below w.heap.size w w4) := bthen (bthen B1.out B3.out) b
  clear b
  go_wp2
  go_ret
  exact ⟨rfl, B4.out⟩
end Go.Proofs.YtnalbonplhbboaaDoor.W
