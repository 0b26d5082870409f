/-
  The walk of the statement on digits. No conditions.
-/
import Derived.Test.YtkbnmgaelcajlaaDoorOctAll
namespace Go.Proofs.YtkbnmgaelcajlaaDoor.W
open Go.RowKit Oc
set_option linter.unusedVariables false

theorem bstr_list (l : List UInt8) : (bstr l).data.toList = l := by simp [bstr]
theorem bstr_size (l : List UInt8) : (bstr l).size = l.length := by simp [bstr, ByteArray.size]
theorem bthen2 {w a b : World} (h : Below w.heap.size w a) (k : Below a.heap.size a b) : Below w.heap.size w b := h.trans (k.mono h.size)
theorem below_dn {w a : World} (h : Below w.heap.size w a) (n : Nat) : Below w.heap.size w (a.drewN n) := below_drewN h n

set_option maxHeartbeats 4000000 in
theorem digits_walk (A : Option Addr) (n c : Nat) (xs : List UInt8) (s t : ByteArray) (w : World) (hc : n ≤ c) (ho : Oct w A n xs) (he : Env w) (ht : (300 < s.size ∧ t = s.extract 0 300) ∨ (s.size ≤ 300 ∧ t = s)) :
    Calls Tryd.prog 6 #[.slice A n c, .string s] w fun e w' => e = .returned (.bool true) ∧ Below w.heap.size w w' := by
  obtain ⟨m, hm⟩ : ∃ m, m = min n 200 := ⟨_, rfl⟩
  have hm2 : m ≤ 200 := by omega
  have hmc : m ≤ c := by omega
  obtain ⟨ys, eys⟩ : ∃ ys, xs.take m = ys := ⟨_, rfl⟩
  have hys : Oct w A m ys := by rw [← eys]; exact ho.take (by omega)
  have hyl : Hid (ys.length = m) := hys.len
  have ht3 : t.size ≤ 300 := by
    rcases ht with ⟨h1, rfl⟩ | ⟨h1, rfl⟩
    · simp; omega
    · exact h1
  obtain ⟨S, es⟩ : ∃ S, bstr (hexOf ys) = S := ⟨_, rfl⟩
  have hS1 : Hid (unhex S.data.toList = some ys) := by rw [← es, bstr_list]; exact unhex_hexOf ys
  have hS2 : S.size ≤ 400 := by rw [← es, bstr_size, hexOf_length, hyl.out]; omega
  obtain ⟨r, er⟩ : ∃ r, unhex t.data.toList = r := ⟨_, rfl⟩
  have HM := Lib.hid hm
  have HO := Lib.hid hys
  have HE := Lib.hid he
  have ES := Lib.hid es
  have ER := Lib.hid er
  clear hm hys he ho eys es er
  rcases ht with ⟨hs, et⟩ | ⟨hs, et⟩
  all_goals
    subst et
    rcases r with _ | out
    · go_enter Tryd.func6, Tryd.ntmps6
      go_wp2_with fail
      refine (few_any _ _ _ m _ HM.out hc).mono ?_; rintro e w' ⟨rfl, rfl⟩
      go_wp2_with fail
      refine (hex_any _ _ _ _ _ (by omega) HO.out HE.out).mono ?_; rintro e w1 ⟨rfl, b1⟩
      have B1 := Lib.hid b1
      clear b1
      rw [ES.out]
      go_wp2_with fail
      refine (unhex_any _ (some ys) _ (by omega) (HE.out.below B1.out) hS1.out).mono ?_; rintro e w2 ⟨b2, v2, rfl, o2⟩
      obtain ⟨A2, c2, rfl, l2, s2⟩ := o2.form hyl.out
      have B2 := Lib.hid (bthen2 B1.out b2)
      have S2 := Lib.hid s2
      clear b2 o2 s2 l2
      go_wp2_with fail
      refine (unhex_any _ none _ (by omega) (HE.out.below B2.out) ER.out).mono ?_; rintro e w3 ⟨b3, rfl⟩
      have B3 := Lib.hid (bthen2 B2.out b3)
      have S3 := Lib.hid (S2.out.below b3)
      clear b3
      go_wp2_with fail
      refine (runhex_any _ none _ (by omega) ER.out).mono ?_; rintro e w4 ⟨b4, rfl⟩
      have B4 := Lib.hid (bthen2 B3.out b4)
      have S4 := Lib.hid (S3.out.below b4)
      clear b4
      go_wp2_with fail
      refine (hex_any _ _ _ _ _ (by omega) (HO.out.below B4.out) (HE.out.below B4.out)).mono ?_; rintro e w5 ⟨rfl, b5⟩
      have B5 := Lib.hid (bthen2 B4.out b5)
      have S5 := Lib.hid (S4.out.below b5)
      clear b5
      go_wp2_with fail
      refine (rhex_any _ _ _ _ _ (by omega) (HO.out.below B5.out)).mono ?_; rintro e w6 ⟨rfl, j, rfl⟩
      have cv1 := (S5.out.drewN j).conv bt Tryd.underlying9 c2
      have cv2 := ((HO.out.below B5.out).drewN j).conv bt Tryd.underlying9 c
      have cv3 := (Oct.nil (w5.drewN j) none).conv bt Tryd.underlying9 0
      go_wp2_with fail
      refine (awake_any _ (HE.out.below (below_dn B5.out j))).mono ?_; rintro e w7 ⟨rfl, b7⟩
      have B7 := Lib.hid (bthen2 (below_dn B5.out j) b7)
      clear b7 cv1 cv2 cv3
      go_wp2
      go_ret
      exact ⟨rfl, B7.out⟩
    · obtain ⟨k, ek⟩ : ∃ k, out.length = k := ⟨_, rfl⟩
      have EK := Lib.hid ek
      clear ek
      go_enter Tryd.func6, Tryd.ntmps6
      go_wp2_with fail
      refine (few_any _ _ _ m _ HM.out hc).mono ?_; rintro e w' ⟨rfl, rfl⟩
      go_wp2_with fail
      refine (hex_any _ _ _ _ _ (by omega) HO.out HE.out).mono ?_; rintro e w1 ⟨rfl, b1⟩
      have B1 := Lib.hid b1
      clear b1
      rw [ES.out]
      go_wp2_with fail
      refine (unhex_any _ (some ys) _ (by omega) (HE.out.below B1.out) hS1.out).mono ?_; rintro e w2 ⟨b2, v2, rfl, o2⟩
      obtain ⟨A2, c2, rfl, l2, s2⟩ := o2.form hyl.out
      have B2 := Lib.hid (bthen2 B1.out b2)
      have S2 := Lib.hid s2
      clear b2 o2 s2 l2
      go_wp2_with fail
      refine (unhex_any _ (some out) _ (by omega) (HE.out.below B2.out) ER.out).mono ?_; rintro e w3 ⟨b3, v3, rfl, o3⟩
      obtain ⟨A3, c3, rfl, l3, s3⟩ := o3.form EK.out
      have B3 := Lib.hid (bthen2 B2.out b3)
      have S3 := Lib.hid (S2.out.below b3)
      have T3 := Lib.hid s3
      clear b3 o3 s3 l3
      go_wp2_with fail
      refine (runhex_any _ (some out) _ (by omega) ER.out).mono ?_; rintro e w4 ⟨b4, v4, rfl, o4⟩
      obtain ⟨A4, c4, rfl, l4, s4⟩ := o4.form EK.out
      have B4 := Lib.hid (bthen2 B3.out b4)
      have S4 := Lib.hid (S3.out.below b4)
      have T4 := Lib.hid (T3.out.below b4)
      have U4 := Lib.hid s4
      clear b4 o4 s4 l4
      go_wp2_with fail
      refine (hex_any _ _ _ _ _ (by omega) (HO.out.below B4.out) (HE.out.below B4.out)).mono ?_; rintro e w5 ⟨rfl, b5⟩
      have B5 := Lib.hid (bthen2 B4.out b5)
      have S5 := Lib.hid (S4.out.below b5)
      have T5 := Lib.hid (T4.out.below b5)
      have U5 := Lib.hid (U4.out.below b5)
      clear b5
      go_wp2_with fail
      refine (rhex_any _ _ _ _ _ (by omega) (HO.out.below B5.out)).mono ?_; rintro e w6 ⟨rfl, j, rfl⟩
      have cv1 := (S5.out.drewN j).conv bt Tryd.underlying9 c2
      have cv2 := ((HO.out.below B5.out).drewN j).conv bt Tryd.underlying9 c
      have cv3 := (T5.out.drewN j).conv bt Tryd.underlying9 c3
      have cv4 := (U5.out.drewN j).conv bt Tryd.underlying9 c4
      go_wp2_with fail
      refine (awake_any _ (HE.out.below (below_dn B5.out j))).mono ?_; rintro e w7 ⟨rfl, b7⟩
      have B7 := Lib.hid (bthen2 (below_dn B5.out j) b7)
      clear b7 cv1 cv2 cv3 cv4
      go_wp2
      go_ret
      exact ⟨rfl, B7.out⟩

theorem digits_law (w : World) (A : Option Addr) (n c : Nat) (xs : List UInt8) (hc : n ≤ c) (hm : c ≤ maxLen) (ho : Oct w A n xs) (s : ByteArray) (hs : s.size ≤ maxLen) (he : Env w) :
    Calls Tryd.prog 6 #[.slice A n c, .string s] w fun e w' => e = .returned (.bool true) ∧ Below w.heap.size w w' := by
  by_cases h : 300 < s.size
  · exact digits_walk A n c xs s _ w hc ho he (.inl ⟨h, rfl⟩)
  · exact digits_walk A n c xs s _ w hc ho he (.inr ⟨by omega, rfl⟩)
end Go.Proofs.YtkbnmgaelcajlaaDoor.W
