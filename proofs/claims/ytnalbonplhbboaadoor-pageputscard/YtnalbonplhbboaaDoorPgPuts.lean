/-
  The walk of the statement on Put. No conditions.
-/
import Derived.Test.YtnalbonplhbboaaDoorPgGets
namespace Go.Proofs.YtnalbonplhbboaaDoor.W
open Go.RowKit Oc
set_option linter.unusedVariables false
attribute [local go_sem ↓] Go.wp_at_zero Go.wp_at_succ

theorem env_drew {w : World} (h : Env w) : Env w.drew := h

set_option maxRecDepth 100000 in
set_option maxHeartbeats 4000000 in
theorem puts_no (k : Int) (A : Option Addr) (n c m : Nat) (ys : List UInt8) (o : Int) (w : World) (hm : m = min n 70) (hc : n ≤ c) (ho : Oct w A m ys) (he : Env w) (h0 : putE k ys.length ≠ 0) :
    Calls Tryd.prog 3 #[.int .i64 k, .slice A n c, .int .i64 o] w fun e w' => e = .returned (.bool true) ∧ Below w.heap.size w w' := by
  have HM := Lib.hid hm
  have HO := Lib.hid ho
  have HE := Lib.hid he
  have hm7 : m ≤ 70 := by omega
  obtain ⟨E, hE⟩ : ∃ E, putE k ys.length = E := ⟨_, rfl⟩
  have hx := putL_no h0
  rw [hE] at h0
  have EE := Lib.hid hE
  have EX := Lib.hid hx
  clear hm ho he hE hx
  go_enter Tryd.func3, Tryd.ntmps3
  go_wp2_with fail
  refine (few_any _ _ _ m _ HM.out hc).mono ?_; rintro e w' ⟨rfl, rfl⟩
  go_wp2_with fail
  refine (pput_any _ _ _ ys _ _ (by omega) HO.out HE.out).mono ?_; rintro e w1 ⟨v1, rfl, o1, b⟩
  rw [EE.out]
  rw [EX.out] at o1
  obtain ⟨A1, c1, rfl, l1, s1⟩ := o1.form (n := 0) rfl
  have S1 := Lib.hid s1
  have B1 := Lib.hid b
  clear o1 b s1
  go_wp2_with fail
  refine (rput_any _ _ _ ys _ _ (by omega) (HO.out.below B1.out)).mono ?_; rintro e w2 ⟨v2, rfl, o2, b⟩
  rw [EE.out]
  rw [EX.out] at o2
  obtain ⟨A2, c2, rfl, l2, s2⟩ := o2.form (n := 0) rfl
  have B2 : Hid (Below w.heap.size w w2) := bthen B1.out b
  have cv1 := (S1.out.below b).conv bt Tryd.underlying9 c1
  have cv2 := s2.conv bt Tryd.underlying9 c2
  clear o2 b s2
  go_wp2_with fail
  refine (awake_any _ (HE.out.below B2.out)).mono ?_; rintro e w6 ⟨rfl, b⟩
  have B6 : Hid (Below w.heap.size w w6) := bthen B2.out b
  clear b
  go_wp2
  go_ret
  exact ⟨rfl, B6.out⟩

theorem cut_lo_any (A : Option Addr) (n m c k : Nat) (h : m ≤ n) (hc : n ≤ c) (hk : n - m = k) : ∃ A' c', (∀ w, (Instr.slice 22 (.slice A n c) (some (.int .i64 (m : Int))) none none).run Tryd.prog w = .ok (.slice A' k c') w) ∧ ∀ w xs, Oct w A n xs → Oct w A' k (xs.drop m) := by
  by_cases hcm : c = m
  · refine ⟨A, 0, fun w => ?_, fun w xs ho => ?_⟩
    · obtain ⟨i, hi, hz0, hz1, hz2⟩ := info_parts bt.info
      subst hk
      rw [run_slice_l w 22 A n c Tryd.underlying22 .i64 m (by omega) (by omega)]
      show ((sizeOf 5).run Tryd.prog w).andThen _ = _
      simp [sizeOf, typeInfo, hi, hz1, sliced, hcm]
    · have h0 : k = 0 := by omega
      subst h0
      rw [List.drop_eq_nil_of_le (by rw [ho.len]; omega)]
      exact Oct.nil _ _
  · exact ⟨_, _, fun w => cut_lo A n m c k h hk hcm w, fun w xs ho => by subst hk; exact ho.map h⟩
theorem same_kind (κ : Nat) (ps : List UInt8) (hk : Right (κ : Int)) (hn : ps.length ≤ 58) (o : Int) (E : Int) (hE : getE (sealed (body κ ps)) o = E) : (E == 0) = (o == (κ : Int)) := by
  by_cases h : o = (κ : Int)
  · subst h
    rw [page_get hk hn] at hE
    subst hE
    simp
  · rw [page_other hk hn h] at hE
    subst hE
    simp [h]

set_option maxRecDepth 100000 in
set_option maxHeartbeats 8000000 in
theorem puts_ok (κ : Nat) (A : Option Addr) (n c m : Nat) (ys : List UInt8) (o : Int) (w : World) (hm : m = min n 70) (hc : n ≤ c) (ho : Oct w A m ys) (he : Env w) (hk : Right (κ : Int)) (h58 : m ≤ 58) :
    Calls Tryd.prog 3 #[.int .i64 (κ : Int), .slice A n c, .int .i64 o] w fun e w' => e = .returned (.bool true) ∧ Below w.heap.size w w' := by
  have hyl := ho.len
  have hpe : putE (κ : Int) ys.length = 0 := putE_ok hk (by omega)
  obtain ⟨ss, ess⟩ : ∃ ss, sealed (body κ ys) = ss := ⟨_, rfl⟩
  have hpx : putL (κ : Int) ys = ss := by rw [putL_ok hk (by omega), ess]
  have hsl : ss.length = 64 := by rw [← ess]; exact (page_facts hk (by omega)).1
  have hg := page_get hk (ps := ys) (by omega)
  have hgl := page_got hk (ps := ys) (by omega)
  have hkd := page_kind hk (ps := ys) (by omega)
  have hbl := page_blank κ ys
  rw [ess] at hg hgl hkd hbl
  obtain ⟨E, hE⟩ : ∃ E, getE ss o = E := ⟨_, rfl⟩
  have hsk := same_kind κ ys hk (by omega) o E (by rw [ess]; exact hE)
  obtain ⟨q, hq⟩ : ∃ q, (o == (κ : Int)) = q := ⟨_, rfl⟩
  rw [hq] at hsk
  obtain ⟨gs, hgs⟩ : ∃ gs, ys ++ List.replicate (58 - ys.length) 0 = gs := ⟨_, rfl⟩
  have hgn : gs.length = 58 := by rw [← hgs]; simp; omega
  have htk : gs.take m = ys := by rw [← hgs, ← hyl]; simp
  have hdr : blank (gs.drop m) = true := by rw [← hgs, ← hyl, List.drop_left]; exact blank_zeros _
  rw [hgs] at hgl
  have HM := Lib.hid hm
  have HO := Lib.hid ho
  have HE := Lib.hid he
  have HPE := Lib.hid hpe
  have HPX := Lib.hid hpx
  have HSL := Lib.hid hsl
  have HG := Lib.hid hg
  have HGL := Lib.hid hgl
  have HKD := Lib.hid hkd
  have HBL := Lib.hid hbl
  have EE := Lib.hid hE
  have HGN := Lib.hid hgn
  have HTK := Lib.hid htk
  have HDR := Lib.hid hdr
  have hκ : κ ≤ 7 := by unfold Right at hk; omega
  have HSK := Lib.hid hsk
  have HQ := Lib.hid hq
  clear hm ho he hpe hpx hsl hg hgl hkd hbl hE hgn htk hdr hyl ess hgs hk hsk hq
  go_enter Tryd.func3, Tryd.ntmps3
  go_wp2_with fail
  refine (few_any _ _ _ m _ HM.out hc).mono ?_; rintro e w' ⟨rfl, rfl⟩
  go_wp2_with fail
  refine (pput_any _ _ _ ys _ _ (by omega) HO.out HE.out).mono ?_; rintro e w1 ⟨v1, rfl, o1, b⟩
  rw [HPE.out]
  rw [HPX.out] at o1
  obtain ⟨A1, c1, rfl, l1, s1⟩ := o1.form HSL.out
  have S1 := Lib.hid s1
  have B1 := Lib.hid b
  clear o1 b s1
  go_wp2_with fail
  refine (rput_any _ _ _ ys _ _ (by omega) (HO.out.below B1.out)).mono ?_; rintro e w2 ⟨v2, rfl, o2, b⟩
  rw [HPE.out]
  rw [HPX.out] at o2
  obtain ⟨A2, c2, rfl, l2, s2⟩ := o2.form HSL.out
  have B2 : Hid (Below w.heap.size w w2) := bthen B1.out b
  have S2 := Lib.hid (S1.out.below b)
  have cv1 := (S1.out.below b).conv bt Tryd.underlying9 c1
  have cv2 := s2.conv bt Tryd.underlying9 c2
  clear o2 b s2
  go_wp2_with fail
  refine (awake_any _ (HE.out.below B2.out)).mono ?_; rintro e w3 ⟨rfl, b⟩
  have B3 : Hid (Below w.heap.size w w3) := bthen B2.out b
  have S3 := Lib.hid (S2.out.below b)
  clear b cv1 cv2
  go_wp2_with fail
  refine (pget_any _ _ _ ss _ _ (by omega) l1 S3.out (HE.out.below B3.out)).mono ?_; rintro e w4 ⟨v4, rfl, o4, b⟩
  rw [HG.out]
  rw [HGL.out] at o4
  obtain ⟨A4, c4, rfl, l4, s4⟩ := o4.form HGN.out
  have B4 : Hid (Below w.heap.size w w4) := bthen B3.out b
  have S4 := Lib.hid (S3.out.below b)
  have X4 := Lib.hid s4
  clear b o4 s4
  go_wp2_with fail
  refine (pget_any _ _ _ ss _ _ (by omega) l1 S4.out (HE.out.below B4.out)).mono ?_; rintro e w5 ⟨v5, rfl, o5, b⟩
  rw [EE.out]
  have B5 : Hid (Below w.heap.size w w5) := bthen B4.out b
  have S5 := Lib.hid (S4.out.below b)
  have X5 := Lib.hid (X4.out.below b)
  clear b o5
  have hsk := HSK.out
  have hq := HQ.out
  have xt := X5.out.take (k := m) (by omega)
  rw [HTK.out] at xt
  have cv1 := xt.drew.conv bt Tryd.underlying9 c4
  have cv2 := (HO.out.below B5.out).drew.conv bt Tryd.underlying9 c
  have i1 := cut_hi A4 58 m c4 (by omega)
  obtain ⟨d, hd⟩ : ∃ d, 58 - m = d := ⟨_, rfl⟩
  obtain ⟨A6, c6, i2, o6⟩ := cut_lo_any A4 58 m c4 d h58 l4 hd
  have O6 := Lib.hid (o6 w5.drew gs X5.out.drew)
  have hd58 : d ≤ 58 := by omega
  clear xt o6 hd
  go_wp2_with fail
  go_region_held (fun _ => True) (exact trivial) (first
    | (go_at_call 11; (with_reducible refine (blank_any A1 64 _ ss false _ (by omega) S7.out HBL.out).mono ?_); rintro e w8 ⟨rfl, rfl⟩)
    | (go_at_call 11; (with_reducible refine (blank_any A6 d _ (gs.drop m) true _ (by omega) O6.out HDR.out).mono ?_); rintro e w8 ⟨rfl, rfl⟩)
    | (go_at_call 12; (with_reducible refine (pkind_any A1 64 _ κ ss _ (by omega) l1 S5.out.drew (env_drew (HE.out.below B5.out)) HKD.out).mono ?_); rintro e w7 ⟨rfl, b7⟩; have S7 := Lib.hid (S5.out.drew.below b7); have B7 : Hid (Below w.heap.size w w7) := bthen B5.out (below_of_drew b7); clear b7))
  all_goals go_wp2
  all_goals (go_ret; exact ⟨rfl, B7.out⟩)
theorem puts_law (w : World) (k : Int) (hk0 : (Lit.int .i64 k).wf = true) (A : Option Addr) (n c : Nat) (xs : List UInt8) (hc : n ≤ c) (hm : c ≤ maxLen) (ho : Oct w A n xs) (o : Int) (ho0 : (Lit.int .i64 o).wf = true) (he : Env w) :
    Calls Tryd.prog 3 #[.int .i64 k, .slice A n c, .int .i64 o] w fun e w' => e = .returned (.bool true) ∧ Below w.heap.size w w' := by
  obtain ⟨m, ys, hm, hm3, hmn, hy⟩ := first70 ho
  have hyl := hy.len
  by_cases hk : Right k
  · by_cases h58 : m ≤ 58
    · obtain ⟨κ, rfl⟩ : ∃ κ : Nat, k = (κ : Int) := ⟨k.toNat, by unfold Right at hk; omega⟩
      exact puts_ok κ A n c m ys o w hm hc hy he hk h58
    · exact puts_no k A n c m ys o w hm hc hy he (by rw [putE_long hk (by omega)]; decide)
  · exact puts_no k A n c m ys o w hm hc hy he (by rw [putE_arg hk]; decide)
end Go.Proofs.YtnalbonplhbboaaDoor.W
