/-
  Contracts of ratio.Blend and of its reference: where in order the mean stands that they tell, and that nothing turns but the tape.
-/
import Derived.Test.YtbfbebcoaaoklaaRatioLawKit
namespace Go.Proofs.Ytbfbebcoaaoklaa.W
open Go.RowKit Flt

def top : Nat := 18446744073709551615
def rkO : Option Nat → Nat
  | some r => rk r
  | none => top
def stepN (old x w : Nat) : Option Nat := match floatBits .sub .f64 x old with
  | some d => floatBits .mul .f64 (wt w) d
  | none => none
def sumN (old x w : Nat) : Option Nat := match stepN old x w with
  | some s => floatBits .add .f64 old s
  | none => none
/-- where the mean stands in order -/
def blendRk (old x w : Nat) : Nat := if nan old then rk x else if nan x then rk old else rkO (sumN old x w)

theorem nan_mul {x y : Nat} (h : nan y) : floatBits .mul .f64 x y = none := by
  show Ieee.double.mul x y = none
  unfold Ieee.Format.mul
  rw [read_nan h]
  cases Ieee.double.read x <;> rfl
theorem nan_add {x y : Nat} (h : nan y) : floatBits .add .f64 x y = none := by
  show Ieee.double.add x y = none
  unfold Ieee.Format.add
  rw [read_nan h]
  cases Ieee.double.read x <;> rfl
theorem conv_same (b : Nat) (w : World) : (convert 23 23 (.float .f64 b)).run Try.prog w = .ok (.float .f64 b) w :=
  run_convert_float_float w 23 23 .f64 .f64 b b (by rw [Try.underlying23]; rfl) Try.underlying23 (by unfold floatToFloatBits; rw [if_pos rfl])
theorem rk_nanOf (k : Nat) : rk (nanOf k) = top := rk_nan (nanOf_nan k).1
theorem blend_1 {old x w : Nat} (h : nan old) : rk x = blendRk old x w := by unfold blendRk; rw [if_pos h]
theorem blend_2 {old x w : Nat} (h : ¬ nan old) (h2 : nan x) : rk old = blendRk old x w := by unfold blendRk; rw [if_neg h, if_pos h2]
theorem blend_3 {old x w : Nat} (h : ¬ nan old) (h2 : ¬ nan x) : blendRk old x w = rkO (sumN old x w) := by unfold blendRk; rw [if_neg h, if_neg h2]
theorem sum_1 {old x w : Nat} (h : floatBits .sub .f64 x old = none) : sumN old x w = none := by unfold sumN stepN; rw [h]
theorem sum_2 {old x w d : Nat} (h : floatBits .sub .f64 x old = some d) (h2 : floatBits .mul .f64 (wt w) d = none) : sumN old x w = none := by unfold sumN stepN; simp only [h, h2]
theorem sum_3 {old x w d s : Nat} (h : floatBits .sub .f64 x old = some d) (h2 : floatBits .mul .f64 (wt w) d = some s) : sumN old x w = floatBits .add .f64 old s := by unfold sumN stepN; simp only [h, h2]

set_option maxHeartbeats 1000000 in
theorem blend_any (old x v : Nat) (ho : old < 18446744073709551616) (hx : x < 18446744073709551616) (hv : v < 18446744073709551616) (w : World) :
    Calls Try.prog 23 #[.float .f64 old, .float .f64 x, .float .f64 v] w fun e w' => ∃ r, e = .returned (.float .f64 r) ∧ (r < 18446744073709551616 ∧ rk r = blendRk old x v) ∧ ∀ B, Below B w w' := by
  have HO := Lib.hid ho
  have HX := Lib.hid hx
  have HV := Lib.hid hv
  clear ho hx hv
  by_cases n1 : nan old
  · have H := Lib.hid (blend_1 (x := x) (w := v) n1)
    have N1 := Lib.hid n1
    clear n1
    go_enter Try.func23, Try.ntmps23
    go_wp2_with fail
    refine (isnan_yes N1.out _).mono ?_; rintro e w' ⟨rfl, rfl⟩
    go_wp2
    go_ret
    exact ⟨_, rfl, ⟨HX.out, H.out⟩, fun B => Below.refl B _⟩
  · by_cases n2 : nan x
    · have H := Lib.hid (blend_2 (w := v) n1 n2)
      have N1 := Lib.hid n1
      have N2 := Lib.hid n2
      clear n1 n2
      go_enter Try.func23, Try.ntmps23
      go_wp2_with fail
      refine (isnan_no N1.out _).mono ?_; rintro e w' ⟨rfl, rfl⟩
      go_wp2_with fail
      refine (isnan_yes N2.out _).mono ?_; rintro e w' ⟨rfl, rfl⟩
      go_wp2
      go_ret
      exact ⟨_, rfl, ⟨HO.out, H.out⟩, fun B => Below.refl B _⟩
    · have E := Lib.hid (blend_3 (w := v) n1 n2)
      have N1 := Lib.hid n1
      have N2 := Lib.hid n2
      clear n1 n2
      obtain ⟨u, eu⟩ : ∃ u, wt v = u := ⟨_, rfl⟩
      have cs := conv_same
      have Wt : ∀ w, Calls Try.prog 37 #[.float .f64 v] w fun e w' => e = .returned (.float .f64 u) ∧ w = w' := fun w => by rw [← eu]; exact weight_any v HV.out w
      have Wt := Lib.hid Wt
      have EU := Lib.hid eu
      clear eu
      cases h1 : floatBits .sub .f64 x old with
      | none =>
        have H1 : ∀ t w, (binOp .sub t (.float .f64 x) (.float .f64 old)).run Try.prog w = .ok (.float .f64 (nanOf (w.tape w.drawn (.nanBits .f64 x old)))) w.drew := fun t w => run_float_nan w .sub t _ _ (by simp) h1
        have H2 : ∀ t k w, (binOp .mul t (.float .f64 u) (.float .f64 (nanOf k))).run Try.prog w = .ok (.float .f64 (nanOf (w.tape w.drawn (.nanBits .f64 u (nanOf k))))) w.drew := fun t k w => run_float_nan w .mul t _ _ (by simp) (nan_mul (nanOf_nan k).1)
        have H3 : ∀ t k w, (binOp .add t (.float .f64 old) (.float .f64 (nanOf k))).run Try.prog w = .ok (.float .f64 (nanOf (w.tape w.drawn (.nanBits .f64 old (nanOf k))))) w.drew := fun t k w => run_float_nan w .add t _ _ (by simp) (nan_add (nanOf_nan k).1)
        have S := Lib.hid (sum_1 (w := v) h1)
        clear h1
        go_enter Try.func23, Try.ntmps23
        go_wp2_with fail
        refine (isnan_no N1.out _).mono ?_; rintro e w' ⟨rfl, rfl⟩
        go_wp2_with fail
        refine (isnan_no N2.out _).mono ?_; rintro e w' ⟨rfl, rfl⟩
        go_wp2_with fail
        refine (Wt.out _).mono ?_; rintro e w' ⟨rfl, rfl⟩
        go_wp2
        go_ret
        exact ⟨_, rfl, ⟨(nanOf_nan _).2, by rw [E.out, S.out]; exact rk_nanOf _⟩, fun B => (Below.refl B _).drew.drew.drew⟩
      | some d =>
        have H1 : ∀ t w, (binOp .sub t (.float .f64 x) (.float .f64 old)).run Try.prog w = .ok (.float .f64 d) w := fun t w => run_float_arith w .sub t .f64 _ _ d h1
        cases h2 : floatBits .mul .f64 u d with
        | none =>
          have H2 : ∀ t w, (binOp .mul t (.float .f64 u) (.float .f64 d)).run Try.prog w = .ok (.float .f64 (nanOf (w.tape w.drawn (.nanBits .f64 u d)))) w.drew := fun t w => run_float_nan w .mul t _ _ (by simp) h2
          have H3 : ∀ t k w, (binOp .add t (.float .f64 old) (.float .f64 (nanOf k))).run Try.prog w = .ok (.float .f64 (nanOf (w.tape w.drawn (.nanBits .f64 old (nanOf k))))) w.drew := fun t k w => run_float_nan w .add t _ _ (by simp) (nan_add (nanOf_nan k).1)
          have S := Lib.hid (sum_2 (w := v) h1 (by rw [EU.out]; exact h2))
          clear h1 h2
          go_enter Try.func23, Try.ntmps23
          go_wp2_with fail
          refine (isnan_no N1.out _).mono ?_; rintro e w' ⟨rfl, rfl⟩
          go_wp2_with fail
          refine (isnan_no N2.out _).mono ?_; rintro e w' ⟨rfl, rfl⟩
          go_wp2_with fail
          refine (Wt.out _).mono ?_; rintro e w' ⟨rfl, rfl⟩
          go_wp2
          go_ret
          exact ⟨_, rfl, ⟨(nanOf_nan _).2, by rw [E.out, S.out]; exact rk_nanOf _⟩, fun B => (Below.refl B _).drew.drew⟩
        | some s =>
          have H2 : ∀ t w, (binOp .mul t (.float .f64 u) (.float .f64 d)).run Try.prog w = .ok (.float .f64 s) w := fun t w => run_float_arith w .mul t .f64 _ _ s h2
          have S := Lib.hid (sum_3 (w := v) h1 (by rw [EU.out]; exact h2))
          cases h3 : floatBits .add .f64 old s with
          | none =>
            have H3 : ∀ t w, (binOp .add t (.float .f64 old) (.float .f64 s)).run Try.prog w = .ok (.float .f64 (nanOf (w.tape w.drawn (.nanBits .f64 old s)))) w.drew := fun t w => run_float_nan w .add t _ _ (by simp) h3
            have S3 := Lib.hid h3
            clear h1 h2 h3
            go_enter Try.func23, Try.ntmps23
            go_wp2_with fail
            refine (isnan_no N1.out _).mono ?_; rintro e w' ⟨rfl, rfl⟩
            go_wp2_with fail
            refine (isnan_no N2.out _).mono ?_; rintro e w' ⟨rfl, rfl⟩
            go_wp2_with fail
            refine (Wt.out _).mono ?_; rintro e w' ⟨rfl, rfl⟩
            go_wp2
            go_ret
            exact ⟨_, rfl, ⟨(nanOf_nan _).2, by rw [E.out, S.out, S3.out]; exact rk_nanOf _⟩, fun B => (Below.refl B _).drew⟩
          | some r =>
            have H3 : ∀ t w, (binOp .add t (.float .f64 old) (.float .f64 s)).run Try.prog w = .ok (.float .f64 r) w := fun t w => run_float_arith w .add t .f64 _ _ r h3
            have S3 := Lib.hid h3
            have LR := Lib.hid (bits_lt h3)
            clear h1 h2 h3
            go_enter Try.func23, Try.ntmps23
            go_wp2_with fail
            refine (isnan_no N1.out _).mono ?_; rintro e w' ⟨rfl, rfl⟩
            go_wp2_with fail
            refine (isnan_no N2.out _).mono ?_; rintro e w' ⟨rfl, rfl⟩
            go_wp2_with fail
            refine (Wt.out _).mono ?_; rintro e w' ⟨rfl, rfl⟩
            go_wp2
            go_ret
            exact ⟨_, rfl, ⟨LR.out, by rw [E.out, S.out, S3.out]; rfl⟩, fun B => Below.refl B _⟩

set_option maxHeartbeats 1000000 in
theorem rblend_any (old x v : Nat) (ho : old < 18446744073709551616) (hx : x < 18446744073709551616) (hv : v < 18446744073709551616) (w : World) :
    Calls Try.prog 24 #[.float .f64 old, .float .f64 x, .float .f64 v] w fun e w' => ∃ r, e = .returned (.float .f64 r) ∧ (r < 18446744073709551616 ∧ rk r = blendRk old x v) ∧ ∀ B, Below B w w' := by
  have HO := Lib.hid ho
  have HX := Lib.hid hx
  have HV := Lib.hid hv
  clear ho hx hv
  by_cases n1 : nan old
  · have H := Lib.hid (blend_1 (x := x) (w := v) n1)
    have N1 := self_nan n1
    clear n1
    go_enter Try.func24, Try.ntmps24
    go_wp2
    go_ret
    exact ⟨_, rfl, ⟨HX.out, H.out⟩, fun B => Below.refl B _⟩
  · by_cases n2 : nan x
    · have H := Lib.hid (blend_2 (w := v) n1 n2)
      have N1 := self_not n1
      have N2 := self_nan n2
      clear n1 n2
      go_enter Try.func24, Try.ntmps24
      go_wp2
      go_ret
      exact ⟨_, rfl, ⟨HO.out, H.out⟩, fun B => Below.refl B _⟩
    · have E := Lib.hid (blend_3 (w := v) n1 n2)
      have N1 := self_not n1
      have N2 := self_not n2
      clear n1 n2
      obtain ⟨u, eu⟩ : ∃ u, wt v = u := ⟨_, rfl⟩
      have cs := conv_same
      have Wt : ∀ w, Calls Try.prog 16 #[.float .f64 v, .float .f64 0, .float .f64 4607182418800017408, .float .f64 0] w fun e w' => e = .returned (.float .f64 u) ∧ w = w' := fun w => by rw [← eu]; exact rfix_any v _ _ _ HV.out (by omega) (by omega) w
      have Wt := Lib.hid Wt
      have EU := Lib.hid eu
      clear eu
      cases h1 : floatBits .sub .f64 x old with
      | none =>
        have H1 : ∀ t w, (binOp .sub t (.float .f64 x) (.float .f64 old)).run Try.prog w = .ok (.float .f64 (nanOf (w.tape w.drawn (.nanBits .f64 x old)))) w.drew := fun t w => run_float_nan w .sub t _ _ (by simp) h1
        have H2 : ∀ t k w, (binOp .mul t (.float .f64 u) (.float .f64 (nanOf k))).run Try.prog w = .ok (.float .f64 (nanOf (w.tape w.drawn (.nanBits .f64 u (nanOf k))))) w.drew := fun t k w => run_float_nan w .mul t _ _ (by simp) (nan_mul (nanOf_nan k).1)
        have H3 : ∀ t k w, (binOp .add t (.float .f64 old) (.float .f64 (nanOf k))).run Try.prog w = .ok (.float .f64 (nanOf (w.tape w.drawn (.nanBits .f64 old (nanOf k))))) w.drew := fun t k w => run_float_nan w .add t _ _ (by simp) (nan_add (nanOf_nan k).1)
        have S := Lib.hid (sum_1 (w := v) h1)
        clear h1
        go_enter Try.func24, Try.ntmps24
        go_wp2_with fail
        refine (Wt.out _).mono ?_; rintro e w' ⟨rfl, rfl⟩
        go_wp2
        go_ret
        exact ⟨_, rfl, ⟨(nanOf_nan _).2, by rw [E.out, S.out]; exact rk_nanOf _⟩, fun B => (Below.refl B _).drew.drew.drew⟩
      | some d =>
        have H1 : ∀ t w, (binOp .sub t (.float .f64 x) (.float .f64 old)).run Try.prog w = .ok (.float .f64 d) w := fun t w => run_float_arith w .sub t .f64 _ _ d h1
        cases h2 : floatBits .mul .f64 u d with
        | none =>
          have H2 : ∀ t w, (binOp .mul t (.float .f64 u) (.float .f64 d)).run Try.prog w = .ok (.float .f64 (nanOf (w.tape w.drawn (.nanBits .f64 u d)))) w.drew := fun t w => run_float_nan w .mul t _ _ (by simp) h2
          have H3 : ∀ t k w, (binOp .add t (.float .f64 old) (.float .f64 (nanOf k))).run Try.prog w = .ok (.float .f64 (nanOf (w.tape w.drawn (.nanBits .f64 old (nanOf k))))) w.drew := fun t k w => run_float_nan w .add t _ _ (by simp) (nan_add (nanOf_nan k).1)
          have S := Lib.hid (sum_2 (w := v) h1 (by rw [EU.out]; exact h2))
          clear h1 h2
          go_enter Try.func24, Try.ntmps24
          go_wp2_with fail
          refine (Wt.out _).mono ?_; rintro e w' ⟨rfl, rfl⟩
          go_wp2
          go_ret
          exact ⟨_, rfl, ⟨(nanOf_nan _).2, by rw [E.out, S.out]; exact rk_nanOf _⟩, fun B => (Below.refl B _).drew.drew⟩
        | some s =>
          have H2 : ∀ t w, (binOp .mul t (.float .f64 u) (.float .f64 d)).run Try.prog w = .ok (.float .f64 s) w := fun t w => run_float_arith w .mul t .f64 _ _ s h2
          have S := Lib.hid (sum_3 (w := v) h1 (by rw [EU.out]; exact h2))
          cases h3 : floatBits .add .f64 old s with
          | none =>
            have H3 : ∀ t w, (binOp .add t (.float .f64 old) (.float .f64 s)).run Try.prog w = .ok (.float .f64 (nanOf (w.tape w.drawn (.nanBits .f64 old s)))) w.drew := fun t w => run_float_nan w .add t _ _ (by simp) h3
            have S3 := Lib.hid h3
            clear h1 h2 h3
            go_enter Try.func24, Try.ntmps24
            go_wp2_with fail
            refine (Wt.out _).mono ?_; rintro e w' ⟨rfl, rfl⟩
            go_wp2
            go_ret
            exact ⟨_, rfl, ⟨(nanOf_nan _).2, by rw [E.out, S.out, S3.out]; exact rk_nanOf _⟩, fun B => (Below.refl B _).drew⟩
          | some r =>
            have H3 : ∀ t w, (binOp .add t (.float .f64 old) (.float .f64 s)).run Try.prog w = .ok (.float .f64 r) w := fun t w => run_float_arith w .add t .f64 _ _ r h3
            have S3 := Lib.hid h3
            have LR := Lib.hid (bits_lt h3)
            clear h1 h2 h3
            go_enter Try.func24, Try.ntmps24
            go_wp2_with fail
            refine (Wt.out _).mono ?_; rintro e w' ⟨rfl, rfl⟩
            go_wp2
            go_ret
            exact ⟨_, rfl, ⟨LR.out, by rw [E.out, S.out, S3.out]; rfl⟩, fun B => Below.refl B _⟩
end Go.Proofs.Ytbfbebcoaaoklaa.W
