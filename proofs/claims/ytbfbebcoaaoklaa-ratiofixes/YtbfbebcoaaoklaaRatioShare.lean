/-
  Contracts of ratio.Share, Rate, Over and Blend and of their references: what each call returns, and that nothing turns but the tape.
-/
import Derived.Test.YtbfbebcoaaoklaaRatioWalks
import Derived.Test.YtbfbebcoaaoklaaFloatShare
import Derived.Laws.FloatArith
import Derived.Below
namespace Go.Proofs.Ytbfbebcoaaoklaa.W
open Go.RowKit Flt

/-- a number as what is shared out -/
def clN (n : Int) : Nat := if n < 0 then 0 else if 2147483648 < n then 2147483648 else n.toNat
theorem clN_le (n : Int) : clN n ≤ 2147483648 := by unfold clN; split <;> (try split) <;> omega
theorem clN_max (n : Int) : (clN n : Int) ≤ max n 0 := by unfold clN; split <;> (try split) <;> omega
def wt (f : Nat) : Nat := fixN f 0 4607182418800017408 0
def shareN (n : Int) (f : Nat) : Nat := shr (clN n) (wt f)

theorem nan_0 : ¬ nan 0 := by decide
theorem nan_1 : ¬ nan 4607182418800017408 := by decide
theorem rk_0 : rk 0 = 9223372036854775808 := by decide
theorem rk_1 : rk 4607182418800017408 = 13830554455654793216 := by decide

theorem wt_cases {f : Nat} (h : f < 18446744073709551616) :
    (nan f ∧ wt f = 0) ∨ (¬ nan f ∧ rk f < 9223372036854775808 ∧ wt f = 0) ∨ (¬ nan f ∧ 13830554455654793216 < rk f ∧ wt f = 4607182418800017408)
    ∨ (¬ nan f ∧ rk f = f + 9223372036854775808 ∧ f ≤ 4607182418800017408 ∧ wt f = f) := by
  unfold wt fixN
  by_cases n : nan f
  · exact .inl ⟨n, by rw [if_pos n]⟩
  · rw [if_neg n, rk_0, rk_1]
    by_cases l : rk f < 9223372036854775808
    · exact .inr (.inl ⟨n, l, by rw [if_pos l]⟩)
    · rw [if_neg l]
      by_cases u : 13830554455654793216 < rk f
      · exact .inr (.inr (.inl ⟨n, u, by rw [if_pos u]⟩))
      · rw [if_neg u]
        cases s : neg f
        · have e := rk_pos n s
          exact .inr (.inr (.inr ⟨n, e, by omega, rfl⟩))
        · have e := rk_neg n s
          obtain ⟨k, -⟩ := neg_true h s
          omega
theorem wt_le {f : Nat} (h : f < 18446744073709551616) : wt f ≤ 4607182418800017408 := by
  rcases wt_cases h with ⟨_, e⟩ | ⟨_, _, e⟩ | ⟨_, _, e⟩ | ⟨_, _, k, e⟩ <;> omega
theorem wt_mono {f g : Nat} (hf : f < 18446744073709551616) (hg : g < 18446744073709551616) (ng : ¬ nan g) (h : rk f < rk g) : wt f ≤ wt g := by
  have c := wt_le hf
  have lf := rk_lt hg ng
  rcases wt_cases hg with ⟨b, _⟩ | ⟨_, b1, b2⟩ | ⟨_, b1, b2⟩ | ⟨_, b1, b2, b3⟩
  · exact absurd b ng
  all_goals rcases wt_cases hf with ⟨a, e⟩ | ⟨_, a1, a2⟩ | ⟨_, a1, a2⟩ | ⟨_, a1, a2, a3⟩
  all_goals first
    | (have := rk_nan a; omega)
    | omega
theorem share_le {n : Int} {f : Nat} (h : f < 18446744073709551616) : (shareN n f : Int) ≤ max n 0 := by
  have h1 := shr_le (wt_le h) (clN_le n)
  have h2 := clN_max n
  unfold shareN; omega
theorem share_top {n : Int} {f : Nat} (h : f < 18446744073709551616) : shareN n f ≤ 2147483648 := by
  have h1 := shr_le (wt_le h) (clN_le n)
  have h2 := clN_le n
  unfold shareN; omega
theorem share_mono {n : Int} {f g : Nat} (hf : f < 18446744073709551616) (hg : g < 18446744073709551616) (ng : ¬ nan g) (h : rk f < rk g) : shareN n f ≤ shareN n g :=
  shr_mono (wt_mono hf hg ng h)

/-- a number as a float -/
theorem foi_nat (c : Nat) : floatOfInt .f64 (c : Int) = F (c * 2 ^ u2) := by
  show Ieee.double.nearest (decide ((c : Int) < 0)) (c : Int).natAbs 0 = _
  rw [show decide ((c : Int) < 0) = false by simp, Int.natAbs_natCast, near_whole]

theorem mul_comm (x y : Nat) : Ieee.double.mul x y = Ieee.double.mul y x := by
  unfold Ieee.Format.mul
  congr 1
  cases Ieee.double.read x <;> cases Ieee.double.read y <;> simp [Ieee.Datum.product, Bool.xor_comm, Nat.mul_comm, Int.add_comm]

theorem share_mul {n : Int} {f : Nat} (h : f < 18446744073709551616) : floatBits .mul .f64 (wt f) (F (clN n * 2 ^ u2)) = some (F (mv (wt f) * (clN n * one))) := by
  have h1 := wt_le h
  have h2 := clN_le n
  obtain ⟨v, l⟩ := whole_val (n := clN n) (by omega)
  show Ieee.double.mul _ _ = _
  rw [mul_pos (by omega) l, v]
theorem share_mul' {n : Int} {f : Nat} (h : f < 18446744073709551616) : floatBits .mul .f64 (F (clN n * 2 ^ u2)) (wt f) = some (F (mv (wt f) * (clN n * one))) := by
  rw [← share_mul h]; exact mul_comm _ _

theorem run_floor {p : Nat} (h : p < 9218868437227405312) (w : World) : (callFunc 39 #[.float .f64 p]).run Try.prog w = .ok (.value (.float .f64 (F (fl p * 2 ^ u2)))) w := by
  rw [run_callFunc_extern Try.func39 (by kernel_rfl) (by kernel_rfl) (by kernel_rfl) (e := Extern.MathFloor.toIntegral "math.archFloor" .down) (by kernel_rfl)]
  rw [← floor_word h]
  obtain ⟨m, k, rp, -⟩ := read_fin (b := p) (by omega)
  have e : FloatKind.f64.decode p = .number (neg p) m (-1074 + (k : Int)) := rp
  have e2 : Extern.MathFloor.toIntegral "math.archFloor" .down #[.float .f64 p] = pure (.float .f64 (FloatKind.f64.encode ((FloatKind.f64.decode p).integral .down))) := by
    conv => lhs; whnf
    rw [e]
  rw [e2]
  rfl

set_option maxHeartbeats 400000 in
theorem floor_any {p : Nat} (h : p < 9218868437227405312) (w : World) :
    Calls Try.prog 36 #[.float .f64 p] w fun e w' => e = .returned (.float .f64 (F (fl p * 2 ^ u2))) ∧ w = w' := by
  have R := run_floor h
  clear h
  go_enter Try.func36, Try.ntmps36
  go_wp2
  go_ret
  exact ⟨rfl, rfl⟩

set_option maxHeartbeats 400000 in
theorem clamp_any (n : Int) (w : World) :
    Calls Try.prog 35 #[.int .i64 n, .int .i64 0, .int .i64 2147483648] w fun e w' => e = .returned (.int .i64 (clN n)) ∧ w = w' := by
  by_cases h1 : n < 0
  · have H : Hid ((clN n : Int) = 0) := by show (clN n : Int) = 0; unfold clN; rw [if_pos h1]; rfl
    go_enter Try.func35, Try.ntmps35
    go_wp2
    go_ret
    exact ⟨ret_int (by rw [H.out]), rfl⟩
  · by_cases h2 : 2147483648 < n
    · have H : Hid ((clN n : Int) = 2147483648) := by show (clN n : Int) = 2147483648; unfold clN; rw [if_neg h1, if_pos h2]; rfl
      go_enter Try.func35, Try.ntmps35
      go_wp2
      go_ret
      exact ⟨ret_int (by rw [H.out]), rfl⟩
    · have H : Hid ((clN n : Int) = n) := by show (clN n : Int) = n; unfold clN; rw [if_neg h1, if_neg h2]; omega
      go_enter Try.func35, Try.ntmps35
      go_wp2
      go_ret
      exact ⟨ret_int (by rw [H.out]), rfl⟩

set_option maxHeartbeats 1000000 in
theorem share_any (n : Int) (f : Nat) (h : f < 18446744073709551616) (w : World) :
    Calls Try.prog 17 #[.int .i64 n, .float .f64 f] w fun e w' => e = .returned (.int .i64 (shareN n f)) ∧ w = w' := by
  obtain ⟨c, ec⟩ : ∃ c, c = clN n := ⟨_, rfl⟩
  obtain ⟨v, ev⟩ : ∃ v, v = wt f := ⟨_, rfl⟩
  obtain ⟨y, ey⟩ : ∃ y, y = F (c * 2 ^ u2) := ⟨_, rfl⟩
  obtain ⟨p, ep⟩ : ∃ p, p = F (mv v * (c * one)) := ⟨_, rfl⟩
  obtain ⟨s, es⟩ : ∃ s, s = shareN n f := ⟨_, rfl⟩
  obtain ⟨q, eq⟩ : ∃ q, q = F (s * 2 ^ u2) := ⟨_, rfl⟩
  have C : ∀ w, Calls Try.prog 35 #[.int .i64 n, .int .i64 0, .int .i64 2147483648] w fun e w' => e = .returned (.int .i64 c) ∧ w = w' := fun w => by rw [ec]; exact clamp_any n w
  have Wt : ∀ w, Calls Try.prog 37 #[.float .f64 f] w fun e w' => e = .returned (.float .f64 v) ∧ w = w' := fun w => by rw [ev]; exact weight_any f h w
  have hy : floatOfInt .f64 (c : Int) = y := by rw [ey]; exact foi_nat c
  have hm : ∀ t w, (binOp .mul t (.float .f64 v) (.float .f64 y)).run Try.prog w = .ok (.float .f64 p) w := fun t w => run_float_arith w .mul t .f64 v y p (by rw [ey, ev, ep, ev, ec]; exact share_mul h)
  have Fl : ∀ w, Calls Try.prog 36 #[.float .f64 p] w fun e w' => e = .returned (.float .f64 q) ∧ w = w' := fun w => by
    have := floor_any (p := p) (by rw [ep, ev, ec]; exact prod_word (wt_le h) (clN_le n)) w
    have e : F (fl p * 2 ^ u2) = q := by rw [eq, es, ep, ev, ec]; rfl
    rw [e] at this; exact this
  have hc : ∀ w, (convert 23 3 (.float .f64 q)).run Try.prog w = .ok (.int .i64 s) w := fun w => run_convert_float_int w 23 3 .f64 .i64 q s (by rw [Try.underlying23]; rfl) Try.underlying3 (by rw [eq]; exact int_whole (by rw [es]; exact share_top h))
  rw [← es]
  have C := Lib.hid C
  have Wt := Lib.hid Wt
  have Fl := Lib.hid Fl
  clear ec ev ey ep es eq h
  go_enter Try.func17, Try.ntmps17
  go_wp2_with fail
  refine (C.out _).mono ?_; rintro e w' ⟨rfl, rfl⟩
  go_wp2_with fail
  refine (Wt.out _).mono ?_; rintro e w' ⟨rfl, rfl⟩
  go_wp2_with fail
  refine (Fl.out _).mono ?_; rintro e w' ⟨rfl, rfl⟩
  go_wp2
  go_ret
  exact ⟨rfl, rfl⟩
end Go.Proofs.Ytbfbebcoaaoklaa.W
