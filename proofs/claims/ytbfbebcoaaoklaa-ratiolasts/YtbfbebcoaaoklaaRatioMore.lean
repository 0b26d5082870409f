/-
  Contracts of the reference's Share, of ratio.Rate, Over and their references, and of the law's own 'awake': what each call returns, and that nothing turns but the tape.
-/
import Derived.Test.YtbfbebcoaaoklaaRatioShare
namespace Go.Proofs.Ytbfbebcoaaoklaa.W
open Go.RowKit Flt

theorem clN_eq (n : Int) : min (max n 0) 2147483648 = (clN n : Int) := by unfold clN; split <;> (try split) <;> omega

/-- the NaN that the tape tells -/
def nanOf (t : Nat) : Nat := (t % 2) * 9223372036854775808 + 9218868437227405312 + 1 + (t / 2) % 4503599627370495
theorem nanOf_nan (t : Nat) : nan (nanOf t) ∧ nanOf t < 18446744073709551616 := by
  unfold nan nanOf
  have h1 : t % 2 < 2 := by omega
  have h2 : t / 2 % 4503599627370495 < 4503599627370495 := by omega
  generalize t % 2 = a at *
  generalize t / 2 % 4503599627370495 = b at *
  omega
theorem cut_nan (x y t : Nat) : (Question.nanBits .f64 x y).cut t = nanOf t := by
  show (t % 2) * 2 ^ 63 + 0x7ff0000000000000 + 1 + (t / 2) % (2 ^ 52 - 1) = _
  unfold nanOf; rfl

theorem run_float_nan {P : Program} (w : World) (op : BinOp) (t : TypeId) (x y : Nat) (ho : op = .add ∨ op = .sub ∨ op = .mul ∨ op = .quo) (h : floatBits op .f64 x y = none) :
    (binOp op t (.float .f64 x) (.float .f64 y)).run P w = .ok (.float .f64 (nanOf (w.tape w.drawn (.nanBits .f64 x y)))) w.drew := by
  rw [← cut_nan x y]
  unfold floatBits at h
  rcases ho with rfl | rfl | rfl | rfl <;> simp only at h <;> simp [binOp, Op.floatArith, h, Question.forced] <;> rfl

/-- the float that stands for what is reckoned: it, or, of none, NaN -/
def Is (o : Option Nat) (r : Nat) : Prop := r < 18446744073709551616 ∧ ((o = some r) ∨ (o = none ∧ nan r))
theorem Is_rk {o : Option Nat} {a b : Nat} (ha : Is o a) (hb : Is o b) : rk a = rk b := by
  obtain ⟨la, ha⟩ := ha
  obtain ⟨lb, hb⟩ := hb
  rcases ha with ha | ⟨ha, na⟩ <;> rcases hb with hb | ⟨hb, nb⟩
  · rw [ha] at hb; cases hb; rfl
  · rw [ha] at hb; cases hb
  · rw [ha] at hb; cases hb
  · rw [rk_nan na, rk_nan nb]

theorem foi_lt (n : Int) : floatOfInt .f64 n < 18446744073709551616 := by
  have h := floatOfInt_wf .f64 n
  simpa [Lit.wf] using h
theorem bits_lt {op : BinOp} {x y r : Nat} (h : floatBits op .f64 x y = some r) : r < 18446744073709551616 := by
  have := floatBits_wf h
  simpa [Lit.wf] using this

set_option maxHeartbeats 1000000 in
theorem rshare_any (n : Int) (f : Nat) (h : f < 18446744073709551616) (w : World) :
    Calls Try.prog 18 #[.int .i64 n, .float .f64 f] w fun e w' => e = .returned (.int .i64 (shareN n f)) ∧ w = w' := by
  obtain ⟨c, ec⟩ : ∃ c, c = clN n := ⟨_, rfl⟩
  obtain ⟨v, ev⟩ : ∃ v, v = wt f := ⟨_, rfl⟩
  obtain ⟨y, ey⟩ : ∃ y, y = F (c * 2 ^ u2) := ⟨_, rfl⟩
  obtain ⟨p, ep⟩ : ∃ p, p = F (mv v * (c * one)) := ⟨_, rfl⟩
  obtain ⟨s, es⟩ : ∃ s, s = shareN n f := ⟨_, rfl⟩
  obtain ⟨q, eq⟩ : ∃ q, q = F (s * 2 ^ u2) := ⟨_, rfl⟩
  have Wt : ∀ w, Calls Try.prog 16 #[.float .f64 f, .float .f64 0, .float .f64 4607182418800017408, .float .f64 0] w fun e w' => e = .returned (.float .f64 v) ∧ w = w' := fun w => by rw [ev]; exact rfix_any f _ _ _ h (by omega) (by omega) w
  have hy : floatOfInt .f64 (min (max n 0) 2147483648) = y := by rw [ey, clN_eq, ← ec]; exact foi_nat c
  have hm : ∀ t w, (binOp .mul t (.float .f64 y) (.float .f64 v)).run Try.prog w = .ok (.float .f64 p) w := fun t w => run_float_arith w .mul t .f64 y v p (by rw [ey, ev, ep, ev, ec]; exact share_mul' h)
  have Fl : ∀ w, Calls Try.prog 36 #[.float .f64 p] w fun e w' => e = .returned (.float .f64 q) ∧ w = w' := fun w => by
    have := floor_any (p := p) (by rw [ep, ev, ec]; exact prod_word (wt_le h) (clN_le n)) w
    have e : F (fl p * 2 ^ u2) = q := by rw [eq, es, ep, ev, ec]; rfl
    rw [e] at this; exact this
  have hc : ∀ w, (convert 23 3 (.float .f64 q)).run Try.prog w = .ok (.int .i64 s) w := fun w => run_convert_float_int w 23 3 .f64 .i64 q s (by rw [Try.underlying23]; rfl) Try.underlying3 (by rw [eq]; exact int_whole (by rw [es]; exact share_top h))
  rw [← es]
  have Wt := Lib.hid Wt
  have Fl := Lib.hid Fl
  clear ec ev ey ep es eq h
  by_cases h1 : n < 0
  · have e : min (max n 0) 2147483648 = 0 := by omega
    rw [e] at hy
    clear e
    go_enter Try.func18, Try.ntmps18
    go_wp2_with fail
    refine (Wt.out _).mono ?_; rintro e w' ⟨rfl, rfl⟩
    go_wp2_with fail
    refine (Fl.out _).mono ?_; rintro e w' ⟨rfl, rfl⟩
    go_wp2
    go_ret
    exact ⟨rfl, rfl⟩
  · by_cases h2 : 2147483648 < n
    · have e : min (max n 0) 2147483648 = 2147483648 := by omega
      rw [e] at hy
      clear e
      go_enter Try.func18, Try.ntmps18
      go_wp2_with fail
      refine (Wt.out _).mono ?_; rintro e w' ⟨rfl, rfl⟩
      go_wp2_with fail
      refine (Fl.out _).mono ?_; rintro e w' ⟨rfl, rfl⟩
      go_wp2
      go_ret
      exact ⟨rfl, rfl⟩
    · have e : min (max n 0) 2147483648 = n := by omega
      rw [e] at hy
      clear e
      go_enter Try.func18, Try.ntmps18
      go_wp2_with fail
      refine (Wt.out _).mono ?_; rintro e w' ⟨rfl, rfl⟩
      go_wp2_with fail
      refine (Fl.out _).mono ?_; rintro e w' ⟨rfl, rfl⟩
      go_wp2
      go_ret
      exact ⟨rfl, rfl⟩

def rateN (a b : Int) : Option Nat := floatBits .quo .f64 (floatOfInt .f64 a) (floatOfInt .f64 b)

set_option maxHeartbeats 400000 in
theorem rate_any (a b : Int) (w : World) :
    Calls Try.prog 19 #[.int .i64 a, .int .i64 b] w fun e w' => ∃ r, e = .returned (.float .f64 r) ∧ Is (rateN a b) r ∧ ∀ B, Below B w w' := by
  cases h : rateN a b with
  | some r =>
    have hm : ∀ t w, (binOp .quo t (.float .f64 (floatOfInt .f64 a)) (.float .f64 (floatOfInt .f64 b))).run Try.prog w = .ok (.float .f64 r) w := fun t w => run_float_arith w .quo t .f64 _ _ r h
    have H : Hid (Is (some r) r) := show Is (some r) r from ⟨bits_lt h, .inl rfl⟩
    clear h
    go_enter Try.func19, Try.ntmps19
    go_wp2
    go_ret
    exact ⟨_, rfl, H.out, fun B => Below.refl B _⟩
  | none =>
    have hm : ∀ t w, (binOp .quo t (.float .f64 (floatOfInt .f64 a)) (.float .f64 (floatOfInt .f64 b))).run Try.prog w = .ok (.float .f64 (nanOf (w.tape w.drawn (.nanBits .f64 (floatOfInt .f64 a) (floatOfInt .f64 b))))) w.drew := fun t w => run_float_nan w .quo t _ _ (by simp) h
    clear h
    go_enter Try.func19, Try.ntmps19
    go_wp2
    go_ret
    exact ⟨_, rfl, ⟨(nanOf_nan _).2, .inr ⟨rfl, (nanOf_nan _).1⟩⟩, fun B => (Below.refl B _).drew⟩

set_option maxHeartbeats 400000 in
theorem rrate_any (a b : Int) (w : World) :
    Calls Try.prog 20 #[.int .i64 a, .int .i64 b] w fun e w' => ∃ r, e = .returned (.float .f64 r) ∧ Is (rateN a b) r ∧ ∀ B, Below B w w' := by
  cases h : rateN a b with
  | some r =>
    have hm : ∀ t w, (binOp .quo t (.float .f64 (floatOfInt .f64 a)) (.float .f64 (floatOfInt .f64 b))).run Try.prog w = .ok (.float .f64 r) w := fun t w => run_float_arith w .quo t .f64 _ _ r h
    have H : Hid (Is (some r) r) := show Is (some r) r from ⟨bits_lt h, .inl rfl⟩
    clear h
    go_enter Try.func20, Try.ntmps20
    go_wp2
    go_ret
    exact ⟨_, rfl, H.out, fun B => Below.refl B _⟩
  | none =>
    have hm : ∀ t w, (binOp .quo t (.float .f64 (floatOfInt .f64 a)) (.float .f64 (floatOfInt .f64 b))).run Try.prog w = .ok (.float .f64 (nanOf (w.tape w.drawn (.nanBits .f64 (floatOfInt .f64 a) (floatOfInt .f64 b))))) w.drew := fun t w => run_float_nan w .quo t _ _ (by simp) h
    clear h
    go_enter Try.func20, Try.ntmps20
    go_wp2
    go_ret
    exact ⟨_, rfl, ⟨(nanOf_nan _).2, .inr ⟨rfl, (nanOf_nan _).1⟩⟩, fun B => (Below.refl B _).drew⟩

/-- is the product greater? -/
def overN (a : Int) (f : Nat) (b : Int) : Bool :=
  match floatBits .mul .f64 (floatOfInt .f64 a) f with
  | some p => FloatKind.f64.format.order p (floatOfInt .f64 b) == some .gt
  | none => false
theorem overN_some {a b : Int} {f p : Nat} (h : floatBits .mul .f64 (floatOfInt .f64 a) f = some p) : overN a f b = (FloatKind.f64.format.order p (floatOfInt .f64 b) == some .gt) := by unfold overN; rw [h]
theorem overN_none {a b : Int} {f : Nat} (h : floatBits .mul .f64 (floatOfInt .f64 a) f = none) : overN a f b = false := by unfold overN; rw [h]
theorem nan_gt (t y : Nat) : (FloatKind.f64.format.order (nanOf t) y == some .gt) = false := by rw [fmt64, order_nan_l (nanOf_nan t).1]; rfl

set_option maxHeartbeats 400000 in
theorem over_any (a : Int) (f : Nat) (b : Int) (w : World) :
    Calls Try.prog 21 #[.int .i64 a, .float .f64 f, .int .i64 b] w fun e w' => e = .returned (.bool (overN a f b)) ∧ ∀ B, Below B w w' := by
  cases h : floatBits .mul .f64 (floatOfInt .f64 a) f with
  | some r =>
    have hm : ∀ t w, (binOp .mul t (.float .f64 (floatOfInt .f64 a)) (.float .f64 f)).run Try.prog w = .ok (.float .f64 r) w := fun t w => run_float_arith w .mul t .f64 _ _ r h
    have H := Lib.hid (overN_some (b := b) h)
    clear h
    go_enter Try.func21, Try.ntmps21
    go_wp2
    go_ret
    exact ⟨ret_bool H.out.symm, fun B => Below.refl B _⟩
  | none =>
    have hm : ∀ t w, (binOp .mul t (.float .f64 (floatOfInt .f64 a)) (.float .f64 f)).run Try.prog w = .ok (.float .f64 (nanOf (w.tape w.drawn (.nanBits .f64 (floatOfInt .f64 a) f)))) w.drew := fun t w => run_float_nan w .mul t _ _ (by simp) h
    have H := Lib.hid (overN_none (b := b) h)
    clear h
    go_enter Try.func21, Try.ntmps21
    go_wp2
    go_ret
    exact ⟨ret_bool (by rw [H.out]; exact nan_gt _ _), fun B => (Below.refl B _).drew⟩

set_option maxHeartbeats 400000 in
theorem rover_any (a : Int) (f : Nat) (b : Int) (w : World) :
    Calls Try.prog 22 #[.int .i64 a, .float .f64 f, .int .i64 b] w fun e w' => e = .returned (.bool (overN a f b)) ∧ ∀ B, Below B w w' := by
  cases h : floatBits .mul .f64 (floatOfInt .f64 a) f with
  | some r =>
    have hm : ∀ t w, (binOp .mul t (.float .f64 (floatOfInt .f64 a)) (.float .f64 f)).run Try.prog w = .ok (.float .f64 r) w := fun t w => run_float_arith w .mul t .f64 _ _ r h
    have H := Lib.hid (overN_some (b := b) h)
    clear h
    go_enter Try.func22, Try.ntmps22
    go_wp2
    go_ret
    exact ⟨ret_bool H.out.symm, fun B => Below.refl B _⟩
  | none =>
    have hm : ∀ t w, (binOp .mul t (.float .f64 (floatOfInt .f64 a)) (.float .f64 f)).run Try.prog w = .ok (.float .f64 (nanOf (w.tape w.drawn (.nanBits .f64 (floatOfInt .f64 a) f)))) w.drew := fun t w => run_float_nan w .mul t _ _ (by simp) h
    have H := Lib.hid (overN_none (b := b) h)
    clear h
    go_enter Try.func22, Try.ntmps22
    go_wp2
    go_ret
    exact ⟨ret_bool (by rw [H.out]; exact nan_gt _ _), fun B => (Below.refl B _).drew⟩

set_option maxHeartbeats 400000 in
theorem mnan_any (w : World) : Calls Try.prog 32 #[] w fun e w' => e = .returned (.float .f64 9221120237041090561) ∧ w = w' := by
  go_enter Try.func32, Try.ntmps32
  go_wp2
  go_ret
  exact ⟨rfl, rfl⟩
set_option maxHeartbeats 400000 in
theorem inf_any (w : World) : Calls Try.prog 33 #[.int .i64 1] w fun e w' => e = .returned (.float .f64 9218868437227405312) ∧ w = w' := by
  go_enter Try.func33, Try.ntmps33
  go_wp2
  go_ret
  exact ⟨rfl, rfl⟩
set_option maxHeartbeats 400000 in
theorem copysign_any (w : World) : Calls Try.prog 34 #[.float .f64 0, .float .f64 13830554455654793216] w fun e w' => e = .returned (.float .f64 9223372036854775808) ∧ w = w' := by
  go_enter Try.func34, Try.ntmps34
  go_wp2
  go_ret
  exact ⟨rfl, rfl⟩

def qnan : Nat := 9221120237041090561
theorem qnan_nan : nan 9221120237041090561 := by decide
theorem sh1 : shareN 10 4598175219545276416 = 2 := by decide +kernel
theorem sh2 : shareN 10 9221120237041090561 = 0 := by decide +kernel
theorem sh3 : shareN 10 9218868437227405312 = 10 := by decide +kernel
theorem ra1 : rateN 0 0 = none := by decide +kernel
theorem ra2 : rateN 1 0 = some 9218868437227405312 := by decide +kernel
theorem ov1 : overN 2 4609434218613702656 2 = true := by decide +kernel
theorem le1 : rk 9223372036854775808 < rk 0 := by decide

set_option maxHeartbeats 1000000 in
theorem awake_any (w : World) :
    Calls Try.prog 14 #[] w fun e w' => e = .returned (.bool true) ∧ ∀ B, Below B w w' := by
  have S1 : ∀ w, Calls Try.prog 17 #[.int .i64 10, .float .f64 4598175219545276416] w fun e w' => e = .returned (.int .i64 2) ∧ w = w' := fun w => by
    have := share_any 10 4598175219545276416 (by omega) w; rwa [sh1] at this
  have S2 : ∀ w, Calls Try.prog 17 #[.int .i64 10, .float .f64 9221120237041090561] w fun e w' => e = .returned (.int .i64 0) ∧ w = w' := fun w => by
    have := share_any 10 9221120237041090561 (by omega) w; rwa [sh2] at this
  have S3 : ∀ w, Calls Try.prog 17 #[.int .i64 10, .float .f64 9218868437227405312] w fun e w' => e = .returned (.int .i64 10) ∧ w = w' := fun w => by
    have := share_any 10 9218868437227405312 (by omega) w; rwa [sh3] at this
  have R1 : ∀ w, Calls Try.prog 19 #[.int .i64 0, .int .i64 0] w fun e w' => ∃ r, e = .returned (.float .f64 r) ∧ Hid (Is none r) ∧ Hid (∀ B, Below B w w') := fun w => by
    have := rate_any 0 0 w; rwa [ra1] at this
  have R2 : ∀ w, Calls Try.prog 19 #[.int .i64 1, .int .i64 0] w fun e w' => ∃ r, e = .returned (.float .f64 r) ∧ Hid (Is (some 9218868437227405312) r) ∧ Hid (∀ B, Below B w w') := fun w => by
    have := rate_any 1 0 w; rwa [ra2] at this
  have M1 : ∀ r, Is none r → ∀ w, Calls Try.prog 13 #[.float .f64 r, .float .f64 9221120237041090561] w fun e w' => e = .returned (.bool true) ∧ w = w' := fun r hr w => by
    have := rsame_any r 9221120237041090561 hr.1 (by omega) w
    rwa [Is_rk (b := 9221120237041090561) hr ⟨by omega, .inr ⟨rfl, qnan_nan⟩⟩, show decide (rk 9221120237041090561 = rk 9221120237041090561) = true by simp] at this
  have M2 : ∀ r, Is (some 9218868437227405312) r → ∀ w, Calls Try.prog 13 #[.float .f64 r, .float .f64 9218868437227405312] w fun e w' => e = .returned (.bool true) ∧ w = w' := fun r hr w => by
    have := rsame_any r 9218868437227405312 hr.1 (by omega) w
    rwa [Is_rk (b := 9218868437227405312) hr ⟨by omega, .inl rfl⟩, show decide (rk 9218868437227405312 = rk 9218868437227405312) = true by simp] at this
  have L1 : ∀ w, Calls Try.prog 10 #[.float .f64 9223372036854775808, .float .f64 0] w fun e w' => e = .returned (.bool true) ∧ w = w' := less_yes (by omega) (by omega) le1
  have E1 : ∀ w, Calls Try.prog 12 #[.float .f64 4607182418800017408, .float .f64 4607182418800017408] w fun e w' => e = .returned (.bool true) ∧ w = w' := fun w => by
    have := same_any 4607182418800017408 4607182418800017408 (by omega) (by omega) w
    rwa [show decide (rk 4607182418800017408 = rk 4607182418800017408) = true by simp] at this
  have O1 : ∀ w, Calls Try.prog 21 #[.int .i64 2, .float .f64 4609434218613702656, .int .i64 2] w fun e w' => e = .returned (.bool true) ∧ Hid (∀ B, Below B w w') := fun w => by
    have := over_any 2 4609434218613702656 2 w; rwa [ov1] at this
  have S1 := Lib.hid S1
  have S2 := Lib.hid S2
  have S3 := Lib.hid S3
  have R1 := Lib.hid R1
  have R2 := Lib.hid R2
  have M1 := Lib.hid M1
  have M2 := Lib.hid M2
  have L1 := Lib.hid L1
  have E1 := Lib.hid E1
  have O1 := Lib.hid O1
  go_enter Try.func14, Try.ntmps14
  go_wp2_with fail
  refine (S1.out _).mono ?_; rintro e w' ⟨rfl, rfl⟩
  go_wp2_with fail
  refine (mnan_any _).mono ?_; rintro e w' ⟨rfl, rfl⟩
  go_wp2_with fail
  refine (S2.out _).mono ?_; rintro e w' ⟨rfl, rfl⟩
  go_wp2_with fail
  refine (inf_any _).mono ?_; rintro e w' ⟨rfl, rfl⟩
  go_wp2_with fail
  refine (S3.out _).mono ?_; rintro e w' ⟨rfl, rfl⟩
  go_wp2_with fail
  refine (R1.out _).mono ?_; rintro e w1 ⟨r1, rfl, i1, b1⟩
  go_wp2_with fail
  refine (mnan_any _).mono ?_; rintro e w' ⟨rfl, rfl⟩
  go_wp2_with fail
  refine (M1.out _ i1.out _).mono ?_; rintro e w' ⟨rfl, rfl⟩
  go_wp2_with fail
  refine (R2.out _).mono ?_; rintro e w2 ⟨r2, rfl, i2, b2⟩
  go_wp2_with fail
  refine (inf_any _).mono ?_; rintro e w' ⟨rfl, rfl⟩
  go_wp2_with fail
  refine (M2.out _ i2.out _).mono ?_; rintro e w' ⟨rfl, rfl⟩
  go_wp2_with fail
  refine (copysign_any _).mono ?_; rintro e w' ⟨rfl, rfl⟩
  go_wp2_with fail
  refine (L1.out _).mono ?_; rintro e w' ⟨rfl, rfl⟩
  go_wp2_with fail
  refine (E1.out _).mono ?_; rintro e w' ⟨rfl, rfl⟩
  go_wp2_with fail
  refine (O1.out _).mono ?_; rintro e w3 ⟨rfl, b3⟩
  go_wp2
  go_ret
  exact ⟨rfl, fun B => (b1.out B).trans ((b2.out B).trans (b3.out B))⟩
end Go.Proofs.Ytbfbebcoaaoklaa.W
