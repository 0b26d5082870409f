/-
  Contracts of package mix's and of the reference's functions on numbers: what each call returns, and that nothing old turns. No conditions.
-/
import Derived.Test.YtioimgjdjgeepaaMixNum
import Derived.Test.YtioimgjdjgeepaaChecked
import Derived.WalkKit
import Derived.WalkLawsBesides
import Derived.Laws.BitsAllLaws
import Derived.Laws.Bits64
import Derived.Lib.Hide
namespace Go.Proofs.Ytioimgjdjgeepaa.W
open Go.RowKit Mx
set_option linter.unusedVariables false

theorem ret_int {k : IntKind} {a b : Int} (h : a = b) : Ending.returned (.int k a) = .returned (.int k b) := by rw [h]
theorem cast_shr (n d : Nat) : (n : Int) / 2 ^ d = ((n / 2 ^ d : Nat) : Int) := by
  rw [Int.natCast_ediv, Int.natCast_pow]; rfl
theorem xor_lay {n : Nat} (hn : n < 18446744073709551616) (d : Nat) : bits BinOp.xor IntKind.u64 (n : Int) ((n : Int) / 2 ^ d) = ((lay n d : Nat) : Int) := by
  have h1 : n / 2 ^ d ≤ n := Nat.div_le_self _ _
  rw [cast_shr, u64_xor_nat n (n / 2 ^ d) hn (by omega)]; rfl
theorem half_step (n j : Nat) (hn : n < 18446744073709551616) : IntKind.u64.wrap (((n : Int) / 2 ^ j).tdiv 2) = ((n / 2 ^ (j + 1) : Nat) : Int) := by
  have h1 : n / 2 ^ j ≤ n := Nat.div_le_self _ _
  rw [cast_shr, Nat.pow_succ, ← Nat.div_div_eq_div_mul]
  obtain ⟨a, ha⟩ : ∃ a, n / 2 ^ j = a := ⟨_, rfl⟩
  rw [ha] at h1 ⊢
  rw [Int.tdiv_eq_ediv_of_nonneg (by omega), IntKind.wrap_u64]
  omega
theorem mul_nat (a b : Nat) : IntKind.u64.wrap ((a : Int) * (b : Int)) = ((a * b % M : Nat) : Int) := by
  rw [IntKind.wrap_u64, M_eq, ← Int.natCast_mul]; omega
theorem in_nat (n s : Nat) : IntKind.u64.wrap ((n : Int) + IntKind.u64.wrap (11400714819323198485 * (s : Int))) = (((n + stride * s) % M : Nat) : Int) := by
  have e : (11400714819323198485 * (s : Int)) = ((stride * s : Nat) : Int) := by rw [Int.natCast_mul]; rfl
  rw [IntKind.wrap_u64, IntKind.wrap_u64, M_eq, e]; omega
theorem out_nat (n s : Nat) : IntKind.u64.wrap ((n : Int) - IntKind.u64.wrap (11400714819323198485 * (s : Int))) = (((n + (M - stride * s % M)) % M : Nat) : Int) := by
  have e : (11400714819323198485 * (s : Int)) = ((stride * s : Nat) : Int) := by rw [Int.natCast_mul]; rfl
  rw [IntKind.wrap_u64, IntKind.wrap_u64, M_eq, e]; omega

theorem lay_any (n d r : Nat) (w : World) (hn : n < 18446744073709551616) (hd : d < 64) (hr : lay n d = r) :
    Calls Try.prog 15 #[.int .u64 (n : Int), .int .i64 (d : Int)] w fun e w' => e = .returned (.int .u64 (r : Int)) ∧ w = w' := by
  have e := xor_lay hn d
  rw [hr] at e
  clear hr
  go_enter Try.func15, Try.ntmps15
  go_wp2
  go_ret
  exact ⟨rfl, rfl⟩
theorem half_any (n d r : Nat) (w : World) (hn : n < 18446744073709551616) (hd : d < 64) (hr : lay n d = r) :
    Calls Try.prog 16 #[.int .u64 (n : Int), .int .i64 (d : Int)] w fun e w' => e = .returned (.int .u64 (r : Int)) ∧ w = w' := by
  have HR := Lib.hid hr
  clear hr
  go_enter Try.func16, Try.ntmps16
  go_wp2
  go_loop [5, 6] (fun y q => ∃ j : Nat, j ≤ d ∧ q = .int .i64 j ∧ y = .int .u64 (n / 2 ^ j : Nat)) (fun _ q => d - (intOf q).toNat)
  case atStart => exact ⟨0, by omega, rfl, by simp⟩
  case round =>
    obtain ⟨j, hj, rfl, rfl⟩ := hrel
    by_cases hlt : j < d
    · go_wp2
      go_round
      case rel => exact ⟨j + 1, by omega, rfl, by rw [half_step n j hn]⟩
      case measure => simp [intOf]; omega
    · have : j = d := by omega
      subst this
      have e := xor_lay hn j
      rw [HR.out] at e
      go_wp2
      go_ret
      exact ⟨rfl, rfl⟩
theorem lift_any (n d r : Nat) (w : World) (hn : n < 18446744073709551616) (h1 : 1 ≤ d) (hd : d < 64) (hr : lift n d = r) :
    Calls Try.prog 17 #[.int .u64 (n : Int), .int .i64 (d : Int)] w fun e w' => e = .returned (.int .u64 (r : Int)) ∧ w = w' := by
  have HR := Lib.hid hr
  clear hr
  go_enter Try.func17, Try.ntmps17
  go_wp2
  go_loop [0, 5] (fun q y => ∃ k a o : Nat, q = .int .u64 (a : Int) ∧ y = .int .u64 (o : Int) ∧ a < 18446744073709551616 ∧ o < 18446744073709551616 ∧ Hid (n / 2 ^ (d * (k + 1)) = a) ∧ Hid (lifts n d k = o)) (fun q _ => (intOf q).toNat)
  case atStart => exact ⟨0, n / 2 ^ d, n, by rw [cast_shr], rfl, Nat.lt_of_le_of_lt (Nat.div_le_self _ _) hn, hn, by show _ = _; rw [Nat.zero_add, Nat.mul_one], rfl⟩
  case round =>
    obtain ⟨k, a, o, rfl, rfl, ha, ho, E1, E2⟩ := hrel
    by_cases h0 : a = 0
    · subst h0
      have e : o = r := by rw [← HR.out, ← E2.out]; exact lifts_is hn h1 E1.out
      subst e
      go_wp2
      go_ret
      exact ⟨rfl, rfl⟩
    · have hne : ((a : Int) != 0) = true := by simp; omega
      have ex := u64_xor_nat o a ho ha
      have hs : a / 2 ^ d < a := Nat.div_lt_self (by omega) (Nat.one_lt_two_pow (by omega))
      have HS := Lib.hid hs
      clear hs
      go_wp2
      go_round
      case rel => exact ⟨k + 1, a / 2 ^ d, o ^^^ a, by rw [cast_shr], rfl, by have := HS.out; omega, Nat.xor_lt_two_pow (n := 64) ho ha, by show _ = _; rw [← E1.out, Nat.div_div_eq_div_mul, ← Nat.pow_add, ← Nat.mul_succ], by show lifts _ _ _ = _; unfold lifts; rw [E1.out, E2.out]⟩
      case measure => have := HS.out; simp only [intOf, cast_shr, Int.toNat_natCast]; exact this

/-- one turn of the closure, and the first ones -/
def nearer (f a : Int) : Int := IntKind.u64.wrap (a * IntKind.u64.wrap (2 - IntKind.u64.wrap (f * a)))
def nears (f : Int) : Nat → Int
  | 0 => f
  | k + 1 => nearer f (nears f k)
theorem nears_snd : nears 10723151780598845931 5 = ((usnd : Nat) : Int) := by decide +kernel
theorem nears_fst : nears 13787848793156543929 5 = ((ufst : Nat) : Int) := by decide +kernel
theorem undo_any (f r : Int) (w : World) (hr : nears f 5 = r) :
    Calls Try.prog 18 #[.int .u64 f] w fun e w' => e = .returned (.int .u64 r) ∧ Below w.heap.size w w' := by
  have HR := Lib.hid hr
  clear hr
  go_enter Try.func18, Try.ntmps18
  go_wp2
  go_loop [4, 7] (fun y q => ∃ (j : Nat) (a : Int), j ≤ 5 ∧ q = .int .i64 j ∧ y = .int .u64 a ∧ Hid (nears f j = a)) (fun _ q => 5 - (intOf q).toNat)
  case atStart => exact ⟨0, f, by omega, rfl, rfl, rfl⟩
  case round =>
    obtain ⟨j, a, hj, rfl, rfl, E⟩ := hrel
    by_cases hlt : j < 5
    · go_wp2
      go_round
      case rel => exact ⟨j + 1, nearer f a, by omega, rfl, rfl, by show nears f (j + 1) = _; rw [nears, E.out]⟩
      case measure => simp [intOf]; omega
    · have : j = 5 := by omega
      subst this
      have e : a = r := by rw [← HR.out, ← E.out]
      subst e
      go_wp2
      go_ret
      exact ⟨rfl, (Below.refl _ _).alloc (Nat.le_refl _) _⟩
theorem undo_snd (w : World) : Calls Try.prog 18 #[.int .u64 10723151780598845931] w fun e w' => e = .returned (.int .u64 ((usnd : Nat) : Int)) ∧ Below w.heap.size w w' := undo_any _ _ w nears_snd
theorem undo_fst (w : World) : Calls Try.prog 18 #[.int .u64 13787848793156543929] w fun e w' => e = .returned (.int .u64 ((ufst : Nat) : Int)) ∧ Below w.heap.size w w' := undo_any _ _ w nears_fst

/-- what the turns make, one by one -/
theorem of_parts (s n r : Nat) (h : of s n = r) : ∃ a b c d e : Nat, Hid (a < 18446744073709551616) ∧ Hid (lay a 30 = b) ∧ Hid (c < 18446744073709551616) ∧ Hid (lay c 27 = d) ∧ Hid (e < 18446744073709551616) ∧ Hid (lay e 31 = r) ∧
    IntKind.u64.wrap ((n : Int) + IntKind.u64.wrap (11400714819323198485 * (s : Int))) = (a : Int) ∧ IntKind.u64.wrap ((b : Int) * 13787848793156543929) = (c : Int) ∧ IntKind.u64.wrap ((d : Int) * 10723151780598845931) = (e : Int) := by
  have m1 : ∀ x : Nat, IntKind.u64.wrap ((x : Int) * 13787848793156543929) = ((x * fst % M : Nat) : Int) := fun x => mul_nat x fst
  have m2 : ∀ x : Nat, IntKind.u64.wrap ((x : Int) * 10723151780598845931) = ((x * snd % M : Nat) : Int) := fun x => mul_nat x snd
  exact ⟨_, _, _, _, _, Nat.mod_lt _ M_pos, rfl, Nat.mod_lt _ M_pos, rfl, Nat.mod_lt _ M_pos, h, in_nat n s, m1 _, m2 _⟩

theorem of_any (s n r : Nat) (w : World) (hr : of s n = r) :
    Calls Try.prog 6 #[.int .u64 (s : Int), .int .u64 (n : Int)] w fun e w' => e = .returned (.int .u64 (r : Int)) ∧ w = w' := by
  obtain ⟨a, b, c, d, x, ha, hb, hc, hd, hx, hf, e1, e2, e3⟩ := of_parts s n r hr
  clear hr
  go_enter Try.func6, Try.ntmps6
  go_wp2_with fail
  refine (lay_any a 30 b _ ha.out (by omega) hb.out).mono ?_; rintro e w' ⟨rfl, rfl⟩
  go_wp2_with fail
  refine (lay_any c 27 d _ hc.out (by omega) hd.out).mono ?_; rintro e w' ⟨rfl, rfl⟩
  go_wp2_with fail
  refine (lay_any x 31 r _ hx.out (by omega) hf.out).mono ?_; rintro e w' ⟨rfl, rfl⟩
  go_wp2
  go_ret
  exact ⟨rfl, rfl⟩
theorem rof_any (s n r : Nat) (w : World) (hr : of s n = r) :
    Calls Try.prog 7 #[.int .u64 (s : Int), .int .u64 (n : Int)] w fun e w' => e = .returned (.int .u64 (r : Int)) ∧ w = w' := by
  obtain ⟨a, b, c, d, x, ha, hb, hc, hd, hx, hf, e1, e2, e3⟩ := of_parts s n r hr
  clear hr
  rw [Int.mul_comm] at e2 e3
  go_enter Try.func7, Try.ntmps7
  go_wp2_with fail
  refine (half_any a 30 b _ ha.out (by omega) hb.out).mono ?_; rintro e w' ⟨rfl, rfl⟩
  go_wp2_with fail
  refine (half_any c 27 d _ hc.out (by omega) hd.out).mono ?_; rintro e w' ⟨rfl, rfl⟩
  go_wp2_with fail
  refine (half_any x 31 r _ hx.out (by omega) hf.out).mono ?_; rintro e w' ⟨rfl, rfl⟩
  go_wp2
  go_ret
  exact ⟨rfl, rfl⟩

theorem back_parts (s x r : Nat) (h : back s x = r) : ∃ a b c d e : Nat, Hid (lift x 31 = a) ∧ Hid (b < 18446744073709551616) ∧ Hid (lift b 27 = c) ∧ Hid (d < 18446744073709551616) ∧ Hid (lift d 30 = e) ∧
    IntKind.u64.wrap ((a : Int) * ((usnd : Nat) : Int)) = (b : Int) ∧ IntKind.u64.wrap ((c : Int) * ((ufst : Nat) : Int)) = (d : Int) ∧ IntKind.u64.wrap ((e : Int) - IntKind.u64.wrap (11400714819323198485 * (s : Int))) = (r : Int) :=
  ⟨_, _, _, _, _, rfl, Nat.mod_lt _ M_pos, rfl, Nat.mod_lt _ M_pos, rfl, mul_nat _ _, mul_nat _ _, by rw [← h]; exact out_nat _ s⟩
theorem back_any (s x r : Nat) (w : World) (hx : x < 18446744073709551616) (hr : back s x = r) :
    Calls Try.prog 9 #[.int .u64 (s : Int), .int .u64 (x : Int)] w fun e w' => e = .returned (.int .u64 (r : Int)) ∧ Below w.heap.size w w' := by
  obtain ⟨a, b, c, d, y, ha, hb, hc, hd, hy, e1, e2, e3⟩ := back_parts s x r hr
  clear hr
  obtain ⟨us, hus⟩ : ∃ us : Int, ((usnd : Nat) : Int) = us := ⟨_, rfl⟩
  obtain ⟨uf, huf⟩ : ∃ uf : Int, ((ufst : Nat) : Int) = uf := ⟨_, rfl⟩
  have U1 := undo_snd
  have U2 := undo_fst
  rw [hus] at U1 e1
  rw [huf] at U2 e2
  have HU1 := Lib.hid U1
  have HU2 := Lib.hid U2
  clear U1 U2 hus huf
  go_enter Try.func9, Try.ntmps9
  go_wp2_with fail
  refine (lift_any x 31 a _ hx (by omega) (by omega) ha.out).mono ?_; rintro e w' ⟨rfl, rfl⟩
  go_wp2_with fail
  refine (HU1.out _).mono ?_; rintro e w1 ⟨rfl, b1⟩
  have B1 := Lib.hid b1
  clear b1
  go_wp2_with fail
  refine (lift_any b 27 c _ hb.out (by omega) (by omega) hc.out).mono ?_; rintro e w' ⟨rfl, rfl⟩
  go_wp2_with fail
  refine (HU2.out _).mono ?_; rintro e w2 ⟨rfl, b2⟩
  have B2 := Lib.hid b2
  clear b2
  go_wp2_with fail
  refine (lift_any d 30 y _ hd.out (by omega) (by omega) hy.out).mono ?_; rintro e w' ⟨rfl, rfl⟩
  go_wp2
  go_ret
  exact ⟨rfl, B1.out.trans (B2.out.mono B1.out.size)⟩
end Go.Proofs.Ytioimgjdjgeepaa.W
