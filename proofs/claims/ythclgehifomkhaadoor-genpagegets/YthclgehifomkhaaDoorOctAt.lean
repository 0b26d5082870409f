/-
  Contracts of octet.At and of the reference's At and Of. No conditions.
-/
import Derived.Test.YthclgehifomkhaaDoorOctRead
namespace Go.Proofs.YthclgehifomkhaaDoor.W
open Go.RowKit Oc
set_option linter.unusedVariables false

theorem wrap_in {a : Nat} (h : a < 18446744073709551616) : IntKind.u64.wrap (a : Int) = (a : Int) := by
  rw [IntKind.wrap_u64]
  exact Int.emod_eq_of_lt (by omega) (by omega)
theorem or_step (a : Nat) (x : UInt8) (j : Nat) (hj : j < 8) (ha : a < 256 ^ j) : bits BinOp.or IntKind.u64 (a : Int) (IntKind.u64.wrap (IntKind.u64.wrap (x.toNat : Int) * 2 ^ (8 * j))) = ((a + x.toNat * 256 ^ j : Nat) : Int) := by
  have hx := x.toNat_lt
  have hs := shl_num x j hj
  have h8 := pow_le8 (k := j) (by omega)
  have e : (x.toNat : Int) * 2 ^ (8 * j) = ((x.toNat * 256 ^ j : Nat) : Int) := by rw [pow8, Int.natCast_mul, Int.natCast_pow]; rfl
  rw [wrap_in (a := x.toNat) (by omega), e, wrap_in hs, u64_or_nat a _ (by omega) hs, or_num a _ j ha]
theorem take_at {xs : List UInt8} {i j : Nat} {x : UInt8} (h : xs[i + j]? = some x) : (xs.drop i)[j]? = some x := by rw [List.getElem?_drop]; exact h

set_option maxHeartbeats 1000000 in
theorem at_yes (A : Option Addr) (n c : Nat) (xs : List UInt8) (i k : Nat) (w : World) (hn : n ≤ 1000000000) (ho : Oct w A n xs) (h1 : 1 ≤ k) (h8 : k ≤ 8) (hi : i + k ≤ n) (u : Nat) (hu : num ((xs.drop i).take k) = u) :
    Calls Tryd.prog 43 #[.slice A n c, .int .i64 (i : Int), .int .i64 (k : Int)] w fun e w' => e = .returned (.tuple #[.int .u64 (u : Int), .bool true]) ∧ w = w' := by
  have HO := Lib.hid ho
  have HU := Lib.hid hu
  clear ho hu
  go_enter Tryd.func43, Tryd.ntmps43
  go_wp2_with fail
  refine (fits_yes _ _ (by omega) (by omega)).mono ?_; rintro e w' ⟨rfl, rfl⟩
  go_wp2
  go_loop [8, 26] (fun s q => ∃ j a : Nat, j ≤ k ∧ q = .int .i64 j ∧ s = .int .u64 a ∧ Hid (num ((xs.drop i).take j) = a)) (fun _ q => k - (intOf q).toNat)
  case atStart => exact ⟨0, 0, by omega, rfl, rfl, rfl⟩
  case round =>
    obtain ⟨j, a, hj, rfl, rfl, E⟩ := hrel
    by_cases hlt : j < k
    · obtain ⟨b, off, x, rfl, hx, hcell⟩ := HO.out.at_ (k := i + j) (by omega)
      have ha : Hid (a < 256 ^ j) := by
        have h := num_lt ((xs.drop i).take j)
        rw [E.out] at h
        exact Nat.lt_of_lt_of_le h (Nat.pow_le_pow_right (by decide) (List.length_take_le _ _))
      have HX := Lib.hid (take_at hx)
      clear hx
      go_wp2
      go_round
      case rel => exact ⟨j + 1, _, by omega, by go_num, by rw [or_step a x j (by omega) ha.out], by show num _ = _; rw [num_take _ j x HX.out, E.out]⟩
      case measure => simp [intOf]; omega
    · have : j = k := by omega
      subst this
      have e := E.out.symm.trans HU.out
      subst e
      go_wp2
      go_ret2
      exact ⟨rfl, rfl⟩

theorem at_no (A : Option Addr) (n c : Nat) (i k : Int) (w : World) (hn : n ≤ 1000000000) (h : ¬ (1 ≤ k ∧ k ≤ 8 ∧ 0 ≤ i ∧ i + k ≤ n)) :
    Calls Tryd.prog 43 #[.slice A n c, .int .i64 i, .int .i64 k] w fun e w' => e = .returned (.tuple #[.int .u64 0, .bool false]) ∧ w = w' := by
  by_cases hf : 1 ≤ k ∧ k ≤ 8
  · obtain ⟨h1, h8⟩ := hf
    by_cases h0 : i < 0
    · clear h
      go_enter Tryd.func43, Tryd.ntmps43
      go_wp2_with fail
      refine (fits_yes _ _ (by omega) (by omega)).mono ?_; rintro e w' ⟨rfl, rfl⟩
      go_wp2
      go_ret2
      exact ⟨rfl, rfl⟩
    · have h2 : (n : Int) - k < i := by omega
      clear h
      go_enter Tryd.func43, Tryd.ntmps43
      go_wp2_with fail
      refine (fits_yes _ _ (by omega) (by omega)).mono ?_; rintro e w' ⟨rfl, rfl⟩
      go_wp2
      go_ret2
      exact ⟨rfl, rfl⟩
  · have HF := Lib.hid hf
    clear h hf
    go_enter Tryd.func43, Tryd.ntmps43
    go_wp2_with fail
    refine (fits_no _ _ HF.out).mono ?_; rintro e w' ⟨rfl, rfl⟩
    go_wp2
    go_ret2
    exact ⟨rfl, rfl⟩

theorem of_step (a : Nat) (x : UInt8) (h : x.toNat + 256 * a < 18446744073709551616) : IntKind.u64.wrap (IntKind.u64.wrap (256 * (a : Int)) + IntKind.u64.wrap (x.toNat : Int)) = ((x.toNat + 256 * a : Nat) : Int) := by
  have e : 256 * (a : Int) = ((256 * a : Nat) : Int) := by omega
  rw [e, wrap_in (by omega), wrap_in (by omega), ← Int.natCast_add, wrap_in (by omega), Nat.add_comm]

set_option maxHeartbeats 1000000 in
theorem of_any (A : Option Addr) (n c : Nat) (xs : List UInt8) (w : World) (hn : n ≤ 8) (ho : Oct w A n xs) (u : Nat) (hu : num xs = u) :
    Calls Tryd.prog 26 #[.slice A n c] w fun e w' => e = .returned (.int .u64 (u : Int)) ∧ w = w' := by
  have HO := Lib.hid ho
  have HU := Lib.hid hu
  clear ho hu
  go_enter Tryd.func26, Tryd.ntmps26
  go_wp2
  go_loop [3, 4] (fun s q => ∃ j a : Nat, j ≤ n ∧ q = .int .i64 ((j : Int) - 1) ∧ s = .int .u64 a ∧ Hid (num (xs.drop j) = a)) (fun _ q => (intOf q + 1).toNat)
  case atStart => exact ⟨n, 0, by omega, rfl, rfl, by show num _ = _; rw [List.drop_eq_nil_of_le (by rw [HO.out.len]; exact Nat.le_refl _)]; rfl⟩
  case round =>
    obtain ⟨j, a, hj, rfl, rfl, E⟩ := hrel
    rcases j with _ | j
    · have e := E.out.symm.trans HU.out
      subst e
      go_wp2
      go_ret
      exact ⟨rfl, rfl⟩
    · obtain ⟨b, off, x, rfl, hx, hcell⟩ := HO.out.at_ (k := j) (by omega)
      have HX := Lib.hid (num_drop xs j x hx)
      have hb : Hid (x.toNat + 256 * a < 18446744073709551616) := by
        have h := num_lt8 (xs.drop j) (by rw [List.length_drop, HO.out.len]; omega)
        rw [HX.out, E.out] at h
        exact h
      clear hx
      go_wp2
      go_round
      case rel => exact ⟨j, _, by omega, rfl, by rw [of_step a x hb.out], by show num _ = _; rw [HX.out, E.out]⟩
      case measure => simp [intOf]

end Go.Proofs.YthclgehifomkhaaDoor.W
