/-
  Contracts for all inputs at once: Put, At, Num, few. No conditions.
-/
import Derived.Test.YtkbnmgaelcajlaaDoorOctAwake
namespace Go.Proofs.YtkbnmgaelcajlaaDoor.W
open Go.RowKit Oc
set_option linter.unusedVariables false

/-- what Put adds -/
def putOf (N : Nat) (k : Int) : List UInt8 := if 1 ≤ k ∧ k ≤ 8 then octs N k.toNat else []
theorem putOf_length (N : Nat) (k : Int) : (putOf N k).length ≤ 8 := by
  unfold putOf
  split
  · rw [octs_length]; omega
  · simp
theorem putOf_yes {N : Nat} {k : Int} (h : 1 ≤ k ∧ k ≤ 8) : putOf N k = octs N k.toNat := if_pos h
theorem putOf_no {N : Nat} {k : Int} (h : ¬ (1 ≤ k ∧ k ≤ 8)) : putOf N k = [] := if_neg h
theorem put_any (A : Option Addr) (n c : Nat) (xs : List UInt8) (N : Nat) (k : Int) (w : World) (hn : n ≤ 1000000000) (ho : Oct w A n xs) (hN : N < 18446744073709551616) :
    Calls Tryd.prog 11 #[.slice A n c, .int .u64 (N : Int), .int .i64 k] w (Made w (xs ++ putOf N k)) := by
  by_cases h : 1 ≤ k ∧ k ≤ 8
  · rw [putOf_yes h]
    have := put_yes A n c xs N k.toNat w hn ho hN (by omega) (by omega)
    rw [Int.toNat_of_nonneg (by omega)] at this
    exact this
  · rw [putOf_no h, List.append_nil]
    exact put_no A n c xs N k w hn ho h
theorem num_any (N : Nat) (k : Int) (w : World) (hN : N < 18446744073709551616) :
    Calls Tryd.prog 13 #[.int .u64 (N : Int), .int .i64 k] w (Made w (putOf N k)) := by
  by_cases h : 1 ≤ k ∧ k ≤ 8
  · rw [putOf_yes h]
    have := num_yes N k.toNat w hN (by omega)
    rw [Int.toNat_of_nonneg (by omega)] at this
    exact this
  · rw [putOf_no h]
    exact num_no N k w h

/-- what At tells -/
def atIn (xs : List UInt8) (i k : Int) : Bool := decide (1 ≤ k ∧ k ≤ 8 ∧ 0 ≤ i ∧ i + k ≤ xs.length)
def atNum (xs : List UInt8) (i k : Int) : Int := if atIn xs i k then (num ((xs.drop i.toNat).take k.toNat) : Nat) else 0
theorem at_any (A : Option Addr) (n c : Nat) (xs : List UInt8) (i k : Int) (w : World) (hn : n ≤ 1000000000) (ho : Oct w A n xs) :
    Calls Tryd.prog 9 #[.slice A n c, .int .i64 i, .int .i64 k] w fun e w' => e = .returned (.tuple #[.int .u64 (atNum xs i k), .bool (atIn xs i k)]) ∧ w = w' := by
  by_cases h : 1 ≤ k ∧ k ≤ 8 ∧ 0 ≤ i ∧ i + k ≤ xs.length
  · have e1 : atIn xs i k = true := by simpa [atIn] using h
    have e2 : atNum xs i k = (num ((xs.drop i.toNat).take k.toNat) : Nat) := by unfold atNum; rw [if_pos e1]
    rw [e1, e2]
    have hl := ho.len
    have := at_yes A n c xs i.toNat k.toNat w hn ho (by omega) (by omega) (by omega) _ rfl
    rw [Int.toNat_of_nonneg (by omega), Int.toNat_of_nonneg (by omega)] at this
    exact this
  · have e1 : atIn xs i k = false := by simpa [atIn] using h
    have e2 : atNum xs i k = 0 := by unfold atNum; rw [if_neg (by simp [e1])]
    rw [e1, e2]
    exact at_no A n c i k w hn (by rw [← ho.len]; exact h)
theorem rat_any (A : Option Addr) (n c : Nat) (xs : List UInt8) (i k : Int) (w : World) (hn : n ≤ 1000000000) (hc : n ≤ c) (ho : Oct w A n xs) :
    Calls Tryd.prog 10 #[.slice A n c, .int .i64 i, .int .i64 k] w fun e w' => e = .returned (.tuple #[.int .u64 (atNum xs i k), .bool (atIn xs i k)]) ∧ w = w' := by
  by_cases h : 1 ≤ k ∧ k ≤ 8 ∧ 0 ≤ i ∧ i + k ≤ xs.length
  · have e1 : atIn xs i k = true := by simpa [atIn] using h
    have e2 : atNum xs i k = (num ((xs.drop i.toNat).take k.toNat) : Nat) := by unfold atNum; rw [if_pos e1]
    rw [e1, e2]
    have hl := ho.len
    have := rat_yes A n c xs i.toNat k.toNat w hn hc ho (by omega) (by omega) (by omega) _ rfl
    rw [Int.toNat_of_nonneg (by omega), Int.toNat_of_nonneg (by omega)] at this
    exact this
  · have e1 : atIn xs i k = false := by simpa [atIn] using h
    have e2 : atNum xs i k = 0 := by unfold atNum; rw [if_neg (by simp [e1])]
    rw [e1, e2]
    exact rat_no A n c i k w hn (by rw [← ho.len]; exact h)

theorem few_any (A : Option Addr) (n c m : Nat) (w : World) (hm : m = min n 200) (hc : n ≤ c) :
    Calls Tryd.prog 8 #[.slice A n c] w fun e w' => e = .returned (.slice A m c) ∧ w = w' := by
  by_cases h : n ≤ 200
  · have : m = n := by omega
    subst this
    exact few_short A m c w h
  · have : m = 200 := by omega
    subst this
    exact few_long A n c w (by omega) hc

theorem below_of_drew {B : Nat} {w w' : World} (h : Below B w.drew w') : Below B w w' := ⟨h.os, h.tape, h.output, h.size, h.block⟩
end Go.Proofs.YtkbnmgaelcajlaaDoor.W
