/-
  Contracts of the reference's Sum, of count.Most and of the law's 'few'.
-/
import Derived.Test.YtmfljibmnplkiaaCountMore
namespace Go.Proofs.Ytmfljibmnplkiaa.W
open Go.RowKit Num

set_option maxHeartbeats 400000 in
theorem rsum_any (a0 : Option Addr) (len cap : Nat) (zs : List Int) (w : World) (hl : len ≤ 4611686018427387904) (hc : Cells w a0 len zs) (hz : Fits zs) :
    Calls Try.prog 21 #[.slice a0 len cap] w fun e w' => e = .returned (.int .i64 (sumTo zs len)) ∧ w = w' := by
  have HC := Lib.hid hc
  have HZ := Lib.hid hz
  clear hc hz
  go_enter Try.func21, Try.ntmps21
  go_wp2
  go_loop [3, 4] (fun t i => ∃ k : Nat, k ≤ len ∧ i = .int .i64 k ∧ t = .int .i64 (sumTo zs k)) (fun _ i => len - (intOf i).toNat)
  case atStart => exact ⟨0, Nat.zero_le _, rfl, rfl⟩
  case round =>
    obtain ⟨k, hk, rfl, rfl⟩ := hrel
    by_cases hlt : k < len
    · obtain ⟨b, off, rfl, hcell⟩ := HC.out k hlt
      have b1 := sumTo_bd zs k
      have b2 := HZ.out k
      go_wp2_with fail
      refine (radd_any _ _ _ b1.1 b1.2 b2.1 b2.2).mono ?_; rintro e w' ⟨rfl, rfl⟩
      go_wp2
      go_round
      case rel => exact ⟨k + 1, by omega, by go_num, rfl⟩
      case measure => simp [intOf]; omega
    · have : k = len := by omega
      subst this
      go_wp2
      go_ret
      exact ⟨rfl, rfl⟩

/-- the greatest of the first ones -/
def mostTo (zs : List Int) : Nat → Int
  | 0 => nth zs 0
  | k + 1 => if mostTo zs k < nth zs k then nth zs k else mostTo zs k

theorem most_le (zs : List Int) (k i : Nat) (h : i < k) : nth zs i ≤ mostTo zs k := by
  induction k with
  | zero => omega
  | succ k ih =>
    unfold mostTo
    by_cases e : i = k
    · subst e; split <;> omega
    · have := ih (by omega); split <;> omega
theorem most_is (zs : List Int) (k : Nat) (h : 0 < k) : ∃ i, i < k ∧ nth zs i = mostTo zs k := by
  induction k with
  | zero => omega
  | succ k ih =>
    unfold mostTo
    by_cases e : k = 0
    · subst e; exact ⟨0, by omega, by unfold mostTo; simp⟩
    · obtain ⟨i, hi, he⟩ := ih (by omega)
      split
      · exact ⟨k, by omega, rfl⟩
      · exact ⟨i, by omega, he⟩

set_option maxHeartbeats 400000 in
theorem most_none (a0 : Option Addr) (cap : Nat) (w : World) :
    Calls Try.prog 19 #[.slice a0 0 cap] w fun e w' => e = .returned (.tuple #[.int .i64 0, .bool false]) ∧ w = w' := by
  go_enter Try.func19, Try.ntmps19
  go_wp2
  go_ret2
  exact ⟨rfl, rfl⟩

set_option maxHeartbeats 400000 in
theorem most_any (a0 : Option Addr) (len cap : Nat) (zs : List Int) (w : World) (hl : len ≤ 4611686018427387904) (hp : 0 < len) (hc : Cells w a0 len zs) :
    Calls Try.prog 19 #[.slice a0 len cap] w fun e w' => e = .returned (.tuple #[.int .i64 (mostTo zs len), .bool true]) ∧ w = w' := by
  have HC := Lib.hid hc
  clear hc
  have hne : ((len : Int) == 0) = false := by simp; omega
  obtain ⟨b, off, rfl, hcell⟩ := HC.out 0 hp
  simp only [Nat.add_zero] at hcell
  go_enter Try.func19, Try.ntmps19
  go_wp2
  go_loop [4, 14] (fun t i => ∃ k : Nat, k ≤ len ∧ i = .int .i64 k ∧ t = .int .i64 (mostTo zs k)) (fun _ i => len - (intOf i).toNat)
  case atStart => exact ⟨0, Nat.zero_le _, rfl, rfl⟩
  case round =>
    obtain ⟨k, hk, rfl, rfl⟩ := hrel
    clear hcell
    by_cases hlt : k < len
    · obtain ⟨b', off', e, hcell⟩ := HC.out k hlt
      simp only [Option.some.injEq, Addr.mk.injEq, and_true] at e
      obtain ⟨rfl, rfl⟩ := e
      go_wp2
      go_round
      case rel => exact ⟨k + 1, by omega, by go_num, rfl⟩
      case measure => simp [intOf]; omega
    · have : k = len := by omega
      subst this
      go_wp2
      go_ret2
      exact ⟨rfl, rfl⟩

set_option maxHeartbeats 400000 in
theorem few_short (a0 : Option Addr) (len cap : Nat) (w : World) (h : len ≤ 40) :
    Calls Try.prog 18 #[.slice a0 len cap] w fun e w' => e = .returned (.slice a0 len cap) ∧ w = w' := by
  go_enter Try.func18, Try.ntmps18
  go_wp2
  go_ret
  exact ⟨rfl, rfl⟩
set_option maxHeartbeats 400000 in
theorem few_long (a : Addr) (len cap : Nat) (w : World) (h : 40 < len) (hl : len ≤ cap) (hm : cap ≤ maxLen) :
    Calls Try.prog 18 #[.slice (some a) len cap] w fun e w' => e = .returned (.slice (some a) 40 cap) ∧ w = w' := by
  unfold maxLen at hm
  go_enter Try.func18, Try.ntmps18
  go_wp2
  go_ret
  exact ⟨rfl, rfl⟩

/-- whether the number is among the first ones -/
def foundTo (s : Bool) (zs : List Int) (m : Int) : Nat → Bool
  | 0 => s
  | k + 1 => foundTo s zs m k || (nth zs k == m)
theorem found_of (zs : List Int) (s : Bool) (m : Int) (k i : Nat) (h : i < k) (e : nth zs i = m) : foundTo s zs m k = true := by
  induction k with
  | zero => omega
  | succ k ih =>
    unfold foundTo
    by_cases q : i = k
    · subst q; simp [e]
    · rw [ih (by omega)]; rfl
theorem found_yes {s : Bool} {zs : List Int} {m : Int} {k : Nat} (h : foundTo s zs m k = true) : foundTo s zs m (k + 1) = true := by unfold foundTo; rw [h]; rfl
theorem found_no {s : Bool} {zs : List Int} {m : Int} {k : Nat} (h : foundTo s zs m k = false) : foundTo s zs m (k + 1) = (nth zs k == m) := by unfold foundTo; rw [h]; rfl
end Go.Proofs.Ytmfljibmnplkiaa.W
