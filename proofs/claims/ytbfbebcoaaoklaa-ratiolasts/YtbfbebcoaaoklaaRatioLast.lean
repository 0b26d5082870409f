/-
  Contracts of the reference's List, of ratio.Last and of the reference's Last: what each call returns, and that nothing old turns.
-/
import Derived.Test.YtbfbebcoaaoklaaRatioLawKit
import Derived.Deep.QuietTactic
import Derived.BigQuiet
import Derived.OwnWalk
namespace Go.Proofs.Ytbfbebcoaaoklaa.W
open Go.RowKit Flt

/-- the last of the first floats, and whether there is one -/
def lastTo (h : Nat → Nat) : Nat → Nat × Bool
  | 0 => (0, false)
  | k + 1 => if nan (h k) then lastTo h k else if (lastTo h k).2 = false ∨ rk (lastTo h k).1 < rk (h k) then (h k, true) else lastTo h k
theorem lastTo_lt (h : Nat → Nat) (hh : ∀ i, h i < 18446744073709551616) (k : Nat) : (lastTo h k).1 < 18446744073709551616 := by
  induction k with
  | zero => show (0 : Nat) < _; omega
  | succ k ih =>
    unfold lastTo
    split
    · exact ih
    · split
      · exact hh k
      · exact ih
theorem last_nan {h : Nat → Nat} {k l x : Nat} {f : Bool} (e : lastTo h k = (l, f)) (ex : h k = x) (n : nan x) : lastTo h (k + 1) = (l, f) := by
  unfold lastTo; rw [ex, if_pos n, e]
theorem last_first {h : Nat → Nat} {k l x : Nat} (e : lastTo h k = (l, false)) (ex : h k = x) (n : ¬ nan x) : lastTo h (k + 1) = (x, true) := by
  unfold lastTo; rw [ex, if_neg n, e, if_pos (.inl rfl)]
theorem last_take {h : Nat → Nat} {k l x : Nat} {f : Bool} (e : lastTo h k = (l, f)) (ex : h k = x) (n : ¬ nan x) (r : rk l < rk x) : lastTo h (k + 1) = (x, true) := by
  unfold lastTo; rw [ex, if_neg n, e, if_pos (.inr r)]
theorem last_keep {h : Nat → Nat} {k l x : Nat} (e : lastTo h k = (l, true)) (ex : h k = x) (n : ¬ nan x) (r : ¬ rk l < rk x) : lastTo h (k + 1) = (l, true) := by
  unfold lastTo; rw [ex, if_neg n, e, if_neg (by simp [r])]

/-- the cells of a slice of floats -/
def CellsF (w : World) (a0 : Option Addr) (len : Nat) (h : Nat → Nat) : Prop := ∀ i, i < len → ∃ b off, a0 = some ⟨b, off, none⟩ ∧ w.cell? ⟨b, off + i, none⟩ = some (.float .f64 (h i))
def CellsU (w : World) (a0 : Option Addr) (len : Nat) (z : Nat → Int) : Prop := ∀ i, i < len → ∃ b off, a0 = some ⟨b, off, none⟩ ∧ w.cell? ⟨b, off + i, none⟩ = some (.int .u64 (z i))

set_option maxHeartbeats 1000000 in
theorem last_any (a0 : Option Addr) (len cap : Nat) (h : Nat → Nat) (l : Nat) (f : Bool) (w : World) (hl : len ≤ 40) (hc : CellsF w a0 len h) (hh : ∀ i, h i < 18446744073709551616) (he : lastTo h len = (l, f)) :
    Calls Try.prog 25 #[.slice a0 len cap] w fun e w' => e = .returned (.tuple #[.float .f64 l, .bool f]) ∧ w = w' := by
  have HC := Lib.hid hc
  have HH := Lib.hid hh
  have HE := Lib.hid he
  clear hc hh he
  go_enter Try.func25, Try.ntmps25
  go_wp2
  go_loop [4, 5, 10] (fun t b i => ∃ k : Nat, ∃ u : Nat, ∃ g : Bool, k ≤ len ∧ i = .int .i64 k ∧ t = .float .f64 u ∧ b = .bool g ∧ Hid (lastTo h k = (u, g))) (fun _ _ i => len - (intOf i).toNat)
  case atStart => exact ⟨0, 0, false, Nat.zero_le _, rfl, rfl, rfl, rfl⟩
  case round =>
    obtain ⟨k, u, g, hk, rfl, rfl, rfl, E⟩ := hrel
    by_cases hlt : k < len
    · obtain ⟨b, off, rfl, hcell⟩ := HC.out k hlt
      obtain ⟨x, ex⟩ : ∃ x, h k = x := ⟨_, rfl⟩
      rw [ex] at hcell
      have lx := Lib.hid (show x < 18446744073709551616 by rw [← ex]; exact HH.out k)
      have lu := Lib.hid (show u < 18446744073709551616 by have := lastTo_lt h HH.out k; rw [E.out] at this; exact this)
      have EX := Lib.hid ex
      clear ex
      by_cases n : nan x
      · have R := Lib.hid (last_nan E.out EX.out n)
        have N := Lib.hid n
        clear n
        go_wp2_with fail
        refine (isnan_yes N.out _).mono ?_; rintro e w' ⟨rfl, rfl⟩
        go_wp2
        go_round
        case rel => exact ⟨k + 1, u, g, by omega, by go_num, rfl, rfl, R⟩
        case measure => simp [intOf]; omega
      · have N := Lib.hid n
        cases g
        · have R := Lib.hid (last_first E.out EX.out n)
          clear n
          go_wp2_with fail
          refine (isnan_no N.out _).mono ?_; rintro e w' ⟨rfl, rfl⟩
          go_wp2
          go_round
          case rel => exact ⟨k + 1, x, true, by omega, by go_num, rfl, rfl, R⟩
          case measure => simp [intOf]; omega
        · by_cases r : rk u < rk x
          · have R := Lib.hid (last_take E.out EX.out n r)
            have RR := Lib.hid r
            clear n r
            go_wp2_with fail
            refine (isnan_no N.out _).mono ?_; rintro e w' ⟨rfl, rfl⟩
            go_wp2_with fail
            refine (less_yes lu.out lx.out RR.out _).mono ?_; rintro e w' ⟨rfl, rfl⟩
            go_wp2
            go_round
            case rel => exact ⟨k + 1, x, true, by omega, by go_num, rfl, rfl, R⟩
            case measure => simp [intOf]; omega
          · have R := Lib.hid (last_keep E.out EX.out n r)
            have RR := Lib.hid r
            clear n r
            go_wp2_with fail
            refine (isnan_no N.out _).mono ?_; rintro e w' ⟨rfl, rfl⟩
            go_wp2_with fail
            refine (less_no lu.out lx.out RR.out _).mono ?_; rintro e w' ⟨rfl, rfl⟩
            go_wp2
            go_round
            case rel => exact ⟨k + 1, u, true, by omega, by go_num, rfl, rfl, R⟩
            case measure => simp [intOf]; omega
    · have : k = len := by omega
      subst this
      have e := E.out
      rw [HE.out] at e
      injection e with e1 e2
      subst e1 e2
      go_wp2
      go_ret2
      exact ⟨rfl, rfl⟩
end Go.Proofs.Ytbfbebcoaaoklaa.W
