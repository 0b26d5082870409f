/-
  The reference's Num: a number in decimals.
-/
import Derived.Test.YtmfljibmnplkiaaDoorCountNum
import Derived.Test.YtmfljibmnplkiaaDoorChecked
import Derived.WalkKit
import Derived.WalkLawsBesides
import Derived.Lib.Hide
import Derived.Lib.ItoaMem
import Derived.Lib.ItoaLen
import Derived.WalkSpells
namespace Go.Proofs.YtmfljibmnplkiaaDoor.W
open Go.RowKit Num

def bs (l : List UInt8) : ByteArray := ⟨l.toArray⟩
def NumAt (N m : Nat) (l : List UInt8) : Prop := (m = 0 ∧ l = Lib.decDigits N) ∨ (m ≠ 0 ∧ Lib.decDigits m ++ l = Lib.decDigits N)

theorem digit_fin : ∀ d : Fin 10, ({ data := #[48, 49, 50, 51, 52, 53, 54, 55, 56, 57] } : ByteArray).extract d.val (d.val + 1) = bs [UInt8.ofNat (48 + d.val)] := by decide +kernel
theorem bs_append (a b : List UInt8) : bs a ++ bs b = bs (a ++ b) := by
  apply ByteArray.ext
  simp [bs]
theorem digit_on (d : Nat) (h : d < 10) (l : List UInt8) : ({ data := #[48, 49, 50, 51, 52, 53, 54, 55, 56, 57] } : ByteArray).extract d (d + 1) ++ bs l = bs (UInt8.ofNat (48 + d) :: l) := by
  rw [digit_fin ⟨d, h⟩, bs_append]; rfl
theorem bs_size (l : List UInt8) : (bs l).size = l.length := by simp [bs, ByteArray.size]
theorem num_step {N m : Nat} {l : List UInt8} (hm : m ≠ 0) (h : NumAt N m l) : NumAt N (m / 10) (UInt8.ofNat (48 + m % 10) :: l) := by
  rcases h with ⟨e, _⟩ | ⟨_, e⟩
  · exact absurd e hm
  · by_cases c : m < 10
    · refine .inl ⟨by omega, ?_⟩
      rw [Lib.decDigits_one c] at e
      rw [Nat.mod_eq_of_lt c, ← e]; rfl
    · refine .inr ⟨by omega, ?_⟩
      rw [← e]
      conv => rhs; rw [Lib.decDigits, dif_neg c]
      rw [List.append_assoc]; rfl
theorem num_len {N m : Nat} {l : List UInt8} (h : NumAt N m l) (hN : N < 18446744073709551616) : (bs l).size ≤ 20 := by
  have hb : (Lib.decDigits N).length ≤ 20 := by rw [Lib.decDigits_length]; exact Lib.nDigits_le20 N hN
  rw [bs_size]
  rcases h with ⟨_, e⟩ | ⟨_, e⟩
  · rw [e]; exact hb
  · rw [← e, List.length_append] at hb; omega
theorem num_end {N : Nat} {l : List UInt8} (h : NumAt N 0 l) : l = Lib.decDigits N := by
  rcases h with ⟨_, e⟩ | ⟨e, _⟩
  · exact e
  · exact absurd rfl e
theorem ret_str {a b : ByteArray} (h : a = b) : Ending.returned (.string a) = .returned (.string b) := by rw [h]

set_option maxHeartbeats 1000000 in
theorem num_pos (N : Nat) (h0 : N ≠ 0) (h : N ≤ 9223372036854775807) (w : World) :
    Calls Tryd.prog 7 #[.int .i64 N] w fun e w' => e = .returned (.string (bs (Lib.decDigits N))) ∧ w = w' := by
  have hz : ((N : Int) == 0) = false := by simp; omega
  have hp : decide ((N : Int) < 0) = false := by simp
  go_enter Tryd.func7, Tryd.ntmps7
  go_wp2
  go_loop [0, 4] (fun n s => ∃ (m : Nat) (l : List UInt8), n = .int .i64 m ∧ s = .string (bs l) ∧ m ≤ N ∧ NumAt N m l) (fun n _ => (intOf n).toNat)
  case atStart => exact ⟨N, [], rfl, rfl, Nat.le_refl _, .inr ⟨h0, by simp⟩⟩
  case round =>
    obtain ⟨m, l, rfl, rfl, hm, hr⟩ := hrel
    have HR := Lib.hid hr
    have hsz := num_len hr (by omega)
    clear hr
    by_cases c : m = 0
    · subst c
      have E := Lib.hid (num_end HR.out)
      go_wp2
      go_ret
      exact ⟨ret_str (by rw [E.out]), rfl⟩
    · have hne : ((m : Int) != 0) = true := by simp; omega
      have h1 : (0 : Int) ≤ (m : Int) % 10 := by omega
      go_wp2
      go_round
      case rel => exact ⟨m / 10, _, by go_num, by rw [digit_on _ (by omega)], by omega, num_step c HR.out⟩
      case measure => simp [intOf]; omega

theorem tm (m : Nat) : (-(m : Int)).tmod 10 = -((m % 10 : Nat) : Int) := by
  rw [Int.neg_tmod, Int.tmod_eq_emod_of_nonneg (by omega)]; omega
theorem td (m : Nat) : (-(m : Int)).tdiv 10 = -((m / 10 : Nat) : Int) := by
  rw [Int.neg_tdiv, Int.tdiv_eq_ediv_of_nonneg (by omega)]; omega

set_option maxHeartbeats 1000000 in
theorem num_neg (N : Nat) (h0 : N ≠ 0) (h : N ≤ 9223372036854775808) (w : World) :
    Calls Tryd.prog 7 #[.int .i64 (-(N : Int))] w fun e w' => e = .returned (.string (bs (45 :: Lib.decDigits N))) ∧ w = w' := by
  have hz : ((-(N : Int)) == 0) = false := by simp; omega
  have hp : decide ((-(N : Int)) < 0) = true := by simp; omega
  go_enter Tryd.func7, Tryd.ntmps7
  go_wp2
  go_loop [0, 4] (fun n s => ∃ (m : Nat) (l : List UInt8), n = .int .i64 (-(m : Int)) ∧ s = .string (bs l) ∧ m ≤ N ∧ NumAt N m l) (fun n _ => (intOf n).natAbs)
  case atStart => exact ⟨N, [], rfl, rfl, Nat.le_refl _, .inr ⟨h0, by simp⟩⟩
  case round =>
    obtain ⟨m, l, rfl, rfl, hm, hr⟩ := hrel
    have HR := Lib.hid hr
    have hsz := num_len hr (by omega)
    clear hr
    by_cases c : m = 0
    · subst c
      have E := Lib.hid (num_end HR.out)
      have hneg : (-((0 : Nat) : Int)) = 0 := by omega
      rw [hneg]
      clear hneg
      go_wp2
      go_ret
      exact ⟨ret_str (by rw [← E.out]; exact bs_append [45] l), rfl⟩
    · have hne : ((-(m : Int)) != 0) = true := by simp; omega
      have t1 := tm m
      have t2 := td m
      by_cases d : m % 10 = 0
      · have E := Lib.hid (show ({ data := #[48, 49, 50, 51, 52, 53, 54, 55, 56, 57] } : ByteArray).extract 0 1 ++ bs l = bs (UInt8.ofNat (48 + m % 10) :: l) by rw [d]; exact digit_on 0 (by omega) l)
        go_wp2
        go_round
        case rel => exact ⟨m / 10, _, by go_num, by rw [E.out], by omega, num_step c HR.out⟩
        case measure => simp [intOf]; omega
      · go_wp2
        go_round
        case rel => exact ⟨m / 10, _, by go_num, by rw [digit_on _ (by omega)], by omega, num_step c HR.out⟩
        case measure => simp [intOf]; omega

set_option maxHeartbeats 1000000 in
theorem num_zero (w : World) :
    Calls Tryd.prog 7 #[.int .i64 0] w fun e w' => e = .returned (.string (bs (Lib.itoa 0))) ∧ w = w' := by
  have E := Lib.hid (show Lib.itoa 0 = [48] by decide +kernel)
  go_enter Tryd.func7, Tryd.ntmps7
  go_wp2
  go_ret
  exact ⟨ret_str (by rw [E.out]; rfl), rfl⟩

theorem num_any (n : Int) (h1 : -9223372036854775808 ≤ n) (h2 : n ≤ 9223372036854775807) (w : World) :
    Calls Tryd.prog 7 #[.int .i64 n] w fun e w' => e = .returned (.string (bs (Lib.itoa n))) ∧ w = w' := by
  by_cases c : n < 0
  · have e : n = -(n.natAbs : Int) := by omega
    have := num_neg n.natAbs (by omega) (by omega) w
    rw [← e] at this
    rw [show Lib.itoa n = 45 :: Lib.decDigits n.natAbs by unfold Lib.itoa; rw [if_pos c]]
    exact this
  · by_cases z : n = 0
    · subst z; exact num_zero w
    · have e : n = (n.toNat : Int) := by omega
      have := num_pos n.toNat (by omega) (by omega) w
      rw [← e] at this
      rw [show Lib.itoa n = Lib.decDigits n.toNat by unfold Lib.itoa; rw [if_neg c]]
      exact this
end Go.Proofs.YtmfljibmnplkiaaDoor.W
