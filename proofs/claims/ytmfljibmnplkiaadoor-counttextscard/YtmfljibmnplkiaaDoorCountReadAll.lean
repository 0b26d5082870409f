/-
  The contract of the reference's Read at every text of at most 60 octets.
-/
import Derived.Test.YtmfljibmnplkiaaDoorCountRead
namespace Go.Proofs.YtmfljibmnplkiaaDoor.W
open Go.RowKit Num

theorem read_out {L : List UInt8} (h : (behind L).length = 0 ∨ 19 < (behind L).length) : readL L = (0, false) := by
  unfold readL; rw [if_pos h]

set_option maxHeartbeats 2000000 in
theorem read_empty (s : ByteArray) (h0 : s.size = 0) (w : World) :
    Calls Tryd.prog 6 #[.string s] w fun e w' => e = .returned (.tuple #[.int .i64 (readL s.data.toList).1, .bool (readL s.data.toList).2]) ∧ w = w' := by
  have N := Lib.hid (show readL s.data.toList = (0, false) by
    have : s.data.toList = [] := List.length_eq_zero_iff.1 (by simpa using h0)
    rw [this]; exact read_out (.inl rfl))
  have hp : decide (0 < s.size) = false := decide_eq_false (by omega)
  have hp' : decide ((0 : Int) < (s.size : Int)) = false := decide_eq_false (by omega)
  have hz : ((s.size : Int) == 0) = true := beq_iff_eq.2 (by omega)
  clear h0
  go_enter Tryd.func6, Tryd.ntmps6
  go_wp2
  go_ret2
  exact ⟨ret_read N.out, rfl⟩

set_option maxHeartbeats 2000000 in
theorem read_minus_out (s : ByteArray) (hl : s.size ≤ 60) (hp : 0 < s.size) (h45 : s[0].toNat = 45) (ho : s.size - 1 = 0 ∨ 19 < s.size - 1) (w : World) :
    Calls Tryd.prog 6 #[.string s] w fun e w' => e = .returned (.tuple #[.int .i64 (readL s.data.toList).1, .bool (readL s.data.toList).2]) ∧ w = w' := by
  have hb : ((s[0].toNat : Int) == 45) = true := by rw [h45]; rfl
  obtain ⟨r1, r2, r3⟩ := rest_minus s hp h45
  have N := Lib.hid (show readL s.data.toList = (0, false) from read_out (by
    rw [r2]
    have e : (s.extract 1 s.size).data.toList.length = (s.extract 1 s.size).size := by simp
    rw [e, r3]; exact ho))
  clear r1 r2 r3 h45
  by_cases z : s.size - 1 = 0
  · have hz : (((s.size - 1 : Nat) : Int) == 0) = true := by rw [beq_iff_eq]; omega
    clear z ho
    go_enter Tryd.func6, Tryd.ntmps6
    go_wp2
    go_ret2
    exact ⟨ret_read N.out, rfl⟩
  · have hz : (((s.size - 1 : Nat) : Int) == 0) = false := by rw [beq_eq_false_iff_ne]; omega
    have h19 : decide ((19 : Int) < ((s.size - 1 : Nat) : Int)) = true := by simp; omega
    clear z ho
    go_enter Tryd.func6, Tryd.ntmps6
    go_wp2
    go_ret2
    exact ⟨ret_read N.out, rfl⟩

set_option maxHeartbeats 2000000 in
theorem read_plain_out (s : ByteArray) (hl : s.size ≤ 60) (hp : 0 < s.size) (h45 : s[0].toNat ≠ 45) (ho : 19 < s.size) (w : World) :
    Calls Tryd.prog 6 #[.string s] w fun e w' => e = .returned (.tuple #[.int .i64 (readL s.data.toList).1, .bool (readL s.data.toList).2]) ∧ w = w' := by
  have hb : ((s[0].toNat : Int) == 45) = false := by rw [beq_eq_false_iff_ne]; omega
  have hz : ((s.size : Int) == 0) = false := by rw [beq_eq_false_iff_ne]; omega
  have h19 : decide ((19 : Int) < (s.size : Int)) = true := by simp; omega
  obtain ⟨r1, r2⟩ := rest_plain s hp h45
  have N := Lib.hid (show readL s.data.toList = (0, false) from read_out (by
    rw [r2]
    have e : s.data.toList.length = s.size := by simp
    rw [e]; exact .inr ho))
  clear r1 r2 h45
  go_enter Tryd.func6, Tryd.ntmps6
  go_wp2
  go_ret2
  exact ⟨ret_read N.out, rfl⟩

theorem read_any (s : ByteArray) (hl : s.size ≤ 60) (w : World) :
    Calls Tryd.prog 6 #[.string s] w fun e w' => e = .returned (.tuple #[.int .i64 (readL s.data.toList).1, .bool (readL s.data.toList).2]) ∧ w = w' := by
  by_cases h0 : s.size = 0
  · exact read_empty s h0 w
  · by_cases h45 : s[0].toNat = 45
    · by_cases ho : s.size - 1 = 0 ∨ 19 < s.size - 1
      · exact read_minus_out s hl (by omega) h45 ho w
      · exact read_minus s hl (by omega) h45 (by omega) (by omega) w
    · by_cases ho : 19 < s.size
      · exact read_plain_out s hl (by omega) h45 ho w
      · exact read_plain s hl (by omega) h45 (by omega) w
end Go.Proofs.YtmfljibmnplkiaaDoor.W
