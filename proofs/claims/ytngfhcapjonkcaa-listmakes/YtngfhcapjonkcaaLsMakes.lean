/-
  The walk of ListMakes. No conditions.
-/
import Derived.Test.YtngfhcapjonkcaaLsActs
namespace Go.Proofs.Ytngfhcapjonkcaa.W
open Go.RowKit Rw Ls
set_option linter.unusedVariables false

/-- lists that nobody made, new -/
theorem odd_new (w : World) : Odd (w.alloc (.cells #[.int .i64 0, .slice none 0 0, .slice none 0 0] 39)) w.heap.size := heap_alloc_new w _

set_option maxRecDepth 100000 in
set_option maxHeartbeats 8000000 in
theorem makes_walk (nodes lists i : Int) (w : World) :
    Calls Try.prog 4 #[.int .i64 nodes, .int .i64 lists, .int .i64 i] w fun e w' => e = .returned (.bool true) ∧ Below w.heap.size w w' := by
  by_cases hok : 0 ≤ nodes ∧ nodes ≤ 1024 ∧ 0 ≤ lists ∧ lists ≤ 16
  · obtain ⟨n, rfl⟩ := Int.eq_ofNat_of_zero_le hok.1
    obtain ⟨m, rfl⟩ := Int.eq_ofNat_of_zero_le hok.2.2.1
    have hn : n ≤ 1024 := by omega
    have hm : m ≤ 16 := by omega
    clear hok
    go_enter Try.func4, Try.ntmps4
    go_wp2_with fail
    refine (new_any n m w hn hm).mono ?_; rintro e w1 ⟨R, g1, g2, rfl, x1, hR, h1, h2, b1⟩
    have B1 := Lib.hid b1
    clear b1 x1 hR h1 h2
    have OD := Lib.hid (odd_new w1)
    have B2 : Hid (Below w.heap.size w (w1.alloc (.cells #[.int .i64 0, .slice none 0 0, .slice none 0 0] 39))) := B1.out.alloc B1.out.size _
    go_wp2_with fail
    refine (front_nil i _).mono ?_; rintro e w' ⟨rfl, rfl⟩
    go_wp2_with fail
    refine (back_odd OD.out i).mono ?_; rintro e w' ⟨rfl, rfl⟩
    go_wp2_with fail
    refine (of_nil i _).mono ?_; rintro e w' ⟨rfl, rfl⟩
    go_wp2_with fail
    refine (push_nil i i _).mono ?_; rintro e w' ⟨rfl, rfl⟩
    go_wp2_with fail
    refine (append_odd OD.out i i).mono ?_; rintro e w' ⟨rfl, rfl⟩
    go_wp2_with fail
    refine (remove_nil i _).mono ?_; rintro e w' ⟨rfl, rfl⟩
    go_wp2_with fail
    refine (remove_odd OD.out i).mono ?_; rintro e w' ⟨rfl, rfl⟩
    go_wp2_with fail
    refine (len_nil i _).mono ?_; rintro e w' ⟨rfl, rfl⟩
    go_wp2_with fail
    refine (len_odd OD.out i).mono ?_; rintro e w' ⟨rfl, rfl⟩
    go_wp2_with fail
    refine (all_none i _).mono ?_; rintro e w' ⟨rfl, rfl⟩
    go_wp2_with fail
    refine (all_odd OD.out i).mono ?_; rintro e w' ⟨rfl, rfl⟩
    go_wp2_with fail
    refine (right_nil _).mono ?_; rintro e w' ⟨rfl, rfl⟩
    go_wp2_with fail
    refine (right_odd OD.out).mono ?_; rintro e w3 ⟨rfl, b3⟩
    have B3 := Lib.hid (then_below B2.out b3)
    clear b3
    go_wp2_with fail
    refine (awake_any _).mono ?_; rintro e w4 ⟨rfl, b4⟩
    have B4 := Lib.hid (then_below B3.out b4)
    clear b4
    go_wp2
    go_ret
    exact ⟨rfl, B4.out⟩
  · have HOK := Lib.hid hok
    have hc : nodes < 0 ∨ (0 ≤ nodes ∧ 1024 < nodes) ∨ (0 ≤ nodes ∧ nodes ≤ 1024 ∧ lists < 0) ∨ (0 ≤ nodes ∧ nodes ≤ 1024 ∧ 0 ≤ lists ∧ 16 < lists) := by omega
    clear hok
    rcases hc with h | ⟨h, h1⟩ | ⟨h, h1, h2⟩ | ⟨h, h1, h2, h3⟩
    all_goals
      go_enter Try.func4, Try.ntmps4
      go_wp2_with fail
      refine (new_bad nodes lists w HOK.out).mono ?_; rintro e w1 ⟨rfl, hw1⟩
      have B1 : Hid (Below w.heap.size w w1) := by show Below _ _ _; rw [← hw1]; exact Below.refl _ _
      clear hw1
      have OD := Lib.hid (odd_new w1)
      have B2 : Hid (Below w.heap.size w (w1.alloc (.cells #[.int .i64 0, .slice none 0 0, .slice none 0 0] 39))) := B1.out.alloc B1.out.size _
      go_wp2_with fail
      refine (front_nil i _).mono ?_; rintro e w' ⟨rfl, rfl⟩
      go_wp2_with fail
      refine (back_odd OD.out i).mono ?_; rintro e w' ⟨rfl, rfl⟩
      go_wp2_with fail
      refine (of_nil i _).mono ?_; rintro e w' ⟨rfl, rfl⟩
      go_wp2_with fail
      refine (push_nil i i _).mono ?_; rintro e w' ⟨rfl, rfl⟩
      go_wp2_with fail
      refine (append_odd OD.out i i).mono ?_; rintro e w' ⟨rfl, rfl⟩
      go_wp2_with fail
      refine (remove_nil i _).mono ?_; rintro e w' ⟨rfl, rfl⟩
      go_wp2_with fail
      refine (remove_odd OD.out i).mono ?_; rintro e w' ⟨rfl, rfl⟩
      go_wp2_with fail
      refine (len_nil i _).mono ?_; rintro e w' ⟨rfl, rfl⟩
      go_wp2_with fail
      refine (len_odd OD.out i).mono ?_; rintro e w' ⟨rfl, rfl⟩
      go_wp2_with fail
      refine (all_none i _).mono ?_; rintro e w' ⟨rfl, rfl⟩
      go_wp2_with fail
      refine (all_odd OD.out i).mono ?_; rintro e w' ⟨rfl, rfl⟩
      go_wp2_with fail
      refine (right_nil _).mono ?_; rintro e w' ⟨rfl, rfl⟩
      go_wp2_with fail
      refine (right_odd OD.out).mono ?_; rintro e w3 ⟨rfl, b3⟩
      have B3 := Lib.hid (then_below B2.out b3)
      clear b3
      go_wp2_with fail
      refine (awake_any _).mono ?_; rintro e w4 ⟨rfl, b4⟩
      have B4 := Lib.hid (then_below B3.out b4)
      clear b4
      go_wp2
      go_ret
      exact ⟨rfl, B4.out⟩
end Go.Proofs.Ytngfhcapjonkcaa.W
