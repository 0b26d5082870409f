/-
  The walk of the law CountTexts, where the library's variables hold what its text lays.
-/
import Derived.Test.YtmfljibmnplkiaaDoorCountReadAll
import Derived.Test.YtmfljibmnplkiaaDoorCountParse
import Derived.Test.YtmfljibmnplkiaaDoorCountAwake
namespace Go.Proofs.YtmfljibmnplkiaaDoor.W
open Go.RowKit Num

set_option maxHeartbeats 4000000 in
theorem walk_short_yes (n : Int) (n0 : -9223372036854775808 ≤ n) (n1 : n ≤ 9223372036854775807) (t : ByteArray) (h60 : t.size ≤ 60) (m : Int) (m0 : -9223372036854775808 ≤ m) (m1 : m ≤ 9223372036854775807) (hm : Lib.itoa m = t.data.toList) (w : World) (hE : Env w) :
    Calls Tryd.prog 3 #[.int .i64 n, .string t] w fun e w' => e = .returned (.bool true) ∧ Below w.heap.size w w' := by
  have HE := Lib.hid hE
  clear hE
  have HM := Lib.hid hm
  clear hm
  have ht : t.size ≤ 60 := h60
  go_enter Tryd.func3, Tryd.ntmps3
  go_wp2_with fail
  refine (text_any n n0 n1 _ HE.out).mono ?_
  rintro e w1 ⟨rfl, hb1⟩
  have B1 := Lib.hid hb1
  have E1 := Lib.hid (HE.out.below hb1)
  clear hb1
  go_wp2_with fail
  refine (parse_yes n n0 n1 _ E1.out).mono ?_
  rintro e w2 ⟨rfl, hb2⟩
  have B2 := Lib.hid (B1.out.trans (hb2.mono B1.out.size))
  have E2 := Lib.hid (E1.out.below hb2)
  clear hb2
  go_wp2_with fail
  have P3 : Calls Tryd.prog 4 #[.string t] w2 fun e w' => e = .returned (.tuple #[.int .i64 m, .bool true]) ∧ Below w2.heap.size w2 w' := by
    have h := parse_yes m m0 m1 w2 E2.out
    rwa [HM.out, ← bs_of t] at h
  refine P3.mono ?_
  clear P3
  rintro e w3 ⟨rfl, hb3⟩
  have B3 := Lib.hid (B2.out.trans (hb3.mono B2.out.size))
  have E3 := Lib.hid (E2.out.below hb3)
  clear hb3
  go_wp2_with fail
  have P4 : Calls Tryd.prog 6 #[.string t] w3 fun e w' => e = .returned (.tuple #[.int .i64 m, .bool true]) ∧ w3 = w' := by
    have h := read_any t ht w3
    rwa [← HM.out, read_itoa m m0 m1] at h
  refine P4.mono ?_
  clear P4
  rintro e w' ⟨rfl, rfl⟩
  go_wp2_with fail
  refine (text_any n n0 n1 _ E3.out).mono ?_
  rintro e w4 ⟨rfl, hb4⟩
  have B4 := Lib.hid (B3.out.trans (hb4.mono B3.out.size))
  clear hb4
  go_wp2_with fail
  refine (num_any n n0 n1 _).mono ?_; rintro e w' ⟨rfl, rfl⟩
  go_wp2_with fail
  refine (awake_any _).mono ?_; rintro e w5 ⟨rfl, hb5⟩
  have B5 := Lib.hid (B4.out.trans (hb5.mono B4.out.size))
  clear hb5
  go_wp2
  go_ret
  exact ⟨rfl, B5.out⟩

set_option maxHeartbeats 4000000 in
theorem walk_short_no (n : Int) (n0 : -9223372036854775808 ≤ n) (n1 : n ≤ 9223372036854775807) (t : ByteArray) (h60 : t.size ≤ 60) (hno : ∀ m : Int, -9223372036854775808 ≤ m → m ≤ 9223372036854775807 → Lib.itoa m ≠ t.data.toList) (w : World) (hE : Env w) :
    Calls Tryd.prog 3 #[.int .i64 n, .string t] w fun e w' => e = .returned (.bool true) ∧ Below w.heap.size w w' := by
  have HE := Lib.hid hE
  clear hE
  have HN := Lib.hid hno
  clear hno
  have ht : t.size ≤ 60 := h60
  go_enter Tryd.func3, Tryd.ntmps3
  go_wp2_with fail
  refine (text_any n n0 n1 _ HE.out).mono ?_
  rintro e w1 ⟨rfl, hb1⟩
  have B1 := Lib.hid hb1
  have E1 := Lib.hid (HE.out.below hb1)
  clear hb1
  go_wp2_with fail
  refine (parse_yes n n0 n1 _ E1.out).mono ?_
  rintro e w2 ⟨rfl, hb2⟩
  have B2 := Lib.hid (B1.out.trans (hb2.mono B1.out.size))
  have E2 := Lib.hid (E1.out.below hb2)
  clear hb2
  go_wp2_with fail
  have P3 : Calls Tryd.prog 4 #[.string t] w2 fun e w' => e = .returned (.tuple #[.int .i64 0, .bool false]) ∧ Below w2.heap.size w2 w' :=
    parse_no t ht HN.out w2 E2.out
  refine P3.mono ?_
  clear P3
  rintro e w3 ⟨rfl, hb3⟩
  have B3 := Lib.hid (B2.out.trans (hb3.mono B2.out.size))
  have E3 := Lib.hid (E2.out.below hb3)
  clear hb3
  go_wp2_with fail
  have P4 : Calls Tryd.prog 6 #[.string t] w3 fun e w' => e = .returned (.tuple #[.int .i64 (readL t.data.toList).1, .bool false]) ∧ w3 = w' := by
    have h := read_any t ht w3
    rwa [read_no _ HN.out] at h
  refine P4.mono ?_
  clear P4
  rintro e w' ⟨rfl, rfl⟩
  go_wp2_with fail
  refine (text_any n n0 n1 _ E3.out).mono ?_
  rintro e w4 ⟨rfl, hb4⟩
  have B4 := Lib.hid (B3.out.trans (hb4.mono B3.out.size))
  clear hb4
  go_wp2_with fail
  refine (num_any n n0 n1 _).mono ?_; rintro e w' ⟨rfl, rfl⟩
  go_wp2_with fail
  refine (awake_any _).mono ?_; rintro e w5 ⟨rfl, hb5⟩
  have B5 := Lib.hid (B4.out.trans (hb5.mono B4.out.size))
  clear hb5
  go_wp2
  go_ret
  exact ⟨rfl, B5.out⟩

set_option maxHeartbeats 4000000 in
theorem walk_long_yes (n : Int) (n0 : -9223372036854775808 ≤ n) (n1 : n ≤ 9223372036854775807) (s : ByteArray) (h60 : 60 < s.size) (hmx : s.size ≤ 9223372036854775807) (m : Int) (m0 : -9223372036854775808 ≤ m) (m1 : m ≤ 9223372036854775807) (hm : Lib.itoa m = (s.extract 0 60).data.toList) (w : World) (hE : Env w) :
    Calls Tryd.prog 3 #[.int .i64 n, .string s] w fun e w' => e = .returned (.bool true) ∧ Below w.heap.size w w' := by
  have HE := Lib.hid hE
  clear hE
  have HM := Lib.hid hm
  clear hm
  have ht : (s.extract 0 60).size ≤ 60 := by simp; omega
  go_enter Tryd.func3, Tryd.ntmps3
  go_wp2_with fail
  generalize s.extract 0 60 = t at *
  refine (text_any n n0 n1 _ HE.out).mono ?_
  rintro e w1 ⟨rfl, hb1⟩
  have B1 := Lib.hid hb1
  have E1 := Lib.hid (HE.out.below hb1)
  clear hb1
  go_wp2_with fail
  refine (parse_yes n n0 n1 _ E1.out).mono ?_
  rintro e w2 ⟨rfl, hb2⟩
  have B2 := Lib.hid (B1.out.trans (hb2.mono B1.out.size))
  have E2 := Lib.hid (E1.out.below hb2)
  clear hb2
  go_wp2_with fail
  have P3 : Calls Tryd.prog 4 #[.string t] w2 fun e w' => e = .returned (.tuple #[.int .i64 m, .bool true]) ∧ Below w2.heap.size w2 w' := by
    have h := parse_yes m m0 m1 w2 E2.out
    rwa [HM.out, ← bs_of t] at h
  refine P3.mono ?_
  clear P3
  rintro e w3 ⟨rfl, hb3⟩
  have B3 := Lib.hid (B2.out.trans (hb3.mono B2.out.size))
  have E3 := Lib.hid (E2.out.below hb3)
  clear hb3
  go_wp2_with fail
  have P4 : Calls Tryd.prog 6 #[.string t] w3 fun e w' => e = .returned (.tuple #[.int .i64 m, .bool true]) ∧ w3 = w' := by
    have h := read_any t ht w3
    rwa [← HM.out, read_itoa m m0 m1] at h
  refine P4.mono ?_
  clear P4
  rintro e w' ⟨rfl, rfl⟩
  go_wp2_with fail
  refine (text_any n n0 n1 _ E3.out).mono ?_
  rintro e w4 ⟨rfl, hb4⟩
  have B4 := Lib.hid (B3.out.trans (hb4.mono B3.out.size))
  clear hb4
  go_wp2_with fail
  refine (num_any n n0 n1 _).mono ?_; rintro e w' ⟨rfl, rfl⟩
  go_wp2_with fail
  refine (awake_any _).mono ?_; rintro e w5 ⟨rfl, hb5⟩
  have B5 := Lib.hid (B4.out.trans (hb5.mono B4.out.size))
  clear hb5
  go_wp2
  go_ret
  exact ⟨rfl, B5.out⟩

set_option maxHeartbeats 4000000 in
theorem walk_long_no (n : Int) (n0 : -9223372036854775808 ≤ n) (n1 : n ≤ 9223372036854775807) (s : ByteArray) (h60 : 60 < s.size) (hmx : s.size ≤ 9223372036854775807) (hno : ∀ m : Int, -9223372036854775808 ≤ m → m ≤ 9223372036854775807 → Lib.itoa m ≠ (s.extract 0 60).data.toList) (w : World) (hE : Env w) :
    Calls Tryd.prog 3 #[.int .i64 n, .string s] w fun e w' => e = .returned (.bool true) ∧ Below w.heap.size w w' := by
  have HE := Lib.hid hE
  clear hE
  have HN := Lib.hid hno
  clear hno
  have ht : (s.extract 0 60).size ≤ 60 := by simp; omega
  go_enter Tryd.func3, Tryd.ntmps3
  go_wp2_with fail
  generalize s.extract 0 60 = t at *
  refine (text_any n n0 n1 _ HE.out).mono ?_
  rintro e w1 ⟨rfl, hb1⟩
  have B1 := Lib.hid hb1
  have E1 := Lib.hid (HE.out.below hb1)
  clear hb1
  go_wp2_with fail
  refine (parse_yes n n0 n1 _ E1.out).mono ?_
  rintro e w2 ⟨rfl, hb2⟩
  have B2 := Lib.hid (B1.out.trans (hb2.mono B1.out.size))
  have E2 := Lib.hid (E1.out.below hb2)
  clear hb2
  go_wp2_with fail
  have P3 : Calls Tryd.prog 4 #[.string t] w2 fun e w' => e = .returned (.tuple #[.int .i64 0, .bool false]) ∧ Below w2.heap.size w2 w' :=
    parse_no t ht HN.out w2 E2.out
  refine P3.mono ?_
  clear P3
  rintro e w3 ⟨rfl, hb3⟩
  have B3 := Lib.hid (B2.out.trans (hb3.mono B2.out.size))
  have E3 := Lib.hid (E2.out.below hb3)
  clear hb3
  go_wp2_with fail
  have P4 : Calls Tryd.prog 6 #[.string t] w3 fun e w' => e = .returned (.tuple #[.int .i64 (readL t.data.toList).1, .bool false]) ∧ w3 = w' := by
    have h := read_any t ht w3
    rwa [read_no _ HN.out] at h
  refine P4.mono ?_
  clear P4
  rintro e w' ⟨rfl, rfl⟩
  go_wp2_with fail
  refine (text_any n n0 n1 _ E3.out).mono ?_
  rintro e w4 ⟨rfl, hb4⟩
  have B4 := Lib.hid (B3.out.trans (hb4.mono B3.out.size))
  clear hb4
  go_wp2_with fail
  refine (num_any n n0 n1 _).mono ?_; rintro e w' ⟨rfl, rfl⟩
  go_wp2_with fail
  refine (awake_any _).mono ?_; rintro e w5 ⟨rfl, hb5⟩
  have B5 := Lib.hid (B4.out.trans (hb5.mono B4.out.size))
  clear hb5
  go_wp2
  go_ret
  exact ⟨rfl, B5.out⟩


theorem texts_walk (n : Int) (n0 : -9223372036854775808 ≤ n) (n1 : n ≤ 9223372036854775807) (s : ByteArray) (hmx : s.size ≤ 9223372036854775807) (w : World) (hE : Env w) :
    Calls Tryd.prog 3 #[.int .i64 n, .string s] w fun e w' => e = .returned (.bool true) ∧ Below w.heap.size w w' := by
  by_cases h60 : s.size ≤ 60
  · by_cases hy : ∃ m : Int, -9223372036854775808 ≤ m ∧ m ≤ 9223372036854775807 ∧ Lib.itoa m = s.data.toList
    · obtain ⟨m, m0, m1, hm⟩ := hy
      exact walk_short_yes n n0 n1 s h60 m m0 m1 hm w hE
    · exact walk_short_no n n0 n1 s h60 (fun m m0 m1 hm => hy ⟨m, m0, m1, hm⟩) w hE
  · by_cases hy : ∃ m : Int, -9223372036854775808 ≤ m ∧ m ≤ 9223372036854775807 ∧ Lib.itoa m = (s.extract 0 60).data.toList
    · obtain ⟨m, m0, m1, hm⟩ := hy
      exact walk_long_yes n n0 n1 s (by omega) hmx m m0 m1 hm w hE
    · exact walk_long_no n n0 n1 s (by omega) hmx (fun m m0 m1 hm => hy ⟨m, m0, m1, hm⟩) w hE
end Go.Proofs.YtmfljibmnplkiaaDoor.W
