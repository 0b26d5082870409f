/-
  Contracts of count.Up, count.Rest, count.Sum, their references, and the law's own 'awake'.
-/
import Derived.Test.YtmfljibmnplkiaaDoorCountMul
namespace Go.Proofs.YtmfljibmnplkiaaDoor.W
open Go.RowKit Num

set_option maxHeartbeats 400000 in
theorem up_any (n d : Int) (w : World) (h1 : -9223372036854775808 ≤ n) (h2 : n ≤ 9223372036854775807) (h3 : d ≤ 9223372036854775807) :
    Calls Tryd.prog 14 #[.int .i64 n, .int .i64 d] w fun e w' => e = .returned (.int .i64 (upN n d)) ∧ w = w' := by
  by_cases c1 : n < 1
  · have H := Lib.hid (upN_0 (n := n) (d := d) (.inl c1))
    go_enter Tryd.func14, Tryd.ntmps14
    go_wp2
    go_ret
    exact ⟨ret_int (by rw [H.out]), rfl⟩
  · by_cases c2 : d < 1
    · have H := Lib.hid (upN_0 (n := n) (d := d) (.inr c2))
      go_enter Tryd.func14, Tryd.ntmps14
      go_wp2
      go_ret
      exact ⟨ret_int (by rw [H.out]), rfl⟩
    · have H := Lib.hid (upN_1 c1 c2)
      have q1 : 0 ≤ (n - 1) / d := Int.ediv_nonneg (by omega) (by omega)
      have q2 : (n - 1) / d ≤ n - 1 := Int.ediv_le_self _ (by omega)
      go_enter Tryd.func14, Tryd.ntmps14
      go_wp2
      go_ret
      exact ⟨ret_int (by rw [H.out]), rfl⟩

set_option maxHeartbeats 400000 in
theorem rest_any (n d : Int) (w : World) (h1 : -9223372036854775808 ≤ n) (h2 : n ≤ 9223372036854775807) (h3 : d ≤ 9223372036854775807) :
    Calls Tryd.prog 15 #[.int .i64 n, .int .i64 d] w fun e w' => e = .returned (.int .i64 (restN n d)) ∧ w = w' := by
  by_cases c2 : d < 1
  · have H := Lib.hid (restN_0 (n := n) (d := d) c2)
    go_enter Tryd.func15, Tryd.ntmps15
    go_wp2
    go_ret
    exact ⟨ret_int (by rw [H.out]), rfl⟩
  · have R := restN_1 (n := n) c2
    by_cases c1 : n < 0
    · obtain ⟨⟨b1, b2⟩, t1, t2⟩ := tmod_neg (d := d) (by omega) c1
      by_cases c : n.tmod d < 0
      · have H := Lib.hid (show restN n d = n.tmod d + d by rw [R, t1 c])
        clear t1 t2 R
        go_enter Tryd.func15, Tryd.ntmps15
        go_wp2
        go_ret
        exact ⟨ret_int (by rw [H.out]), rfl⟩
      · have H := Lib.hid (show restN n d = n.tmod d by rw [R, t2 c])
        clear t1 t2 R
        go_enter Tryd.func15, Tryd.ntmps15
        go_wp2
        go_ret
        exact ⟨ret_int (by rw [H.out]), rfl⟩
    · have b1 := Int.emod_nonneg n (b := d) (by omega)
      have b2 := Int.emod_lt_of_pos n (b := d) (by omega)
      have H := Lib.hid R
      clear R
      go_enter Tryd.func15, Tryd.ntmps15
      go_wp2
      go_ret
      exact ⟨ret_int (by rw [H.out]), rfl⟩

/-- what is known of a slice of ints that is read: each place's cell -/
def Cells (w : World) (a0 : Option Addr) (len : Nat) (zs : List Int) : Prop :=
  ∀ i, i < len → ∃ b off, a0 = some ⟨b, off, none⟩ ∧ w.cell? ⟨b, off + i, none⟩ = some (.int .i64 (nth zs i))
def Fits (zs : List Int) : Prop := ∀ i, -9223372036854775808 ≤ nth zs i ∧ nth zs i ≤ 9223372036854775807

set_option maxHeartbeats 400000 in
theorem sum_any (a0 : Option Addr) (len cap : Nat) (zs : List Int) (w : World) (hl : len ≤ 4611686018427387904) (hc : Cells w a0 len zs) (hz : Fits zs) :
    Calls Tryd.prog 18 #[.slice a0 len cap] w fun e w' => e = .returned (.int .i64 (sumTo zs len)) ∧ w = w' := by
  have HC := Lib.hid hc
  have HZ := Lib.hid hz
  clear hc hz
  go_enter Tryd.func18, Tryd.ntmps18
  go_wp2
  go_loop [3, 7] (fun t i => ∃ k : Nat, k ≤ len ∧ i = .int .i64 k ∧ t = .int .i64 (sumTo zs k)) (fun _ i => len - (intOf i).toNat)
  case atStart => exact ⟨0, Nat.zero_le _, rfl, rfl⟩
  case round =>
    obtain ⟨k, hk, rfl, rfl⟩ := hrel
    by_cases hlt : k < len
    · obtain ⟨b, off, rfl, hcell⟩ := HC.out k hlt
      have b1 := sumTo_bd zs k
      have b2 := HZ.out k
      go_wp2_with fail
      refine (add_any _ _ _ b1.1 b1.2 b2.1 b2.2).mono ?_; rintro e w' ⟨rfl, rfl⟩
      go_wp2
      go_round
      case rel => exact ⟨k + 1, by omega, by go_num, rfl⟩
      case measure => simp [intOf]; omega
    · have : k = len := by omega
      subst this
      go_wp2
      go_ret
      exact ⟨rfl, rfl⟩

end Go.Proofs.YtmfljibmnplkiaaDoor.W
