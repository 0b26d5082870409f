/-
  The walk of the statement on which sets there are, and the three statements' walks as their cards want them. Condition: the library's table is as its text lays it.
-/
import Derived.Test.YtmeknghlhfpjnaaDoorBitLaws
namespace Go.Proofs.YtmeknghlhfpjnaaDoor.W
open Go.RowKit Bt Rw
set_option linter.unusedVariables false

theorem odd_clear {w : World} {B R : Nat} {v : Value} (h : St w B R v [] false) : Calls Tryd.prog 13 #[.pointer (some ⟨R, 0, none⟩)] w (Turned w B R v [] false (.tuple #[])) := clear_any h
theorem odd_put_any {w : World} {B R : Nat} {v : Value} (h : St w B R v [] false) (i : Int) : Calls Tryd.prog 16 #[.pointer (some ⟨R, 0, none⟩), .int .i64 i] w (Turned w B R v [] false (.bool false)) := by
  have := put_any h (by decide) i false (odd_put i)
  rwa [odd_set] at this
theorem odd_len {w : World} {B R : Nat} {v : Value} (h : St w B R v [] false) : Calls Tryd.prog 11 #[.pointer (some ⟨R, 0, none⟩)] w fun e w' => e = .returned (.int .i64 0) ∧ w = w' := len_any h
theorem odd_all {w : World} {B R : Nat} {v : Value} (h : St w B R v [] false) (he : Env w) : Calls Tryd.prog 19 #[.pointer (some ⟨R, 0, none⟩)] w (MadeV w []) := all_any h (by decide) he
theorem len_rep {w : World} {B R : Nat} {v : Value} {x : Nat} {m : Bool} (h : St w B R v (List.replicate x false) m) : Calls Tryd.prog 11 #[.pointer (some ⟨R, 0, none⟩)] w fun e w' => e = .returned (.int .i64 (x : Int)) ∧ w = w' := by
  have := len_any h
  rwa [List.length_replicate] at this
theorem count_rep {w : World} {B R : Nat} {v : Value} {x : Nat} {m : Bool} (h : St w B R v (List.replicate x false) m) (hx : x ≤ 4096) : Calls Tryd.prog 12 #[.pointer (some ⟨R, 0, none⟩)] w fun e w' => e = .returned (.int .i64 0) ∧ w = w' :=
  count_any h (by rw [List.length_replicate]; exact hx) 0 (cnt_rep x)

set_option maxRecDepth 100000 in
set_option maxHeartbeats 4000000 in
theorem makes_walk (n i : Int) (w : World) (he : Env w) :
    Calls Tryd.prog 5 #[.int .i64 n, .int .i64 i] w fun e w' => e = .returned (.bool true) ∧ Below w.heap.size w w' := by
  have HE := Lib.hid he
  clear he
  by_cases hn : n < 0 ∨ 4096 < n
  · have HN := Lib.hid hn
    have BA : Hid (Below w.heap.size w w) := Below.refl _ _
    by_cases h0 : n < 0
    · clear hn
      go_enter Tryd.func5, Tryd.ntmps5
      go_wp2_with fail
      refine (new_bad n _ HN.out).mono ?_; rintro e w' ⟨rfl, rfl⟩
      go_wp2_with fail
      refine (clear_nil _).mono ?_; rintro e w' ⟨rfl, rfl⟩
      have S0 := Lib.hid (odd_new w w.heap.size)
      have B0 : Hid (Below w.heap.size w (w.alloc (.cells #[.int .i64 0, .slice none 0 0, .bool false] 38))) := BA.out.alloc BA.out.size _
      go_wp2_with fail
      refine (odd_clear S0.out).mono ?_; rintro e w2 ⟨rfl, st2, g2⟩
      have B2 : Hid (Below w.heap.size w w2) := B0.out.grown g2 B0.out.size (by intro k hk; cases hk)
      have ST2 := Lib.hid st2
      clear st2 g2
      go_wp2_with fail
      refine (next_nil i _).mono ?_; rintro e w' ⟨rfl, rfl⟩
      go_wp2_with fail
      refine (free_any ST2.out (by decide) (HE.out.below B2.out) i 0 false (nx_none _ _)).mono ?_; rintro e w' ⟨rfl, rfl⟩
      go_wp2_with fail
      refine (put_nil i _).mono ?_; rintro e w' ⟨rfl, rfl⟩
      go_wp2_with fail
      refine (odd_put_any ST2.out i).mono ?_; rintro e w3 ⟨rfl, st3, g3⟩
      have B3 : Hid (Below w.heap.size w w3) := B2.out.grown g3 B2.out.size (by intro k hk; cases hk)
      have ST3 := Lib.hid st3
      clear st3 g3
      go_wp2_with fail
      refine (drop_nil i _).mono ?_; rintro e w' ⟨rfl, k4, rfl⟩
      have B4 : Hid (Below w.heap.size w (w3.drewN k4)) := below_drewN B3.out k4
      have ST4 := Lib.hid (ST3.out.dn k4)
      go_wp2_with fail
      refine (has_any ST4.out (by decide) i false (odd_has i)).mono ?_; rintro e w' ⟨rfl, k5, rfl⟩
      have B5 : Hid (Below w.heap.size w ((w3.drewN k4).drewN k5)) := below_drewN B4.out k5
      have ST5 := Lib.hid (ST4.out.dn k5)
      obtain ⟨w5, h5⟩ : ∃ w5, (w3.drewN k4).drewN k5 = w5 := ⟨_, rfl⟩
      rw [h5] at B5 ST5
      rw [h5]
      clear h5
      go_wp2_with fail
      refine (len_nil _).mono ?_; rintro e w' ⟨rfl, rfl⟩
      go_wp2_with fail
      refine (odd_len ST5.out).mono ?_; rintro e w' ⟨rfl, rfl⟩
      go_wp2_with fail
      refine (count_nil _).mono ?_; rintro e w' ⟨rfl, rfl⟩
      go_wp2_with fail
      refine (odd_all ST5.out (HE.out.below B5.out)).mono ?_; rintro e w6 ⟨v6, rfl, o6, b6⟩
      obtain ⟨A6, c6, rfl, _, _, _⟩ := o6.form (n := 0) rfl
      have B6 := Lib.hid (then_below B5.out b6)
      have ST6 := Lib.hid (ST5.out.below b6)
      clear o6 b6
      go_wp2_with fail
      refine (clone_nil _).mono ?_; rintro e w' ⟨rfl, rfl⟩
      go_wp2_with fail
      refine (clone_odd ST6.out).mono ?_; rintro e w' ⟨rfl, rfl⟩
      go_wp2_with fail
      refine (awake_any _ (HE.out.below B6.out)).mono ?_; rintro e w7 ⟨rfl, b7⟩
      have B7 := Lib.hid (then_below B6.out b7)
      clear b7
      go_wp2
      go_ret
      exact ⟨rfl, B7.out⟩
    · have h1 : 4096 < n := by omega
      clear hn
      go_enter Tryd.func5, Tryd.ntmps5
      go_wp2_with fail
      refine (new_bad n _ HN.out).mono ?_; rintro e w' ⟨rfl, rfl⟩
      go_wp2_with fail
      refine (clear_nil _).mono ?_; rintro e w' ⟨rfl, rfl⟩
      have S0 := Lib.hid (odd_new w w.heap.size)
      have B0 : Hid (Below w.heap.size w (w.alloc (.cells #[.int .i64 0, .slice none 0 0, .bool false] 38))) := BA.out.alloc BA.out.size _
      go_wp2_with fail
      refine (odd_clear S0.out).mono ?_; rintro e w2 ⟨rfl, st2, g2⟩
      have B2 : Hid (Below w.heap.size w w2) := B0.out.grown g2 B0.out.size (by intro k hk; cases hk)
      have ST2 := Lib.hid st2
      clear st2 g2
      go_wp2_with fail
      refine (next_nil i _).mono ?_; rintro e w' ⟨rfl, rfl⟩
      go_wp2_with fail
      refine (free_any ST2.out (by decide) (HE.out.below B2.out) i 0 false (nx_none _ _)).mono ?_; rintro e w' ⟨rfl, rfl⟩
      go_wp2_with fail
      refine (put_nil i _).mono ?_; rintro e w' ⟨rfl, rfl⟩
      go_wp2_with fail
      refine (odd_put_any ST2.out i).mono ?_; rintro e w3 ⟨rfl, st3, g3⟩
      have B3 : Hid (Below w.heap.size w w3) := B2.out.grown g3 B2.out.size (by intro k hk; cases hk)
      have ST3 := Lib.hid st3
      clear st3 g3
      go_wp2_with fail
      refine (drop_nil i _).mono ?_; rintro e w' ⟨rfl, k4, rfl⟩
      have B4 : Hid (Below w.heap.size w (w3.drewN k4)) := below_drewN B3.out k4
      have ST4 := Lib.hid (ST3.out.dn k4)
      go_wp2_with fail
      refine (has_any ST4.out (by decide) i false (odd_has i)).mono ?_; rintro e w' ⟨rfl, k5, rfl⟩
      have B5 : Hid (Below w.heap.size w ((w3.drewN k4).drewN k5)) := below_drewN B4.out k5
      have ST5 := Lib.hid (ST4.out.dn k5)
      obtain ⟨w5, h5⟩ : ∃ w5, (w3.drewN k4).drewN k5 = w5 := ⟨_, rfl⟩
      rw [h5] at B5 ST5
      rw [h5]
      clear h5
      go_wp2_with fail
      refine (len_nil _).mono ?_; rintro e w' ⟨rfl, rfl⟩
      go_wp2_with fail
      refine (odd_len ST5.out).mono ?_; rintro e w' ⟨rfl, rfl⟩
      go_wp2_with fail
      refine (count_nil _).mono ?_; rintro e w' ⟨rfl, rfl⟩
      go_wp2_with fail
      refine (odd_all ST5.out (HE.out.below B5.out)).mono ?_; rintro e w6 ⟨v6, rfl, o6, b6⟩
      obtain ⟨A6, c6, rfl, _, _, _⟩ := o6.form (n := 0) rfl
      have B6 := Lib.hid (then_below B5.out b6)
      have ST6 := Lib.hid (ST5.out.below b6)
      clear o6 b6
      go_wp2_with fail
      refine (clone_nil _).mono ?_; rintro e w' ⟨rfl, rfl⟩
      go_wp2_with fail
      refine (clone_odd ST6.out).mono ?_; rintro e w' ⟨rfl, rfl⟩
      go_wp2_with fail
      refine (awake_any _ (HE.out.below B6.out)).mono ?_; rintro e w7 ⟨rfl, b7⟩
      have B7 := Lib.hid (then_below B6.out b7)
      clear b7
      go_wp2
      go_ret
      exact ⟨rfl, B7.out⟩
  · obtain ⟨x, rfl⟩ := Int.eq_ofNat_of_zero_le (show 0 ≤ n by omega)
    have hx : x ≤ 4096 := by omega
    clear hn
    go_enter Tryd.func5, Tryd.ntmps5
    go_wp2_with fail
    refine (new_any x w w.heap.size hx (Nat.le_refl _)).mono ?_; rintro e w1 ⟨R, v, rfl, st1, hR, hv, b1⟩
    have ST1 := Lib.hid st1
    have BA := Lib.hid b1
    clear st1 hR hv b1
    go_wp2_with fail
    refine (len_rep ST1.out).mono ?_; rintro e w' ⟨rfl, rfl⟩
    go_wp2_with fail
    refine (count_rep ST1.out hx).mono ?_; rintro e w' ⟨rfl, rfl⟩
    go_wp2_with fail
    refine (clear_nil _).mono ?_; rintro e w' ⟨rfl, rfl⟩
    have S0 := Lib.hid (odd_new w1 w.heap.size)
    have B0 : Hid (Below w.heap.size w (w1.alloc (.cells #[.int .i64 0, .slice none 0 0, .bool false] 38))) := BA.out.alloc BA.out.size _
    go_wp2_with fail
    refine (odd_clear S0.out).mono ?_; rintro e w2 ⟨rfl, st2, g2⟩
    have B2 : Hid (Below w.heap.size w w2) := B0.out.grown g2 B0.out.size (by intro k hk; cases hk)
    have ST2 := Lib.hid st2
    clear st2 g2
    go_wp2_with fail
    refine (next_nil i _).mono ?_; rintro e w' ⟨rfl, rfl⟩
    go_wp2_with fail
    refine (free_any ST2.out (by decide) (HE.out.below B2.out) i 0 false (nx_none _ _)).mono ?_; rintro e w' ⟨rfl, rfl⟩
    go_wp2_with fail
    refine (put_nil i _).mono ?_; rintro e w' ⟨rfl, rfl⟩
    go_wp2_with fail
    refine (odd_put_any ST2.out i).mono ?_; rintro e w3 ⟨rfl, st3, g3⟩
    have B3 : Hid (Below w.heap.size w w3) := B2.out.grown g3 B2.out.size (by intro k hk; cases hk)
    have ST3 := Lib.hid st3
    clear st3 g3
    go_wp2_with fail
    refine (drop_nil i _).mono ?_; rintro e w' ⟨rfl, k4, rfl⟩
    have B4 : Hid (Below w.heap.size w (w3.drewN k4)) := below_drewN B3.out k4
    have ST4 := Lib.hid (ST3.out.dn k4)
    go_wp2_with fail
    refine (has_any ST4.out (by decide) i false (odd_has i)).mono ?_; rintro e w' ⟨rfl, k5, rfl⟩
    have B5 : Hid (Below w.heap.size w ((w3.drewN k4).drewN k5)) := below_drewN B4.out k5
    have ST5 := Lib.hid (ST4.out.dn k5)
    obtain ⟨w5, h5⟩ : ∃ w5, (w3.drewN k4).drewN k5 = w5 := ⟨_, rfl⟩
    rw [h5] at B5 ST5
    rw [h5]
    clear h5
    go_wp2_with fail
    refine (len_nil _).mono ?_; rintro e w' ⟨rfl, rfl⟩
    go_wp2_with fail
    refine (odd_len ST5.out).mono ?_; rintro e w' ⟨rfl, rfl⟩
    go_wp2_with fail
    refine (count_nil _).mono ?_; rintro e w' ⟨rfl, rfl⟩
    go_wp2_with fail
    refine (odd_all ST5.out (HE.out.below B5.out)).mono ?_; rintro e w6 ⟨v6, rfl, o6, b6⟩
    obtain ⟨A6, c6, rfl, _, _, _⟩ := o6.form (n := 0) rfl
    have B6 := Lib.hid (then_below B5.out b6)
    have ST6 := Lib.hid (ST5.out.below b6)
    clear o6 b6
    go_wp2_with fail
    refine (clone_nil _).mono ?_; rintro e w' ⟨rfl, rfl⟩
    go_wp2_with fail
    refine (clone_odd ST6.out).mono ?_; rintro e w' ⟨rfl, rfl⟩
    go_wp2_with fail
    refine (awake_any _ (HE.out.below B6.out)).mono ?_; rintro e w7 ⟨rfl, b7⟩
    have B7 := Lib.hid (then_below B6.out b7)
    clear b7
    go_wp2
    go_ret
    exact ⟨rfl, B7.out⟩

theorem plays_law (w : World) (a0 : Int) (w0 : (Lit.int .u8 a0).wf = true) (D : Option Addr) (n2 c2 : Nat) (L : Nat → ActV) (hc2 : n2 ≤ c2) (hm2 : c2 ≤ maxLen) (ha : Acts w D n2 L) (at_ : Int) (w2 : (Lit.int .i64 at_).wf = true) (he : Env w) :
    Calls Tryd.prog 3 #[.int .u8 a0, .slice D n2 c2, .int .i64 at_] w fun e w' => e = .returned (.bool true) ∧ Below w.heap.size w w' := by
  obtain ⟨x, rfl, hx⟩ := nat_u8 w0
  exact plays_walk x hx D n2 c2 L w ha at_ he
theorem clones_law (w : World) (a0 : Int) (w0 : (Lit.int .u8 a0).wf = true) (D1 : Option Addr) (n1 c1 : Nat) (L1 : Nat → ActV) (hc1 : n1 ≤ c1) (hm1 : c1 ≤ maxLen) (ha1 : Acts w D1 n1 L1) (D2 : Option Addr) (n2 c2 : Nat) (L2 : Nat → ActV) (hc2 : n2 ≤ c2) (hm2 : c2 ≤ maxLen) (ha2 : Acts w D2 n2 L2) (D3 : Option Addr) (n3 c3 : Nat) (L3 : Nat → ActV) (hc3 : n3 ≤ c3) (hm3 : c3 ≤ maxLen) (ha3 : Acts w D3 n3 L3) (he : Env w) :
    Calls Tryd.prog 4 #[.int .u8 a0, .slice D1 n1 c1, .slice D2 n2 c2, .slice D3 n3 c3] w fun e w' => e = .returned (.bool true) ∧ Below w.heap.size w w' := by
  obtain ⟨x, rfl, hx⟩ := nat_u8 w0
  exact clones_walk x hx D1 n1 c1 L1 D2 n2 c2 L2 D3 n3 c3 L3 w ha1 ha2 ha3 he
theorem makes_law (w : World) (n : Int) (w0 : (Lit.int .i64 n).wf = true) (i : Int) (w1 : (Lit.int .i64 i).wf = true) (he : Env w) :
    Calls Tryd.prog 5 #[.int .i64 n, .int .i64 i] w fun e w' => e = .returned (.bool true) ∧ Below w.heap.size w w' := makes_walk n i w he
end Go.Proofs.YtmeknghlhfpjnaaDoor.W
