/-
  The walk of the statement on which devices there are. No conditions.
-/
import Derived.Test.YtdkniholeaiemaaDvAwake
namespace Go.Proofs.Ytdkniholeaiemaa.W
open Go.RowKit Oc Dm
set_option linter.unusedVariables false
attribute [local go_sem ↓] Go.wp_at_zero Go.wp_at_succ
theorem odd_power (w : World) : (w.alloc (.cells #[.bool false, .bool false, .int .i64 0, .int .i64 0] 67)).cell? ⟨w.heap.size, 1, none⟩ = some (.bool false) := by
  rw [cell_of_row _ _ _ _ _ (0, 0) (heap_alloc_new w _)]; rfl
theorem odd_dev (w : World) : (w.alloc (.cells #[.pointer none, .slice none 0 0, .map none, .map none, .int .u64 0, .int .u64 0] 72)).cell? ⟨w.heap.size, 0, none⟩ = some (.pointer none) := by
  rw [cell_of_row _ _ _ _ _ (0, 0) (heap_alloc_new w _)]; rfl
def ex7 : List UInt8 := List.replicate 64 7
theorem fill7 (w : World) : Calls Try.prog 22 #[.int .u8 7, .int .i64 0] w (Filled w 7 64) := fill_any w 7 0
theorem own_seven {w : World} {B b : Nat} (h : Rw.OwnV w 5 B (.slice (some ⟨b, 0, none⟩) 64 64) (List.replicate 64 (ov 7))) : Oct w (some ⟨b, 0, none⟩) 64 ex7 := oct_own (xs := ex7) (rep_map 7 ▸ h) rfl
set_option maxRecDepth 100000 in
set_option maxHeartbeats 8000000 in
theorem makes_neg (w : World) (n at_ : Int) (h0 : n < 0) : Calls Try.prog 6 #[.int .i64 n, .int .i64 at_] w fun e w' => e = .returned (.bool true) ∧ Below w.heap.size w w' := by
  have hn : n < 0 ∨ 4096 < n := .inl h0
  go_enter Try.func6, Try.ntmps6
  go_wp2_with fail
  refine (newpower_any w).mono ?_; rintro e w1 ⟨rfl, p1, b1, z1⟩
  have P1 := Lib.hid p1
  have B1 := Lib.hid b1
  have Z1 := Lib.hid z1
  clear p1 b1 z1
  go_wp2_with fail
  refine (new_arg w1 n _ hn).mono ?_; rintro e w' ⟨rfl, rfl⟩
  go_wp2_with fail
  refine (new_nil w1).mono ?_; rintro e w' ⟨rfl, rfl⟩
  go_wp2_with fail
  have o1 := odd_power w1
  have b3 := balloc w1 (.cells #[.bool false, .bool false, .int .i64 0, .int .i64 0] 67)
  have P3 := Lib.hid (P1.out.heap (b3.block _ P1.out.lt))
  have B3 := Lib.hid (bthen B1.out b3)
  generalize w1.alloc (.cells #[.bool false, .bool false, .int .i64 0, .int .i64 0] 67) = w3 at o1 P3 B3 ⊢
  clear b3
  refine (new_odd w3 _ o1).mono ?_; rintro e w' ⟨rfl, rfl⟩
  clear o1
  go_wp2_with fail
  have o2 := odd_dev w3
  have b4 := balloc w3 (.cells #[.pointer none, .slice none 0 0, .map none, .map none, .int .u64 0, .int .u64 0] 72)
  have P4 := Lib.hid (P3.out.heap (b4.block _ P3.out.lt))
  have B4 := Lib.hid (bthen B3.out b4)
  generalize w3.alloc (.cells #[.pointer none, .slice none 0 0, .map none, .map none, .int .u64 0, .int .u64 0] 72) = w4 at o2 P4 B4 ⊢
  generalize w3.heap.size = O at o2 ⊢
  clear b4
  refine (fail_nil w4 _ _).mono ?_; rintro e w' ⟨rfl, rfl⟩
  go_wp2_with fail
  refine (fail_odd w4 O o2 _ _).mono ?_; rintro e w' ⟨rfl, rfl⟩
  go_wp2_with fail
  refine (cut_nil w4).mono ?_; rintro e w' ⟨rfl, rfl⟩
  go_wp2_with fail
  refine (read_nil w4 _).mono ?_; rintro e w' ⟨rfl, rfl⟩
  go_wp2_with fail
  refine (crash_odd w4 O o2 _ _).mono ?_; rintro e w' ⟨rfl, rfl⟩
  go_wp2_with fail
  refine (peek_nil w4 at_).mono ?_; rintro e w' ⟨rfl, rfl⟩
  go_wp2_with fail
  refine (write_nil w4 _ _).mono ?_; rintro e w' ⟨rfl, rfl⟩
  go_wp2_with fail
  refine (flush_odd w4 O o2).mono ?_; rintro e w' ⟨rfl, rfl⟩
  go_wp2_with fail
  refine (rot_nil w4 _ _ _).mono ?_; rintro e w' ⟨rfl, rfl⟩
  go_wp2_with fail
  refine (rotten_odd w4 O o2 _).mono ?_; rintro e w' ⟨rfl, rfl⟩
  go_wp2_with fail
  refine (size_nil w4).mono ?_; rintro e w' ⟨rfl, rfl⟩
  go_wp2_with fail
  refine (size_odd w4 O o2).mono ?_; rintro e w' ⟨rfl, rfl⟩
  go_wp2_with fail
  refine (loose_odd w4 O o2).mono ?_; rintro e w' ⟨rfl, rfl⟩
  go_wp2_with fail
  refine (done_nil w4).mono ?_; rintro e w' ⟨rfl, rfl⟩
  go_wp2_with fail
  refine (down_nil w4).mono ?_; rintro e w' ⟨rfl, rfl⟩
  go_wp2_with fail
  refine (fuse_nil w4 1).mono ?_; rintro e w' ⟨rfl, rfl⟩
  go_wp2_with fail
  refine (awake_any w4).mono ?_; rintro e w5 ⟨rfl, b5⟩
  go_wp2
  go_ret
  exact ⟨rfl, bthen B4.out b5⟩
set_option maxRecDepth 100000 in
set_option maxHeartbeats 8000000 in
theorem makes_big (w : World) (n at_ : Int) (h0 : 4096 < n) : Calls Try.prog 6 #[.int .i64 n, .int .i64 at_] w fun e w' => e = .returned (.bool true) ∧ Below w.heap.size w w' := by
  have hn : n < 0 ∨ 4096 < n := .inr h0
  have h1 : ¬ n < 0 := by omega
  have h2 : ¬ n < 1 := by omega
  have h3 : ¬ n ≤ 4096 := by omega
  have h4 : 0 ≤ n := by omega
  have hd : decide (n ≤ 4096) = false := by simp; omega
  go_enter Try.func6, Try.ntmps6
  go_wp2_with fail
  refine (newpower_any w).mono ?_; rintro e w1 ⟨rfl, p1, b1, z1⟩
  have P1 := Lib.hid p1
  have B1 := Lib.hid b1
  have Z1 := Lib.hid z1
  clear p1 b1 z1
  go_wp2_with fail
  refine (new_arg w1 n _ hn).mono ?_; rintro e w' ⟨rfl, rfl⟩
  go_wp2_with fail
  refine (new_nil w1).mono ?_; rintro e w' ⟨rfl, rfl⟩
  go_wp2_with fail
  have o1 := odd_power w1
  have b3 := balloc w1 (.cells #[.bool false, .bool false, .int .i64 0, .int .i64 0] 67)
  have P3 := Lib.hid (P1.out.heap (b3.block _ P1.out.lt))
  have B3 := Lib.hid (bthen B1.out b3)
  generalize w1.alloc (.cells #[.bool false, .bool false, .int .i64 0, .int .i64 0] 67) = w3 at o1 P3 B3 ⊢
  clear b3
  refine (new_odd w3 _ o1).mono ?_; rintro e w' ⟨rfl, rfl⟩
  clear o1
  go_wp2_with fail
  have o2 := odd_dev w3
  have b4 := balloc w3 (.cells #[.pointer none, .slice none 0 0, .map none, .map none, .int .u64 0, .int .u64 0] 72)
  have P4 := Lib.hid (P3.out.heap (b4.block _ P3.out.lt))
  have B4 := Lib.hid (bthen B3.out b4)
  generalize w3.alloc (.cells #[.pointer none, .slice none 0 0, .map none, .map none, .int .u64 0, .int .u64 0] 72) = w4 at o2 P4 B4 ⊢
  generalize w3.heap.size = O at o2 ⊢
  clear b4
  refine (fail_nil w4 _ _).mono ?_; rintro e w' ⟨rfl, rfl⟩
  go_wp2_with fail
  refine (fail_odd w4 O o2 _ _).mono ?_; rintro e w' ⟨rfl, rfl⟩
  go_wp2_with fail
  refine (cut_nil w4).mono ?_; rintro e w' ⟨rfl, rfl⟩
  go_wp2_with fail
  refine (read_nil w4 _).mono ?_; rintro e w' ⟨rfl, rfl⟩
  go_wp2_with fail
  refine (crash_odd w4 O o2 _ _).mono ?_; rintro e w' ⟨rfl, rfl⟩
  go_wp2_with fail
  refine (peek_nil w4 at_).mono ?_; rintro e w' ⟨rfl, rfl⟩
  go_wp2_with fail
  refine (write_nil w4 _ _).mono ?_; rintro e w' ⟨rfl, rfl⟩
  go_wp2_with fail
  refine (flush_odd w4 O o2).mono ?_; rintro e w' ⟨rfl, rfl⟩
  go_wp2_with fail
  refine (rot_nil w4 _ _ _).mono ?_; rintro e w' ⟨rfl, rfl⟩
  go_wp2_with fail
  refine (rotten_odd w4 O o2 _).mono ?_; rintro e w' ⟨rfl, rfl⟩
  go_wp2_with fail
  refine (size_nil w4).mono ?_; rintro e w' ⟨rfl, rfl⟩
  go_wp2_with fail
  refine (size_odd w4 O o2).mono ?_; rintro e w' ⟨rfl, rfl⟩
  go_wp2_with fail
  refine (loose_odd w4 O o2).mono ?_; rintro e w' ⟨rfl, rfl⟩
  go_wp2_with fail
  refine (done_nil w4).mono ?_; rintro e w' ⟨rfl, rfl⟩
  go_wp2_with fail
  refine (down_nil w4).mono ?_; rintro e w' ⟨rfl, rfl⟩
  go_wp2_with fail
  refine (fuse_nil w4 1).mono ?_; rintro e w' ⟨rfl, rfl⟩
  go_wp2_with fail
  refine (awake_any w4).mono ?_; rintro e w5 ⟨rfl, b5⟩
  go_wp2
  go_ret
  exact ⟨rfl, bthen B4.out b5⟩
set_option maxRecDepth 100000 in
set_option maxHeartbeats 8000000 in
theorem makes_zero (w : World) (at_ : Int) : Calls Try.prog 6 #[.int .i64 ((0 : Nat) : Int), .int .i64 at_] w fun e w' => e = .returned (.bool true) ∧ Below w.heap.size w w' := by
  obtain ⟨n, hn0⟩ : ∃ n : Nat, n = 0 := ⟨_, rfl⟩
  rw [← hn0]
  have hn : n ≤ 4096 := by omega
  have h1 : (n : Int) < 1 := by omega
  clear hn0
  go_enter Try.func6, Try.ntmps6
  go_wp2_with fail
  refine (newpower_any w).mono ?_; rintro e w1 ⟨rfl, p1, b1, z1⟩
  have P1 := Lib.hid p1
  have B1 := Lib.hid b1
  have Z1 := Lib.hid z1
  clear p1 b1 z1
  go_wp2_with fail
  refine (new_yes (n := n) P1.out hn).mono ?_; rintro e w2 ⟨D, fx, m, r, rfl, hD, h2, b2⟩
  have H2 := Lib.hid h2
  have P2 := Lib.hid (P1.out.heap (b2.block _ P1.out.lt))
  have B2 := Lib.hid (bthen B1.out b2)
  have HP2 := Lib.hid (show ¬ Fresh w1 w2 w.heap.size from fun x => by have := x.1; have := Z1.out; omega)
  have FG2 := Lib.hid (show ∀ k, Fresh w1 w2 k → w.heap.size ≤ k from fun k x => by have := x.1; have := Z1.out; omega)
  generalize Fresh w1 w2 = F2 at H2 HP2 FG2
  clear h2 b2 hD
  go_wp2_with fail
  refine (new_nil w2).mono ?_; rintro e w' ⟨rfl, rfl⟩
  go_wp2_with fail
  have o1 := odd_power w2
  have b3 := balloc w2 (.cells #[.bool false, .bool false, .int .i64 0, .int .i64 0] 67)
  have H3 := Lib.hid (H2.out.below b3)
  have P3 := Lib.hid (P2.out.heap (b3.block _ P2.out.lt))
  have B3 := Lib.hid (bthen B2.out b3)
  generalize w2.alloc (.cells #[.bool false, .bool false, .int .i64 0, .int .i64 0] 67) = w3 at o1 H3 P3 B3 ⊢
  clear b3
  refine (new_odd w3 _ o1).mono ?_; rintro e w' ⟨rfl, rfl⟩
  clear o1
  go_wp2_with fail
  have o2 := odd_dev w3
  have b4 := balloc w3 (.cells #[.pointer none, .slice none 0 0, .map none, .map none, .int .u64 0, .int .u64 0] 72)
  have H4 := Lib.hid (H3.out.below b4)
  have P4 := Lib.hid (P3.out.heap (b4.block _ P3.out.lt))
  have B4 := Lib.hid (bthen B3.out b4)
  generalize w3.alloc (.cells #[.pointer none, .slice none 0 0, .map none, .map none, .int .u64 0, .int .u64 0] 72) = w4 at o2 H4 P4 B4 ⊢
  generalize w3.heap.size = O at o2 ⊢
  clear b4
  refine (fail_nil w4 _ _).mono ?_; rintro e w' ⟨rfl, rfl⟩
  go_wp2_with fail
  refine (fail_odd w4 O o2 _ _).mono ?_; rintro e w' ⟨rfl, rfl⟩
  go_wp2_with fail
  refine (cut_nil w4).mono ?_; rintro e w' ⟨rfl, rfl⟩
  go_wp2_with fail
  refine (read_nil w4 _).mono ?_; rintro e w' ⟨rfl, rfl⟩
  go_wp2_with fail
  refine (crash_odd w4 O o2 _ _).mono ?_; rintro e w' ⟨rfl, rfl⟩
  go_wp2_with fail
  refine (peek_nil w4 at_).mono ?_; rintro e w' ⟨rfl, rfl⟩
  go_wp2_with fail
  refine (write_nil w4 _ _).mono ?_; rintro e w' ⟨rfl, rfl⟩
  go_wp2_with fail
  refine (flush_odd w4 O o2).mono ?_; rintro e w' ⟨rfl, rfl⟩
  go_wp2_with fail
  refine (rot_nil w4 _ _ _).mono ?_; rintro e w' ⟨rfl, rfl⟩
  go_wp2_with fail
  refine (rotten_odd w4 O o2 _).mono ?_; rintro e w' ⟨rfl, rfl⟩
  go_wp2_with fail
  refine (size_nil w4).mono ?_; rintro e w' ⟨rfl, rfl⟩
  go_wp2_with fail
  refine (size_odd w4 O o2).mono ?_; rintro e w' ⟨rfl, rfl⟩
  go_wp2_with fail
  refine (loose_odd w4 O o2).mono ?_; rintro e w' ⟨rfl, rfl⟩
  go_wp2_with fail
  refine (done_nil w4).mono ?_; rintro e w' ⟨rfl, rfl⟩
  go_wp2_with fail
  refine (down_nil w4).mono ?_; rintro e w' ⟨rfl, rfl⟩
  go_wp2_with fail
  refine (fuse_nil w4 1).mono ?_; rintro e w' ⟨rfl, rfl⟩
  go_wp2_with fail
  refine (awake_any w4).mono ?_; rintro e w5 ⟨rfl, b5⟩
  go_wp2
  go_ret
  exact ⟨rfl, bthen B4.out b5⟩
set_option maxRecDepth 100000 in
set_option maxHeartbeats 8000000 in
theorem makes_ok (w : World) (n : Nat) (at_ : Int) (hn : n ≤ 4096) (hn1 : 1 ≤ n) : Calls Try.prog 6 #[.int .i64 (n : Int), .int .i64 at_] w fun e w' => e = .returned (.bool true) ∧ Below w.heap.size w w' := by
  have h1 : ¬ (n : Int) < 1 := by omega
  go_enter Try.func6, Try.ntmps6
  go_wp2_with fail
  refine (newpower_any w).mono ?_; rintro e w1 ⟨rfl, p1, b1, z1⟩
  have P1 := Lib.hid p1
  have B1 := Lib.hid b1
  have Z1 := Lib.hid z1
  clear p1 b1 z1
  go_wp2_with fail
  refine (new_yes (n := n) P1.out hn).mono ?_; rintro e w2 ⟨D, fx, m, r, rfl, hD, h2, b2⟩
  have H2 := Lib.hid h2
  have P2 := Lib.hid (P1.out.heap (b2.block _ P1.out.lt))
  have B2 := Lib.hid (bthen B1.out b2)
  have HP2 := Lib.hid (show ¬ Fresh w1 w2 w.heap.size from fun x => by have := x.1; have := Z1.out; omega)
  have FG2 := Lib.hid (show ∀ k, Fresh w1 w2 k → w.heap.size ≤ k from fun k x => by have := x.1; have := Z1.out; omega)
  generalize Fresh w1 w2 = F2 at H2 HP2 FG2
  clear h2 b2 hD
  go_wp2_with fail
  refine (new_nil w2).mono ?_; rintro e w' ⟨rfl, rfl⟩
  go_wp2_with fail
  have o1 := odd_power w2
  have b3 := balloc w2 (.cells #[.bool false, .bool false, .int .i64 0, .int .i64 0] 67)
  have H3 := Lib.hid (H2.out.below b3)
  have P3 := Lib.hid (P2.out.heap (b3.block _ P2.out.lt))
  have B3 := Lib.hid (bthen B2.out b3)
  generalize w2.alloc (.cells #[.bool false, .bool false, .int .i64 0, .int .i64 0] 67) = w3 at o1 H3 P3 B3 ⊢
  clear b3
  refine (new_odd w3 _ o1).mono ?_; rintro e w' ⟨rfl, rfl⟩
  clear o1
  go_wp2_with fail
  have o2 := odd_dev w3
  have b4 := balloc w3 (.cells #[.pointer none, .slice none 0 0, .map none, .map none, .int .u64 0, .int .u64 0] 72)
  have H4 := Lib.hid (H3.out.below b4)
  have P4 := Lib.hid (P3.out.heap (b4.block _ P3.out.lt))
  have B4 := Lib.hid (bthen B3.out b4)
  generalize w3.alloc (.cells #[.pointer none, .slice none 0 0, .map none, .map none, .int .u64 0, .int .u64 0] 72) = w4 at o2 H4 P4 B4 ⊢
  generalize w3.heap.size = O at o2 ⊢
  clear b4
  refine (fail_nil w4 _ _).mono ?_; rintro e w' ⟨rfl, rfl⟩
  go_wp2_with fail
  refine (fail_odd w4 O o2 _ _).mono ?_; rintro e w' ⟨rfl, rfl⟩
  go_wp2_with fail
  refine (cut_nil w4).mono ?_; rintro e w' ⟨rfl, rfl⟩
  go_wp2_with fail
  refine (read_nil w4 _).mono ?_; rintro e w' ⟨rfl, rfl⟩
  go_wp2_with fail
  refine (crash_odd w4 O o2 _ _).mono ?_; rintro e w' ⟨rfl, rfl⟩
  go_wp2_with fail
  refine (peek_nil w4 at_).mono ?_; rintro e w' ⟨rfl, rfl⟩
  go_wp2_with fail
  refine (write_nil w4 _ _).mono ?_; rintro e w' ⟨rfl, rfl⟩
  go_wp2_with fail
  refine (flush_odd w4 O o2).mono ?_; rintro e w' ⟨rfl, rfl⟩
  go_wp2_with fail
  refine (rot_nil w4 _ _ _).mono ?_; rintro e w' ⟨rfl, rfl⟩
  go_wp2_with fail
  refine (rotten_odd w4 O o2 _).mono ?_; rintro e w' ⟨rfl, rfl⟩
  go_wp2_with fail
  refine (size_nil w4).mono ?_; rintro e w' ⟨rfl, rfl⟩
  go_wp2_with fail
  refine (size_odd w4 O o2).mono ?_; rintro e w' ⟨rfl, rfl⟩
  go_wp2_with fail
  refine (loose_odd w4 O o2).mono ?_; rintro e w' ⟨rfl, rfl⟩
  go_wp2_with fail
  refine (done_nil w4).mono ?_; rintro e w' ⟨rfl, rfl⟩
  go_wp2_with fail
  refine (down_nil w4).mono ?_; rintro e w' ⟨rfl, rfl⟩
  go_wp2_with fail
  refine (fuse_nil w4 1).mono ?_; rintro e w' ⟨rfl, rfl⟩
  go_wp2_with fail
  refine (fill7 w4).mono ?_; rintro e w5 ⟨b, rfl, hb, o5, b5⟩
  have X5 := Lib.hid (own_seven o5)
  have O5 := Lib.hid o5
  have H5 := Lib.hid (H4.out.below b5)
  have P5 := Lib.hid (P4.out.heap (b5.block _ P4.out.lt))
  have B5 := Lib.hid (bthen B4.out b5)
  have HBP := Lib.hid (show b ≠ w.heap.size by have := P4.out.lt; omega)
  have HBF := Lib.hid (show ¬ F2 b from fun x => by have := H4.out.bound _ x; omega)
  have HBW := Lib.hid (show w.heap.size ≤ b by have := B4.out.size; omega)
  clear o5 b5 hb
  go_wp2_with fail
  refine (write_ok (i := 0) (b := b) (off := 0) H5.out (by decide) HP2.out P5.out (by decide) rfl (by omega) rfl rfl rfl X5.out HBP.out HBF.out).mono ?_; rintro e w6 ⟨rfl, p6, d6, c6⟩
  obtain ⟨fx6, m6, r6, g6, d6⟩ := d6
  have P6 := Lib.hid p6
  have H6 := Lib.hid d6
  have HE6 := Lib.hid (show ¬ Ext F2 w5 w6 b from fun x => by
    rcases x with x | x
    · exact HBF.out x
    · have h1 := x.1
      have h2 := (O5.out.ge b rfl).2
      omega)
  have O6 := Lib.hid (O5.out.keep (w' := w6) (fun g hg => by
    have : b = g := by simpa [Value.ownBlock] using hg
    subst this
    exact c6.block _ (O5.out.ge b rfl).2 (fun x => x.elim HBF.out HBP.out)))
  have B6 := Lib.hid (chg_below B5.out c6 (fun k x => by
    rcases x with x | x
    · exact FG2.out k x
    · omega))
  generalize Ext F2 w5 w6 = F6 at H6 HE6
  obtain ⟨cb, fb⟩ := O6.out.cell (j := 0) (u := ov 7) (by simp) rfl
  obtain ⟨o7, g7⟩ := O6.out.set (j := 0) (by simp) (.int .u8 1)
  have H7 := Lib.hid (H6.out.kept (G := fun k => k = b) (Chg.of_grown g7 (fun k e _ => by injection e with e; exact e.symm)) (fun k x e => HE6.out (e ▸ x)))
  have P7 := Lib.hid (P6.out.heap (g7.block _ P6.out.lt (fun e => HBP.out (by injection e with e; exact e.symm))))
  have B7 := Lib.hid (B6.out.grown g7 B6.out.size (fun k e => by injection e with e; subst e; exact HBW.out))
  clear p6 d6 c6 o7 g7
  go_wp2_with fail
  generalize w6.setCell ⟨b, 0, none⟩ (.int .u8 1) = w7 at H7 P7 B7 ⊢
  clear cb fb
  refine (read_yes H7.out P7.out rfl 0 (by omega) rfl).mono ?_; rintro e w8 ⟨w8', ⟨rb, rfl, hrb, r8, b8⟩, d8, g8, z8⟩
  have H8 := Lib.hid (d8.below b8)
  have P8 := Lib.hid ((P7.out.heap (g8.block _ P7.out.lt (fun e => pw_ne H7.out P7.out (by injection e with e; exact e.symm)))).heap (b8.block _ (by have := P7.out.lt; omega)))
  have hDw : w.heap.size ≤ D := by
    rcases Nat.lt_or_ge D w.heap.size with h | h
    · exfalso
      have h1 := B7.out.block D h
      rw [H7.out.head] at h1
      have h2 := B2.out.block D h
      rw [H2.out.head] at h2
      have h3 := lt_of_heap h1.symm
      have h4 := FG2.out D H2.out.inF.1
      omega
    · exact h
  have B8 := Lib.hid (show Below w.heap.size w w8 from (B7.out.grown g8 B7.out.size (fun k e => by injection e with e; omega)).trans (b8.mono (by have := B7.out.size; omega)))
  have hrb2 : w7.heap.size ≤ rb := by omega
  have HRB := Lib.hid hrb2
  have R8 := Lib.hid r8
  have X8 := Lib.hid (show Oct w8 (some ⟨rb, 0, none⟩) 64 ex7 from r8.oct (i := 0) (by decide))
  clear d8 g8 z8 b8 hrb r8 hrb2 hDw
  have cv8 := X8.out.conv bt Try.underlying9 64
  have cv8d : (convert 52 9 (.slice (some ⟨rb, 0, none⟩) 64 64)).run Try.prog w8.drew = .ok (.string (bstr ex7)) w8.drew := X8.out.drew.conv bt Try.underlying9 64
  go_wp2_with fail
  go_region_held (fun _ => True) (exact trivial) (first | (go_at_call 22; (with_reducible refine (fill7 _).mono ?_); rintro e w9 ⟨b9, rfl, hb9, o9, bb9⟩; have cv9 := (own_seven o9).conv bt Try.underlying9 64; have BB9 := Lib.hid (below_of_drew bb9); have cv10 := (X8.out.below BB9.out).conv bt Try.underlying9 64; clear hb9 o9 bb9))
  all_goals
    have R9 := Lib.hid (R8.out.heap (BB9.out.block _ R8.out.lt))
    have hh9 := srow_one R9.out
    have cy : w9.cell? ⟨rb, 1, none⟩ = some (.int .u8 7) := by rw [cell_of_row w9 rb 1 _ _ (0, 0) hh9]; rfl
    have fy : w9.frozen? ⟨rb, 1, none⟩ = false := frozen_of_row w9 rb 1 _ _ hh9
    have H9 := Lib.hid (H8.out.below BB9.out)
    have B9 := Lib.hid (bthen B8.out BB9.out)
    have HRF := Lib.hid (show ¬ F6 rb from fun x => by have h1 := H7.out.bound _ x; have h2 := HRB.out; omega)
    have G10 := Lib.hid (grown_cell w9 rb 1 (.int .u8 2))
    have H10 := Lib.hid (H9.out.kept (G := fun k => k = rb) (Chg.of_grown G10.out (fun k e _ => by injection e with e; exact e.symm)) (fun k x e => HRF.out (e ▸ x)))
    have B10 := Lib.hid (B9.out.grown G10.out B9.out.size (fun k e => by injection e with e; subst e; have h1 := HRB.out; have h2 := B7.out.size; omega))
    clear hh9
    go_wp2_with fail
    generalize w9.setCell ⟨rb, 1, none⟩ (.int .u8 2) = w10 at H10 B10 ⊢
    clear cy fy cv8 cv8d cv9 cv10
    refine (peek_yes H10.out 0 (by omega)).mono ?_; rintro e w11 ⟨pb, rfl, hpb, r11, b11⟩
    have X11 := Lib.hid (show Oct w11 (some ⟨pb, 0, none⟩) 64 ex7 from r11.oct (i := 0) (by decide))
    have B11 := Lib.hid (bthen B10.out b11)
    clear hpb r11 b11
    have cv11d : (convert 52 9 (.slice (some ⟨pb, 0, none⟩) 64 64)).run Try.prog w11.drew = .ok (.string (bstr ex7)) w11.drew := X11.out.drew.conv bt Try.underlying9 64
    go_wp2_with fail
    go_region_held (fun _ => True) (exact trivial) (first | (go_at_call 22; (with_reducible refine (fill7 _).mono ?_); rintro e w12 ⟨b12, rfl, hb12, o12, bb12⟩; have cv12 := (own_seven o12).conv bt Try.underlying9 64; have BB12 := Lib.hid (below_of_drew bb12); have cv13 := (X11.out.below BB12.out).conv bt Try.underlying9 64; clear hb12 o12 bb12) | (go_at_call 10; (with_reducible refine (awake_any _).mono ?_); rintro e w13 ⟨rfl, b13⟩; have BB13 := Lib.hid b13; clear b13))
    all_goals go_wp2
    all_goals (go_ret; exact ⟨rfl, bthen (bthen B11.out BB12.out) BB13.out⟩)
theorem makes_any (w : World) (n at_ : Int) : Calls Try.prog 6 #[.int .i64 n, .int .i64 at_] w fun e w' => e = .returned (.bool true) ∧ Below w.heap.size w w' := by
  by_cases h0 : n < 0
  · exact makes_neg w n at_ h0
  · by_cases h1 : 4096 < n
    · exact makes_big w n at_ h1
    · obtain ⟨k, rfl⟩ : ∃ k : Nat, n = (k : Int) := ⟨n.toNat, by omega⟩
      by_cases h2 : k = 0
      · subst h2; exact makes_zero w at_
      · exact makes_ok w k at_ (by omega) (by omega)
end Go.Proofs.Ytdkniholeaiemaa.W
