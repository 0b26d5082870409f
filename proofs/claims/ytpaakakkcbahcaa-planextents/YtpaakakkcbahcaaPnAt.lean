/-
  The reference's At, and the law's place: in which sector a thing stands. No conditions but bounds of the numbers.
-/
import Derived.Test.YtpaakakkcbahcaaPnRow
import Derived.BigQuiet
import Derived.Laws.StructEq
namespace Go.Proofs.Ytpaakakkcbahcaa.W
open Go.RowKit Num
set_option linter.unusedVariables false

set_option maxHeartbeats 4000000 in
theorem at_any (g n c : Nat) (f : Nat → Th) (x : Th) (k : Nat) (r : Int) (w : World) (hn : n ≤ 100000) (ht : TRow w g n f) (hk : k ≤ n) (hne : ∀ j, j < k → f j ≠ x) (hr : (k < n ∧ f k = x ∧ r = k) ∨ (k = n ∧ r = -1)) :
    Calls Try.prog 34 #[.slice (some ⟨g, 0, none⟩) n c, (.agg #[.int .i64 x.k, .int .i64 x.a, .int .i64 x.b])] w fun e w' => e = .returned (.int .i64 r) ∧ Below w.heap.size w w' := by
  have HT := Lib.hid ht
  have HN := Lib.hid hne
  have HR := Lib.hid hr
  clear ht hne hr
  go_enter Try.func34, Try.ntmps34
  go_wp2
  have Z := Lib.hid (balloc w (.cells #[.int .i64 x.k, .int .i64 x.a, .int .i64 x.b] 54))
  have Y0 : Hid (∀ wr, Below (w.alloc (.cells #[.int .i64 x.k, .int .i64 x.a, .int .i64 x.b] 54)).heap.size (w.alloc (.cells #[.int .i64 x.k, .int .i64 x.a, .int .i64 x.b] 54)) wr → wr.cell? ⟨w.heap.size, 0, none⟩ = some (.int .i64 x.k) ∧ wr.cell? ⟨w.heap.size, 1, none⟩ = some (.int .i64 x.a) ∧ wr.cell? ⟨w.heap.size, 2, none⟩ = some (.int .i64 x.b)) := fun wr b => ⟨box_cell b rfl, box_cell b rfl, box_cell b rfl⟩
  have T0 := Lib.hid (HT.out.step Z.out)
  generalize w.alloc (.cells #[.int .i64 x.k, .int .i64 x.a, .int .i64 x.b] 54) = w0 at Z Y0 T0 ⊢
  clear HT
  go_loopw [5] (fun q wr => ∃ j : Nat, j ≤ k ∧ q = .int .i64 (j : Int) ∧ Hid (Below w0.heap.size w0 wr)) (fun q _ => k + 1 - (intOf q).toNat)
  case atStart => exact ⟨0, by omega, rfl, Below.refl _ _⟩
  case round =>
    obtain ⟨j, hj, rfl, BJ⟩ := hrel
    obtain ⟨y0, y1, y2⟩ := Y0.out _ BJ.out
    by_cases hlt : j < n
    · obtain ⟨t, hft⟩ : ∃ t, f j = t := ⟨_, rfl⟩
      obtain ⟨z0, z1, z2⟩ := (T0.out.step BJ.out).cells hlt
      rw [hft] at z0 z1 z2
      by_cases hjk : j < k
      · have hx := HN.out j hjk
        rw [hft] at hx
        have HX := Lib.hid hx
        clear hx hft
        by_cases e1 : t.k = x.k
        case neg =>
          go_wp2
          go_quiet (fail)
          go_wp2
          go_roundw
          case rel => exact ⟨j + 1, by omega, rfl, below_drewN BJ.out _⟩
          case measure => simp [intOf]; omega
        by_cases e2 : t.a = x.a
        case neg =>
          go_wp2
          go_quiet (fail)
          go_wp2
          go_roundw
          case rel => exact ⟨j + 1, by omega, rfl, below_drewN BJ.out _⟩
          case measure => simp [intOf]; omega
        have e3 : ¬ t.b = x.b := fun e3 => HX.out (Th.ext' e1 e2 e3)
        go_wp2
        go_quiet (fail)
        go_wp2
        go_roundw
        case rel => exact ⟨j + 1, by omega, rfl, below_drewN BJ.out _⟩
        case measure => simp [intOf]; omega
      · have : j = k := by omega
        subst this
        have hh : t = x ∧ r = (j : Int) := by
          rcases HR.out with ⟨_, h2, h3⟩ | ⟨h1, _⟩
          · exact ⟨hft.symm.trans h2, h3⟩
          · omega
        obtain ⟨rfl, h2⟩ := hh
        have HJ := Lib.hid h2
        clear h2 hft
        go_wp2
        go_quiet (fail)
        go_wp2
        go_ret
        exact ⟨ret_int HJ.out.symm, below_drewN (bthen Z.out BJ.out) _⟩
    · have HJ : Hid (r = -1) := by
        rcases HR.out with ⟨h1, _⟩ | ⟨h1, h2⟩
        · omega
        · exact h2
      go_wp2
      go_ret
      exact ⟨ret_int HJ.out.symm, bthen Z.out BJ.out⟩

/-- it stands where it is told to -/
theorem place_yes (g n c : Nat) (f : Nat → Th) (x : Th) (k : Nat) (w : World) (hn : n ≤ 100000) (ht : TRow w g n f) (hk : k < n) (hx : f k = x) (hne : ∀ j, j < k → f j ≠ x) :
    Calls Try.prog 21 #[.slice (some ⟨g, 0, none⟩) n c, (.agg #[.int .i64 x.k, .int .i64 x.a, .int .i64 x.b]), .int .i64 (k : Int), .bool true] w fun e w' => e = .returned (.bool true) ∧ Below w.heap.size w w' := by
  have HT := Lib.hid (fun o => at_any g n c f x k k (w.alloc o) hn (ht.step (balloc w o)) (Nat.le_of_lt hk) hne (.inl ⟨hk, hx, rfl⟩))
  clear ht hx hne
  go_enter Try.func21, Try.ntmps21
  go_wp2_with fail
  refine (HT.out _).mono ?_; rintro e w1 ⟨rfl, b1⟩
  have B1 := Lib.hid (bthen (balloc _ _) b1)
  clear b1
  go_wp2
  go_ret
  exact ⟨rfl, B1.out⟩
/-- it stands nowhere -/
theorem place_no (g n c : Nat) (f : Nat → Th) (x : Th) (w : World) (hn : n ≤ 100000) (ht : TRow w g n f) (hne : ∀ j, j < n → f j ≠ x) :
    Calls Try.prog 21 #[.slice (some ⟨g, 0, none⟩) n c, (.agg #[.int .i64 x.k, .int .i64 x.a, .int .i64 x.b]), .int .i64 0, .bool false] w fun e w' => e = .returned (.bool true) ∧ Below w.heap.size w w' := by
  have HT := Lib.hid (fun o => at_any g n c f x n (-1) (w.alloc o) hn (ht.step (balloc w o)) (Nat.le_refl _) hne (.inr ⟨rfl, rfl⟩))
  clear ht hne
  go_enter Try.func21, Try.ntmps21
  go_wp2_with fail
  refine (HT.out _).mono ?_; rintro e w1 ⟨rfl, b1⟩
  have B1 := Lib.hid (bthen (balloc _ _) b1)
  clear b1
  go_wp2
  go_ret
  exact ⟨rfl, B1.out⟩
end Go.Proofs.Ytpaakakkcbahcaa.W
