/-
  What a store that nobody made is asked: Total, Least, Fill, Free, Read, Fault, Heal. No conditions.
-/
import Derived.Test.YtapklelkcicjlaaGreatDoorKSa
namespace Go.Proofs.YtapklelkcicjlaaGreatDoor.Pd.Sl
set_option maxRecDepth 100000
open Go.RowKit Oc Dm W Dw Sr Gt W.Hd
set_option linter.unusedVariables false
set_option maxRecDepth 100000
attribute [local go_sem ↓] Go.wp_at_zero Go.wp_at_succ
theorem total_odd {w : World} {x : Value} (h : Odd w x) : Calls Tryz.prog 37 #[x] w fun e w' => e = .returned (.int .u64 0) ∧ w = w' := by
  have H := Lib.hid h
  clear h
  go_enter Tryz.func37, Tryz.ntmps37
  go_wp2_with fail
  refine (len_not H.out).mono ?_; rintro e w' ⟨rfl, rfl⟩
  go_wp2
  go_loopw [3, 7] (fun q3 q7 wr => q3 = .int .u64 0 ∧ q7 = .int .i64 0 ∧ wr = w) (fun _ _ _ => 0)
  case atStart => exact ⟨rfl, rfl, rfl⟩
  case round =>
    obtain ⟨rfl, rfl, hw⟩ := hrel
    subst hw
    go_wp2
    go_ret
    exact ⟨rfl, rfl⟩
theorem heal_odd {w : World} {x : Value} (h : Odd w x) : Calls Tryz.prog 35 #[x] w fun e w' => e = .returned (.int .i64 0) ∧ w = w' := by
  have H := Lib.hid h
  clear h
  go_enter Tryz.func35, Tryz.ntmps35
  go_wp2_with fail
  refine (len_not H.out).mono ?_; rintro e w' ⟨rfl, rfl⟩
  go_wp2
  go_loopw [3, 7] (fun q3 q7 wr => q3 = .int .i64 0 ∧ q7 = .int .i64 0 ∧ wr = w) (fun _ _ _ => 0)
  case atStart => exact ⟨rfl, rfl, rfl⟩
  case round =>
    obtain ⟨rfl, rfl, hw⟩ := hrel
    subst hw
    go_wp2
    go_ret
    exact ⟨rfl, rfl⟩
theorem fault_odd {w : World} {x : Value} (h : Odd w x) (z : Int) : Calls Tryz.prog 33 #[x, .int .i64 z] w fun e w' => e = .returned (.bool false) ∧ w = w' := by
  have H := Lib.hid h
  clear h
  go_enter Tryz.func33, Tryz.ntmps33
  go_wp2_with fail
  refine (has_not H.out z).mono ?_; rintro e w' ⟨rfl, rfl⟩
  go_wp2
  go_ret
  exact ⟨rfl, rfl⟩
theorem free_odd {w : World} {x : Value} (h : Odd w x) (z : Int) : Calls Tryz.prog 32 #[x, .int .i64 z] w fun e w' => e = .returned (.int .i64 2) ∧ w = w' := by
  have H := Lib.hid h
  clear h
  go_enter Tryz.func32, Tryz.ntmps32
  go_wp2_with fail
  refine (find_not H.out z).mono ?_; rintro e w' ⟨rfl, rfl⟩
  go_wp2
  go_ret
  exact ⟨rfl, rfl⟩
theorem read_odd {w : World} {x : Value} (h : Odd w x) (z b : Int) : Calls Tryz.prog 24 #[x, .int .i64 z, .int .i64 b] w fun e w' => e = .returned (.tuple #[.slice none 0 0, .int .u64 0, .int .i64 2]) ∧ w = w' := by
  have H := Lib.hid h
  clear h
  go_enter Tryz.func24, Tryz.ntmps24
  go_wp2_with fail
  refine (find_not H.out z).mono ?_; rintro e w' ⟨rfl, rfl⟩
  go_wp2
  go_ret3
  exact ⟨rfl, rfl⟩
theorem fill_nil (w : World) (z b : Int) (g : Nat) (v : Value) : Calls Tryz.prog 12 #[.pointer none, .int .i64 z, .int .i64 b, .int .u64 (g : Int), v] w fun e w' => e = .returned (.int .i64 2) ∧ Below w.heap.size w w' := by
  go_enter Tryz.func12, Tryz.ntmps12
  go_upto_region 1 with fail
  have B2 : Hid (Below w.heap.size w ((w.alloc (.cells #[.pointer none] 48)).alloc (.cells #[.int .i64 z] 3))) := bthen (balloc w (.cells #[.pointer none] 48)) (balloc _ _)
  have N5 : Hid (((w.alloc (.cells #[.pointer none] 48)).alloc (.cells #[.int .i64 z] 3)).cell? ⟨w.heap.size, 0, none⟩ = some (.pointer none)) := by
    show _ = _
    rw [(balloc (w.alloc (.cells #[.pointer none] 48)) (.cells #[.int .i64 z] 3)).cell (p := ⟨w.heap.size, 0, none⟩) (by simp)]
    exact cell_of_row _ _ 0 _ _ _ (heap_alloc_new w _)
  have N6 : Hid (((w.alloc (.cells #[.pointer none] 48)).alloc (.cells #[.int .i64 z] 3)).cell? ⟨w.heap.size + 1, 0, none⟩ = some (.int .i64 z)) := by
    show _ = _
    rw [← World.size_alloc w (.cells #[.pointer none] 48)]
    exact cell_of_row _ _ 0 _ _ _ (heap_alloc_new _ _)
  generalize (w.alloc (.cells #[.pointer none] 48)).alloc (.cells #[.int .i64 z] 3) = w2 at B2 N5 N6 ⊢
  have n5 := N5.out
  have n6 := N6.out
  go_wp2_with fail
  refine (find_not (.inl rfl) z).mono ?_; rintro e w' ⟨rfl, rfl⟩
  go_wp2
  go_ret
  exact ⟨rfl, B2.out⟩
theorem least_odd {w : World} {x : Value} (h : Odd w x) {b c : Nat} (hc : w.cell? ⟨b, 0, none⟩ = some (.int .i64 0)) : Calls Tryz.prog 31 #[x, .slice (some ⟨b, 0, none⟩) 1 c] w fun e w' => e = .returned (.tuple #[.int .i64 0, .bool false]) ∧ w = w' := by
  have H := Lib.hid h
  clear h
  go_enter Tryz.func31, Tryz.ntmps31
  go_wp2
  go_loopw [6, 7, 12] (fun q6 q7 q12 wr => q6 = .int .i64 0 ∧ q7 = .bool false ∧ (q12 = .int .i64 0 ∨ q12 = .int .i64 1) ∧ wr = w) (fun _ _ q12 _ => 1 - (intOf q12).toNat)
  case atStart => exact ⟨rfl, rfl, .inl rfl, rfl⟩
  case round =>
    obtain ⟨rfl, rfl, h12, hw⟩ := hrel
    subst hw
    rcases h12 with rfl | rfl
    · go_wp2_with fail
      refine (has_not H.out 0).mono ?_; rintro e w' ⟨rfl, rfl⟩
      go_wp2
      go_roundw
      case rel => exact ⟨rfl, rfl, .inr rfl, trivial⟩
      case measure => simp [intOf]
    · go_wp2
      go_ret2
      exact ⟨rfl, rfl⟩
end Go.Proofs.YtapklelkcicjlaaGreatDoor.Pd.Sl
