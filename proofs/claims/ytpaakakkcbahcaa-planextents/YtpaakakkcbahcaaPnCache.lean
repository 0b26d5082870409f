/-
  The reference's Cache: what stands in each sector of the cache device. No conditions but bounds of the numbers.
-/
import Derived.Test.YtpaakakkcbahcaaPnRow
namespace Go.Proofs.Ytpaakakkcbahcaa.W
open Go.RowKit Num
set_option linter.unusedVariables false
/-- what stands in the sectors of the cache device: of nl leaves, a log of ng -/
def cacheF (nl ng : Nat) (i : Nat) : Th :=
  if i < 2 then ⟨3, i, 0⟩ else if i < 2 + nl then ⟨4, 0, (i - 2 : Nat)⟩ else if i < 2 + 2 * nl then ⟨4, 1, (i - 2 - nl : Nat)⟩
  else if i < 2 + 2 * nl + ng then ⟨5, (i - (2 + 2 * nl) : Nat), 0⟩ else ⟨6 + ((i - (2 + 2 * nl + ng)) % 2 : Nat), ((i - (2 + 2 * nl + ng)) / 2 : Nat), 0⟩
section
variable {nl ng i r : Nat}
theorem cacheF_commit (h : i < 2) : cacheF nl ng i = ⟨3, i, 0⟩ := if_pos h
theorem cacheF_leaf (hr : r < 2) (hi : i < nl) : cacheF nl ng (2 + r * nl + i) = ⟨4, r, i⟩ := by
  have : r = 0 ∨ r = 1 := by omega
  unfold cacheF
  rcases this with rfl | rfl
  · rw [if_neg (by omega), if_pos (by omega), show 2 + 0 * nl + i - 2 = i by omega]; rfl
  · rw [if_neg (by omega), if_neg (by omega), if_pos (by omega), show 2 + 1 * nl + i - 2 - nl = i by omega]; rfl
theorem cacheF_log (hi : i < ng) : cacheF nl ng (2 + 2 * nl + i) = ⟨5, i, 0⟩ := by
  unfold cacheF
  rw [if_neg (by omega), if_neg (by omega), if_neg (by omega), if_pos (by omega), show 2 + 2 * nl + i - (2 + 2 * nl) = i by omega]
theorem cacheF_slot (hr : r < 2) : cacheF nl ng (2 + 2 * nl + ng + 2 * i + r) = ⟨6 + r, i, 0⟩ := by
  unfold cacheF
  rw [if_neg (by omega), if_neg (by omega), if_neg (by omega), if_neg (by omega), show (2 + 2 * nl + ng + 2 * i + r - (2 + 2 * nl + ng)) % 2 = r by omega, show (2 + 2 * nl + ng + 2 * i + r - (2 + 2 * nl + ng)) / 2 = i by omega]
end

set_option maxHeartbeats 8000000 in
theorem rcache_any (p : Pl) (nl ng ns : Nat) (h5 : p.a5 = nl) (h7 : p.a7 = ng) (h9 : p.a9 = ns) (hl2 : nl ≤ 1000) (hg2 : ng ≤ 1000) (hs2 : ns ≤ 1000) (w : World) :
    Calls Try.prog 15 #[(.agg #[.int .i64 p.a0, .int .i64 p.a1, .int .i64 p.a2, .int .i64 p.a3, .int .i64 p.a4, .int .i64 p.a5, .int .i64 p.a6, .int .i64 p.a7, .int .i64 p.a8, .int .i64 p.a9, .int .i64 p.a10, .int .i64 p.a11, .int .i64 p.a12])] w fun e w' => ∃ g cap, e = .returned (.slice (some ⟨g, 0, none⟩) (2 + 2 * nl + ng + 2 * ns) cap) ∧ TRow w' g (2 + 2 * nl + ng + 2 * ns) (cacheF nl ng) ∧ Below w.heap.size w w' := by
  have H5 := Lib.hid h5
  have H7 := Lib.hid h7
  have H9 := Lib.hid h9
  clear h5 h7 h9
  go_enter Try.func15, Try.ntmps15
  go_wp2
  have Z := Lib.hid (balloc w (.cells #[.int .i64 p.a0, .int .i64 p.a1, .int .i64 p.a2, .int .i64 p.a3, .int .i64 p.a4, .int .i64 p.a5, .int .i64 p.a6, .int .i64 p.a7, .int .i64 p.a8, .int .i64 p.a9, .int .i64 p.a10, .int .i64 p.a11, .int .i64 p.a12] 28))
  have Y0 : Hid (∀ wr, Below (w.alloc (.cells #[.int .i64 p.a0, .int .i64 p.a1, .int .i64 p.a2, .int .i64 p.a3, .int .i64 p.a4, .int .i64 p.a5, .int .i64 p.a6, .int .i64 p.a7, .int .i64 p.a8, .int .i64 p.a9, .int .i64 p.a10, .int .i64 p.a11, .int .i64 p.a12] 28)).heap.size (w.alloc (.cells #[.int .i64 p.a0, .int .i64 p.a1, .int .i64 p.a2, .int .i64 p.a3, .int .i64 p.a4, .int .i64 p.a5, .int .i64 p.a6, .int .i64 p.a7, .int .i64 p.a8, .int .i64 p.a9, .int .i64 p.a10, .int .i64 p.a11, .int .i64 p.a12] 28)) wr → wr.cell? ⟨w.heap.size, 5, none⟩ = some (.int .i64 (nl : Int)) ∧ wr.cell? ⟨w.heap.size, 7, none⟩ = some (.int .i64 (ng : Int)) ∧ wr.cell? ⟨w.heap.size, 9, none⟩ = some (.int .i64 (ns : Int))) := fun wr b => ⟨by rw [← H5.out]; exact box_cell b rfl, by rw [← H7.out]; exact box_cell b rfl, by rw [← H9.out]; exact box_cell b rfl⟩
  have hz : (w.alloc (.cells #[.int .i64 p.a0, .int .i64 p.a1, .int .i64 p.a2, .int .i64 p.a3, .int .i64 p.a4, .int .i64 p.a5, .int .i64 p.a6, .int .i64 p.a7, .int .i64 p.a8, .int .i64 p.a9, .int .i64 p.a10, .int .i64 p.a11, .int .i64 p.a12] 28)).heap.size = w.heap.size + 1 := by show (w.heap.push _).size = _; simp
  have O0 : Hid (OwnT ((w.alloc (.cells #[.int .i64 p.a0, .int .i64 p.a1, .int .i64 p.a2, .int .i64 p.a3, .int .i64 p.a4, .int .i64 p.a5, .int .i64 p.a6, .int .i64 p.a7, .int .i64 p.a8, .int .i64 p.a9, .int .i64 p.a10, .int .i64 p.a11, .int .i64 p.a12] 28)).alloc (.cells #[.int .i64 3, .int .i64 0, .int .i64 0, .int .i64 3, .int .i64 1, .int .i64 0] 54)) (w.alloc (.cells #[.int .i64 p.a0, .int .i64 p.a1, .int .i64 p.a2, .int .i64 p.a3, .int .i64 p.a4, .int .i64 p.a5, .int .i64 p.a6, .int .i64 p.a7, .int .i64 p.a8, .int .i64 p.a9, .int .i64 p.a10, .int .i64 p.a11, .int .i64 p.a12] 28)).heap.size (.slice (some ⟨w.heap.size + 1, 0, none⟩) 2 2) (fst (cacheF nl ng) 2)) := by
    show OwnT _ _ _ _
    rw [← hz]
    exact World.ownsRow_lit (w.alloc (.cells #[.int .i64 p.a0, .int .i64 p.a1, .int .i64 p.a2, .int .i64 p.a3, .int .i64 p.a4, .int .i64 p.a5, .int .i64 p.a6, .int .i64 p.a7, .int .i64 p.a8, .int .i64 p.a9, .int .i64 p.a10, .int .i64 p.a11, .int .i64 p.a12] 28)) #[.int .i64 3, .int .i64 0, .int .i64 0, .int .i64 3, .int .i64 1, .int .i64 0] 2 (Nat.le_refl _) (by decide) rfl
  have B0 := Lib.hid (balloc (w.alloc (.cells #[.int .i64 p.a0, .int .i64 p.a1, .int .i64 p.a2, .int .i64 p.a3, .int .i64 p.a4, .int .i64 p.a5, .int .i64 p.a6, .int .i64 p.a7, .int .i64 p.a8, .int .i64 p.a9, .int .i64 p.a10, .int .i64 p.a11, .int .i64 p.a12] 28)) (.cells #[.int .i64 3, .int .i64 0, .int .i64 0, .int .i64 3, .int .i64 1, .int .i64 0] 54))
  clear hz
  generalize (w.alloc (.cells #[.int .i64 p.a0, .int .i64 p.a1, .int .i64 p.a2, .int .i64 p.a3, .int .i64 p.a4, .int .i64 p.a5, .int .i64 p.a6, .int .i64 p.a7, .int .i64 p.a8, .int .i64 p.a9, .int .i64 p.a10, .int .i64 p.a11, .int .i64 p.a12] 28)).alloc (.cells #[.int .i64 3, .int .i64 0, .int .i64 0, .int .i64 3, .int .i64 1, .int .i64 0] 54) = w1 at O0 B0 ⊢
  generalize w.alloc (.cells #[.int .i64 p.a0, .int .i64 p.a1, .int .i64 p.a2, .int .i64 p.a3, .int .i64 p.a4, .int .i64 p.a5, .int .i64 p.a6, .int .i64 p.a7, .int .i64 p.a8, .int .i64 p.a9, .int .i64 p.a10, .int .i64 p.a11, .int .i64 p.a12] 28) = w0 at Z Y0 O0 B0 ⊢
  go_loopw [3, 4] (fun v q wr => ∃ r : Nat, r ≤ 2 ∧ q = .int .i64 (r : Int) ∧ Hid (OwnT wr w0.heap.size v (fst (cacheF nl ng) (2 + r * nl))) ∧ Hid (Below w0.heap.size w0 wr)) (fun _ q _ => 2 - (intOf q).toNat)
  case atStart => exact ⟨0, by omega, rfl, by show OwnT _ _ _ _; rw [show 2 + 0 * nl = 2 by omega]; exact O0.out, B0⟩
  case round =>
    obtain ⟨r, hr, rfl, OR, BR⟩ := hrel
    by_cases hlt : r < 2
    · have hrn : r * nl ≤ 1 * nl := Nat.mul_le_mul_right _ (by omega)
      have hlt2 : (r : Int) < 2 := by omega
      go_wp2
      go_loopw [3, 5] (fun v q wr => ∃ i : Nat, i ≤ nl ∧ q = .int .i64 (i : Int) ∧ Hid (OwnT wr w0.heap.size v (fst (cacheF nl ng) (2 + r * nl + i))) ∧ Hid (Below w0.heap.size w0 wr)) (fun _ q _ => nl - (intOf q).toNat)
      case atStart => exact ⟨0, by omega, rfl, OR, BR⟩
      case round =>
        obtain ⟨i, hi, rfl, OI, BI⟩ := hrel
        obtain ⟨y5, y7, y9⟩ := Y0.out _ BI.out
        by_cases hli : i < nl
        · go_wp2_with (at_builtin; refine wpList_append_T rfl _ _ rfl rfl OI.out BI.out _ (m := 1) (us := [⟨4, r, i⟩]) rfl rfl rfl (by rw [fst_len]; omega) ?_; intro v2 w2 o2 b2; have O2 := Lib.hid o2; have B2 := Lib.hid b2; clear o2 b2)
          go_roundw
          case rel => exact ⟨i + 1, by omega, rfl, by show OwnT _ _ _ _; rw [← Nat.add_assoc, fst_succ, cacheF_leaf hlt hli]; exact O2.out, B2⟩
          case measure => simp [intOf]; omega
        · have : i = nl := by omega
          subst this
          go_wp2
          clear y5 y7 y9
          go_roundw
          case rel => exact ⟨r + 1, by omega, rfl, by show OwnT _ _ _ _; rw [Nat.succ_mul, ← Nat.add_assoc]; exact OI.out, BI⟩
          case measure => simp [intOf]; omega
    · have HR2 := Lib.hid (show r = 2 by omega)
      have hlt2 : ¬ (r : Int) < 2 := by omega
      go_wp2
      go_loopw [3, 6] (fun v q wr => ∃ i : Nat, i ≤ ng ∧ q = .int .i64 (i : Int) ∧ Hid (OwnT wr w0.heap.size v (fst (cacheF nl ng) (2 + 2 * nl + i))) ∧ Hid (Below w0.heap.size w0 wr)) (fun _ q _ => ng - (intOf q).toNat)
      case atStart => exact ⟨0, by omega, rfl, by have h := OR.out; rw [HR2.out] at h; exact h, BR⟩
      case round =>
        obtain ⟨i, hi, rfl, OI, BI⟩ := hrel
        obtain ⟨y5, y7, y9⟩ := Y0.out _ BI.out
        by_cases hli : i < ng
        · go_wp2_with (at_builtin; refine wpList_append_T rfl _ _ rfl rfl OI.out BI.out _ (m := 1) (us := [⟨5, i, 0⟩]) rfl rfl rfl (by rw [fst_len]; omega) ?_; intro v2 w2 o2 b2; have O2 := Lib.hid o2; have B2 := Lib.hid b2; clear o2 b2)
          go_roundw
          case rel => exact ⟨i + 1, by omega, rfl, by show OwnT _ _ _ _; rw [← Nat.add_assoc, fst_succ, cacheF_log hli]; exact O2.out, B2⟩
          case measure => simp [intOf]; omega
        · have : i = ng := by omega
          subst this
          go_wp2
          clear y5 y7 y9
          go_loopw [3, 7] (fun v q wr => ∃ j : Nat, j ≤ ns ∧ q = .int .i64 (j : Int) ∧ Hid (OwnT wr w0.heap.size v (fst (cacheF nl i) (2 + 2 * nl + i + 2 * j))) ∧ Hid (Below w0.heap.size w0 wr)) (fun _ q _ => ns - (intOf q).toNat)
          case atStart => exact ⟨0, by omega, rfl, OI, BI⟩
          case round =>
            obtain ⟨j, hj, rfl, OJ, BJ⟩ := hrel
            obtain ⟨y5, y7, y9⟩ := Y0.out _ BJ.out
            by_cases hlj : j < ns
            · go_wp2_with (at_builtin; refine wpList_append_T rfl _ _ rfl rfl OJ.out BJ.out _ (m := 2) (us := [⟨6, j, 0⟩, ⟨7, j, 0⟩]) rfl rfl rfl (by rw [fst_len]; omega) ?_; intro v2 w2 o2 b2; have O2 := Lib.hid o2; have B2 := Lib.hid b2; clear o2 b2)
              go_roundw
              case rel => exact ⟨j + 1, by omega, rfl, by show OwnT _ _ _ _; rw [show 2 + 2 * nl + i + 2 * (j + 1) = 2 + 2 * nl + i + 2 * j + 2 by omega, fst_succ2, show cacheF nl i (2 + 2 * nl + i + 2 * j) = ⟨6, j, 0⟩ from cacheF_slot (r := 0) (by decide), show cacheF nl i (2 + 2 * nl + i + 2 * j + 1) = ⟨7, j, 0⟩ from cacheF_slot (r := 1) (by decide)]; exact O2.out, B2⟩
              case measure => simp [intOf]; omega
            · have : j = ns := by omega
              subst this
              obtain ⟨g, cap, rfl, tr⟩ := OJ.out.row (by omega)
              have TR := Lib.hid tr
              clear tr
              go_wp2
              go_ret
              exact ⟨g, cap, rfl, TR.out, bthen Z.out BJ.out⟩
end Go.Proofs.Ytpaakakkcbahcaa.W
