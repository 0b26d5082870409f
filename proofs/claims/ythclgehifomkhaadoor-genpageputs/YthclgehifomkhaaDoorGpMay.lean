/-
  Contracts of mayBe and of the reference's May. No conditions.
-/
import Derived.Test.YthclgehifomkhaaDoorGpWalks
namespace Go.Proofs.YthclgehifomkhaaDoor.W
open Go.RowKit Oc
set_option linter.unusedVariables false

set_option maxHeartbeats 1000000 in
theorem maybe_any (p : Gp) (b : Bool) (w : World) (hb : b = true ↔ MayBe p) : Calls Tryd.prog 17 #[(.agg #[.int .i64 p.no, .int .u64 (p.v : Int), .int .u64 (p.g 0 : Int), .int .u64 (p.g 1 : Int), .int .u64 (p.g 2 : Int), .int .u64 (p.g 3 : Int), .int .u64 (p.g 4 : Int), .int .u64 (p.g 5 : Int)])] w fun e w' => e = .returned (.bool b) ∧ Below w.heap.size w w' := by
  obtain ⟨no, v, g⟩ := p
  dsimp only
  unfold MayBe at hb
  dsimp only at hb
  by_cases h0 : no < 0
  · have hf : b = false := by
      cases b
      · rfl
      · exact absurd (hb.1 rfl).1.1 (by omega)
    subst hf
    clear hb
    go_enter Tryd.func17, Tryd.ntmps17
    go_wp2
    go_ret
    exact ⟨rfl, balloc _ _⟩
  · by_cases h1 : 65535 < no
    · have hf : b = false := by
        cases b
        · rfl
        · exact absurd (hb.1 rfl).1.2 (by omega)
      subst hf
      clear hb
      go_enter Tryd.func17, Tryd.ntmps17
      go_wp2
      go_ret
      exact ⟨rfl, balloc _ _⟩
    · by_cases h2 : isG v
      · have HV := Lib.hid h2
        have HB : Hid (b = true ↔ ∀ i, i < 6 → isG (g i)) := ⟨fun h => (hb.1 h).2.2, fun h => hb.2 ⟨⟨by omega, by omega⟩, h2, h⟩⟩
        clear hb h2
        go_enter Tryd.func17, Tryd.ntmps17
        go_wp2_with fail
        refine (gen_yes _ _ HV.out).mono ?_; rintro e w' ⟨rfl, rfl⟩
        go_wp2
        go_loop [4, 21] (fun _ q => ∃ j : Nat, j ≤ 6 ∧ q = .int .i64 j ∧ Hid (∀ i, i < j → isG (g i))) (fun _ q => 6 - (intOf q).toNat)
        case atStart => exact ⟨0, by omega, rfl, fun i hi => by omega⟩
        case round =>
          obtain ⟨j, hj, rfl, HJ⟩ := hrel
          by_cases hlt : j < 6
          · have hx := index_gen g hlt
            by_cases hg : isG (g j)
            · have HG := Lib.hid hg
              clear hg
              go_wp2_with fail
              refine (gen_yes _ _ HG.out).mono ?_; rintro e w' ⟨rfl, rfl⟩
              go_wp2
              go_round
              case rel => exact ⟨j + 1, by omega, rfl, fun i hi => by
                by_cases h3 : i = j
                · subst h3; exact HG.out
                · exact HJ.out i (by omega)⟩
              case measure => simp [intOf]; omega
            · have HG := Lib.hid hg
              clear hg
              have hf : b = false := by
                cases b
                · rfl
                · exact absurd (HB.out.1 rfl j hlt) HG.out
              subst hf
              go_wp2_with fail
              refine (gen_no _ _ HG.out).mono ?_; rintro e w' ⟨rfl, rfl⟩
              go_wp2
              go_ret
              exact ⟨rfl, balloc _ _⟩
          · have : j = 6 := by omega
            have hf : b = true := HB.out.2 fun i hi => HJ.out i (by omega)
            subst hf
            go_wp2
            go_ret
            exact ⟨rfl, balloc _ _⟩
      · have HV := Lib.hid h2
        have hf : b = false := by
          cases b
          · rfl
          · exact absurd (hb.1 rfl).2.1 h2
        subst hf
        clear hb h2
        go_enter Tryd.func17, Tryd.ntmps17
        go_wp2_with fail
        refine (gen_no _ _ HV.out).mono ?_; rintro e w' ⟨rfl, rfl⟩
        go_wp2
        go_ret
        exact ⟨rfl, balloc _ _⟩

/-- a generation in its box -/
theorem gen_cell (w : World) (no : Int) (v : Nat) (g : Nat → Nat) (T : TypeId) {j : Nat} (h : j < 6) {k : Nat} (hk : k = 2 + j) : (w.alloc (.cells #[.int .i64 no, .int .u64 (v : Int), .int .u64 (g 0 : Int), .int .u64 (g 1 : Int), .int .u64 (g 2 : Int), .int .u64 (g 3 : Int), .int .u64 (g 4 : Int), .int .u64 (g 5 : Int)] T)).cell? ⟨w.heap.size, k, none⟩ = some (.int .u64 (g j : Int)) := by
  subst hk
  rw [cell_of_row _ _ _ _ _ _ (heap_alloc_new w _)]
  match j, h with
  | 0, _ => rfl
  | 1, _ => rfl
  | 2, _ => rfl
  | 3, _ => rfl
  | 4, _ => rfl
  | 5, _ => rfl

set_option maxHeartbeats 1000000 in
theorem rmay_any (p : Gp) (b : Bool) (w : World) (hb : b = true ↔ MayBe p) : Calls Tryd.prog 15 #[(.agg #[.int .i64 p.no, .int .u64 (p.v : Int), .int .u64 (p.g 0 : Int), .int .u64 (p.g 1 : Int), .int .u64 (p.g 2 : Int), .int .u64 (p.g 3 : Int), .int .u64 (p.g 4 : Int), .int .u64 (p.g 5 : Int)])] w fun e w' => e = .returned (.bool b) ∧ Below w.heap.size w w' := by
  obtain ⟨no, v, g⟩ := p
  dsimp only
  unfold MayBe at hb
  dsimp only at hb
  by_cases h0 : (0 ≤ no ∧ no < 65536) ∧ isG v
  · obtain ⟨⟨h0, h1⟩, h2⟩ := h0
    have HV := Lib.hid h2
    have HB : Hid (b = true ↔ ∀ i, i < 6 → isG (g i)) := ⟨fun h => (hb.1 h).2.2, fun h => hb.2 ⟨⟨h0, h1⟩, h2, h⟩⟩
    clear hb h2
    go_enter Tryd.func15, Tryd.ntmps15
    go_wp2_with fail
    refine (rnum_yes _ _ HV.out).mono ?_; rintro e w' ⟨rfl, rfl⟩
    go_wp2
    go_loop [3, 4] (fun s q => ∃ (j : Nat) (c : Bool), j ≤ 6 ∧ q = .int .i64 j ∧ s = .bool c ∧ Hid (c = true ↔ ∀ i, i < j → isG (g i))) (fun _ q => 6 - (intOf q).toNat)
    case atStart => exact ⟨0, true, by omega, rfl, rfl, ⟨fun _ i hi => by omega, fun _ => rfl⟩⟩
    case round =>
      obtain ⟨j, c, hj, rfl, rfl, HJ⟩ := hrel
      by_cases hlt : j < 6
      · cases c
        · go_wp2
          go_round
          case rel => exact ⟨j + 1, false, by omega, rfl, rfl, ⟨fun h => (by cases h), fun h => HJ.out.2 fun i hi => h i (by omega)⟩⟩
          case measure => simp [intOf]; omega
        · have hc := gen_cell w no v g 25 hlt (k := 2 + j) rfl
          by_cases hg : isG (g j)
          · have HG := Lib.hid hg
            clear hg
            go_wp2_with fail
            refine (rnum_yes _ _ HG.out).mono ?_; rintro e w' ⟨rfl, rfl⟩
            go_wp2
            go_round
            case rel => exact ⟨j + 1, true, by omega, rfl, rfl, ⟨fun _ i hi => by
              by_cases h3 : i = j
              · subst h3; exact HG.out
              · exact HJ.out.1 (by trivial) i (by omega), fun _ => by trivial⟩⟩
            case measure => simp [intOf]; omega
          · have HG := Lib.hid hg
            clear hg
            go_wp2_with fail
            refine (rnum_no _ _ HG.out).mono ?_; rintro e w' ⟨rfl, rfl⟩
            go_wp2
            go_round
            case rel => exact ⟨j + 1, false, by omega, rfl, rfl, ⟨fun h => (by cases h), fun h => absurd (h j (by omega)) HG.out⟩⟩
            case measure => simp [intOf]; omega
      · have h6 : j = 6 := by omega
        have hf : c = b := by
          have h1 := HB.out
          have h2 := HJ.out
          rw [h6] at h2
          cases b <;> cases c <;> first | rfl | exact (absurd (h1.2 (h2.1 rfl)) (by decide)) | exact (absurd (h2.2 (h1.1 rfl)) (by decide))
        subst hf
        clear h6
        go_wp2
        go_ret
        exact ⟨rfl, balloc _ _⟩
  · have hf : b = false := by
      cases b
      · rfl
      · exact absurd ⟨(hb.1 rfl).1, (hb.1 rfl).2.1⟩ h0
    subst hf
    have HN : Hid (¬ ((0 ≤ no ∧ no < 65536) ∧ isG v)) := h0
    clear hb h0
    by_cases h1 : 0 ≤ no
    · by_cases h2 : no < 65536
      · have HV : Hid (¬ isG v) := fun h => HN.out ⟨⟨h1, h2⟩, h⟩
        go_enter Tryd.func15, Tryd.ntmps15
        go_wp2_with fail
        refine (rnum_no _ _ HV.out).mono ?_; rintro e w' ⟨rfl, rfl⟩
        go_wp2
        go_loop [3, 4] (fun s q => ∃ (j : Nat), j ≤ 6 ∧ q = .int .i64 j ∧ s = .bool false) (fun _ q => 6 - (intOf q).toNat)
        case atStart => exact ⟨0, by omega, rfl, rfl⟩
        case round =>
          obtain ⟨j, hj, rfl, rfl⟩ := hrel
          by_cases hlt : j < 6
          · go_wp2
            go_round
            case rel => exact ⟨j + 1, by omega, rfl, rfl⟩
            case measure => simp [intOf]; omega
          · go_wp2
            go_ret
            exact ⟨rfl, balloc _ _⟩
      · go_enter Tryd.func15, Tryd.ntmps15
        go_wp2
        go_loop [3, 4] (fun s q => ∃ (j : Nat), j ≤ 6 ∧ q = .int .i64 j ∧ s = .bool false) (fun _ q => 6 - (intOf q).toNat)
        case atStart => exact ⟨0, by omega, rfl, rfl⟩
        case round =>
          obtain ⟨j, hj, rfl, rfl⟩ := hrel
          by_cases hlt : j < 6
          · go_wp2
            go_round
            case rel => exact ⟨j + 1, by omega, rfl, rfl⟩
            case measure => simp [intOf]; omega
          · go_wp2
            go_ret
            exact ⟨rfl, balloc _ _⟩
    · go_enter Tryd.func15, Tryd.ntmps15
      go_wp2
      go_loop [3, 4] (fun s q => ∃ (j : Nat), j ≤ 6 ∧ q = .int .i64 j ∧ s = .bool false) (fun _ q => 6 - (intOf q).toNat)
      case atStart => exact ⟨0, by omega, rfl, rfl⟩
      case round =>
        obtain ⟨j, hj, rfl, rfl⟩ := hrel
        by_cases hlt : j < 6
        · go_wp2
          go_round
          case rel => exact ⟨j + 1, by omega, rfl, rfl⟩
          case measure => simp [intOf]; omega
        · go_wp2
          go_ret
          exact ⟨rfl, balloc _ _⟩
end Go.Proofs.YthclgehifomkhaaDoor.W
