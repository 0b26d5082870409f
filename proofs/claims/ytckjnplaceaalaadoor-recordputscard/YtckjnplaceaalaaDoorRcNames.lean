/-
  Contracts of Names and of the reference's Names. No conditions.
-/
import Derived.Test.YtckjnplaceaalaaDoorRcMay
import Derived.Laws.BitsLemmas
namespace Go.Proofs.YtckjnplaceaalaaDoor.W
open Go.RowKit Oc
set_option linter.unusedVariables false

/-- is the block with that number in that extent among the record's? -/
def Named (p : Rc) (x i : Int) : Prop := p.x = x ∧ 0 ≤ i ∧ i < 8 ∧ p.m.toNat / 2 ^ i.toNat % 2 = 1
theorem shr_nat (m : UInt8) (k : Nat) : (m.toNat : Int) / 2 ^ k = ((m.toNat / 2 ^ k : Nat) : Int) := by
  rw [Int.natCast_ediv, Int.natCast_pow]
  rfl
theorem shr_lt (m : UInt8) (k : Nat) : m.toNat / 2 ^ k < 256 := Nat.lt_of_le_of_lt (Nat.div_le_self _ _) m.toNat_lt
theorem shr_one (m : UInt8) (k : Nat) : bits BinOp.and IntKind.u8 ((m.toNat : Int) / 2 ^ k) 1 = ((m.toNat / 2 ^ k % 2 : Nat) : Int) := by
  have h := shr_lt m k
  have e : bits BinOp.and IntKind.u8 ((m.toNat / 2 ^ k : Nat) : Int) 1 = ((m.toNat / 2 ^ k : Nat) : Int) % 2 := bits_mask .u8 8 (by decide) wraps_u8 1 (by decide) _ (Int.natCast_nonneg _) (by exact_mod_cast h)
  rw [shr_nat, e]
  rfl

set_option maxHeartbeats 1000000 in
theorem names_any (p : Rc) (x i : Int) (b : Bool) (w : World) (hb : b = true ↔ Named p x i) : Calls Tryd.prog 14 #[(.agg #[.int .u64 (p.q : Int), .int .u64 (p.h : Int), .int .i64 p.x, .int .u64 (p.g : Int), .int .u8 (p.m.toNat : Int)]), .int .i64 x, .int .i64 i] w fun e w' => e = .returned (.bool b) ∧ Below w.heap.size w w' := by
  obtain ⟨pq, ph, px, pg, pm⟩ := p
  have HB := Lib.hid hb
  clear hb
  dsimp only
  by_cases c1 : px = x
  · by_cases c2 : 0 ≤ i
    · by_cases c3 : i < 8
      · have hs := shr_one pm i.toNat
        by_cases c4 : pm.toNat / 2 ^ i.toNat % 2 = 1
        · rw [c4] at hs
          have C4 := Lib.hid c4
          clear c4
          go_enter Tryd.func14, Tryd.ntmps14
          go_wp2
          go_ret
          exact ⟨bool_of HB.out ⟨c1, c2, c3, C4.out⟩, balloc _ _⟩
        · rw [show pm.toNat / 2 ^ i.toNat % 2 = 0 by omega] at hs
          have C4 := Lib.hid c4
          clear c4
          go_enter Tryd.func14, Tryd.ntmps14
          go_wp2
          go_ret
          exact ⟨bool_not HB.out fun k => C4.out k.2.2.2, balloc _ _⟩
      · go_enter Tryd.func14, Tryd.ntmps14
        go_wp2
        go_ret
        exact ⟨bool_not HB.out fun k => (by have : i < 8 := k.2.2.1; omega), balloc _ _⟩
    · go_enter Tryd.func14, Tryd.ntmps14
      go_wp2
      go_ret
      exact ⟨bool_not HB.out fun k => (by have : 0 ≤ i := k.2.1; omega), balloc _ _⟩
  · go_enter Tryd.func14, Tryd.ntmps14
    go_wp2
    go_ret
    exact ⟨bool_not HB.out fun k => c1 k.1, balloc _ _⟩

theorem half_step (m j : Nat) : m / 2 ^ j / 2 = m / 2 ^ (j + 1) := by rw [Nat.div_div_eq_div_mul, Nat.pow_succ]
set_option maxHeartbeats 1000000 in
theorem rnames_any (p : Rc) (x i : Int) (b : Bool) (w : World) (hb : b = true ↔ Named p x i) : Calls Tryd.prog 15 #[(.agg #[.int .u64 (p.q : Int), .int .u64 (p.h : Int), .int .i64 p.x, .int .u64 (p.g : Int), .int .u8 (p.m.toNat : Int)]), .int .i64 x, .int .i64 i] w fun e w' => e = .returned (.bool b) ∧ Below w.heap.size w w' := by
  obtain ⟨pq, ph, px, pg, pm⟩ := p
  have HB := Lib.hid hb
  clear hb
  dsimp only
  by_cases c1 : px = x
  · by_cases c2 : 0 ≤ i
    · by_cases c3 : i ≤ 7
      · obtain ⟨k, hk⟩ : ∃ k : Nat, i = (k : Int) := ⟨i.toNat, by omega⟩
        subst hk
        have hm := pm.toNat_lt
        obtain ⟨M, hM⟩ : ∃ M : Nat, pm.toNat = M := ⟨_, rfl⟩
        have HM := Lib.hid hM
        rw [hM]
        go_enter Tryd.func15, Tryd.ntmps15
        go_wp2
        go_loop [7, 8] (fun v q => ∃ j a : Nat, j ≤ k ∧ q = .int .i64 j ∧ v = .int .u8 a ∧ a < 256 ∧ Hid (M / 2 ^ j = a)) (fun _ q => k - (intOf q).toNat)
        case atStart => exact ⟨0, M, by omega, rfl, rfl, by omega, by show _ = _; simp⟩
        case round =>
          obtain ⟨j, a, hj, rfl, rfl, ha, E⟩ := hrel
          by_cases hlt : j < k
          · go_wp2
            go_round
            case rel => exact ⟨j + 1, a / 2, by omega, rfl, rfl, by omega, by show _ = _; rw [← half_step, E.out]⟩
            case measure => simp [intOf]; omega
          · have hjk : j = k := by omega
            have e : M / 2 ^ k = a := by rw [← hjk]; exact E.out
            have E2 := Lib.hid e
            clear e hjk
            by_cases c4 : (a : Int) % 2 = 1
            · go_wp2
              go_ret
              exact ⟨bool_of HB.out ⟨c1, c2, by omega, by show pm.toNat / 2 ^ (k : Int).toNat % 2 = 1; rw [HM.out, Int.toNat_natCast, E2.out]; omega⟩, balloc _ _⟩
            · have c5 : (a : Int) % 2 = 0 := by omega
              clear c4
              go_wp2
              go_ret
              exact ⟨bool_not HB.out fun h => (by
                have h2 : pm.toNat / 2 ^ (k : Int).toNat % 2 = 1 := h.2.2.2
                rw [HM.out, Int.toNat_natCast, E2.out] at h2
                omega), balloc _ _⟩
      · go_enter Tryd.func15, Tryd.ntmps15
        go_wp2
        go_ret
        exact ⟨bool_not HB.out fun k => (by have : i < 8 := k.2.2.1; omega), balloc _ _⟩
    · go_enter Tryd.func15, Tryd.ntmps15
      go_wp2
      go_ret
      exact ⟨bool_not HB.out fun k => (by have : 0 ≤ i := k.2.1; omega), balloc _ _⟩
  · go_enter Tryd.func15, Tryd.ntmps15
    go_wp2
    go_ret
    exact ⟨bool_not HB.out fun k => c1 k.1, balloc _ _⟩
end Go.Proofs.YtckjnplaceaalaaDoor.W
