/-
  Contracts of mayBe and of the reference's May. No conditions.
-/
import Derived.Test.YtckjnplaceaalaaDoorRcMem
namespace Go.Proofs.YtckjnplaceaalaaDoor.W
open Go.RowKit Oc
set_option linter.unusedVariables false

theorem bool_of {b : Bool} {P : Prop} (h : b = true ↔ P) (hp : P) : (.returned (.bool true) : Ending) = .returned (.bool b) := by rw [h.2 hp]
theorem bool_not {b : Bool} {P : Prop} (h : b = true ↔ P) (hp : ¬ P) : (.returned (.bool false) : Ending) = .returned (.bool b) := by
  cases b
  · rfl
  · exact absurd (h.1 rfl) hp

set_option maxHeartbeats 1000000 in
theorem maybe_any (p : Rc) (b : Bool) (w : World) (hb : b = true ↔ MayBe p) : Calls Tryd.prog 16 #[(.agg #[.int .u64 (p.q : Int), .int .u64 (p.h : Int), .int .i64 p.x, .int .u64 (p.g : Int), .int .u8 (p.m.toNat : Int)])] w fun e w' => e = .returned (.bool b) ∧ Below w.heap.size w w' := by
  obtain ⟨q, h, x, g, m⟩ := p
  have hm := m.toNat_lt
  obtain ⟨M, hM⟩ : ∃ M : Int, (m.toNat : Int) = M := ⟨_, rfl⟩
  obtain ⟨A1, h1⟩ : ∃ A : Int, (if (4611686018427387904 : Int) < (q : Int) then (4611686018427387904 : Int) else (q : Int)) = A := ⟨_, rfl⟩
  obtain ⟨A2, h2⟩ : ∃ A : Int, (if (4611686018427387904 : Int) < (h : Int) then (4611686018427387904 : Int) else (h : Int)) = A := ⟨_, rfl⟩
  obtain ⟨B, h3⟩ : ∃ A : Int, (if x < 0 then (0 : Int) else x) = A := ⟨_, rfl⟩
  obtain ⟨A3, h4⟩ : ∃ A : Int, (if (65535 : Int) < B then (65535 : Int) else B) = A := ⟨_, rfl⟩
  obtain ⟨G, h5⟩ : ∃ A : Int, (if (g : Int) < 1 then (1 : Int) else (g : Int)) = A := ⟨_, rfl⟩
  obtain ⟨A4, h6⟩ : ∃ A : Int, (if (4611686018427387904 : Int) < G then (4611686018427387904 : Int) else G) = A := ⟨_, rfl⟩
  obtain ⟨A5, h7⟩ : ∃ A : Int, (if M < 1 then (1 : Int) else M) = A := ⟨_, rfl⟩
  have e1 : ((q : Int) = A1) ↔ isS q := by rw [← h1]; unfold isS; split <;> omega
  have e2 : ((h : Int) = A2) ↔ isS h := by rw [← h2]; unfold isS; split <;> omega
  have e3 : (x = A3) ↔ (0 ≤ x ∧ x < 65536) := by rw [← h4, ← h3]; split <;> split <;> omega
  have e4 : ((g : Int) = A4) ↔ isG g := by rw [← h6, ← h5]; unfold isG; split <;> split <;> omega
  have e5 : (M = A5) ↔ 0 < m.toNat := by rw [← h7]; split <;> omega
  have E1 := Lib.hid e1
  have E2 := Lib.hid e2
  have E3 := Lib.hid e3
  have E4 := Lib.hid e4
  have E5 := Lib.hid e5
  have HB := Lib.hid hb
  clear e1 e2 e3 e4 e5 hb
  dsimp only
  rw [hM]
  go_enter Tryd.func16, Tryd.ntmps16
  go_wp2
  all_goals go_ret
  all_goals refine ⟨?_, balloc _ _⟩
  all_goals first
    | exact bool_of HB.out ⟨E1.out.1 (by assumption), E2.out.1 (by assumption), E3.out.1 (by assumption), E4.out.1 (by assumption), E5.out.1 (by assumption)⟩
    | exact bool_not HB.out fun k => by first | exact absurd (E1.out.2 k.1) (by assumption) | exact absurd (E2.out.2 k.2.1) (by assumption) | exact absurd (E3.out.2 k.2.2.1) (by assumption) | exact absurd (E4.out.2 k.2.2.2.1) (by assumption) | exact absurd (E5.out.2 k.2.2.2.2) (by assumption)

set_option maxHeartbeats 1000000 in
theorem rmay_any (p : Rc) (b : Bool) (w : World) (hb : b = true ↔ MayBe p) : Calls Tryd.prog 20 #[(.agg #[.int .u64 (p.q : Int), .int .u64 (p.h : Int), .int .i64 p.x, .int .u64 (p.g : Int), .int .u8 (p.m.toNat : Int)])] w fun e w' => e = .returned (.bool b) ∧ Below w.heap.size w w' := by
  obtain ⟨q, h, x, g, m⟩ := p
  have hm := m.toNat_lt
  obtain ⟨M, hM⟩ : ∃ M : Int, (m.toNat : Int) = M := ⟨_, rfl⟩
  obtain ⟨Q, hQ⟩ : ∃ M : Int, (q : Int) = M := ⟨_, rfl⟩
  obtain ⟨H, hH⟩ : ∃ M : Int, (h : Int) = M := ⟨_, rfl⟩
  obtain ⟨G, hG⟩ : ∃ M : Int, (g : Int) = M := ⟨_, rfl⟩
  have HB := Lib.hid hb
  clear hb
  have e1 : Q ≤ 4611686018427387904 ↔ isS q := by rw [← hQ]; unfold isS; omega
  have e2 : H ≤ 4611686018427387904 ↔ isS h := by rw [← hH]; unfold isS; omega
  have e3 : (1 ≤ G ∧ G ≤ 4611686018427387904) ↔ isG g := by rw [← hG]; unfold isG; omega
  have e4 : 0 < M ↔ 0 < m.toNat := by rw [← hM]; omega
  have E1 := Lib.hid e1
  have E2 := Lib.hid e2
  have E3 := Lib.hid e3
  have E4 := Lib.hid e4
  clear e1 e2 e3 e4
  dsimp only
  rw [hM, hQ, hH, hG]
  clear hM hQ hH hG hm
  by_cases c1 : Q ≤ 4611686018427387904
  · by_cases c2 : H ≤ 4611686018427387904
    · by_cases c3 : 0 ≤ x
      · by_cases c4 : x < 65536
        · by_cases c5 : 1 ≤ G
          · by_cases c6 : G ≤ 4611686018427387904
            · by_cases c7 : 0 < M
              · go_enter Tryd.func20, Tryd.ntmps20
                go_wp2
                go_ret
                exact ⟨bool_of HB.out ⟨E1.out.1 c1, E2.out.1 c2, ⟨c3, c4⟩, E3.out.1 ⟨c5, c6⟩, E4.out.1 c7⟩, balloc _ _⟩
              · go_enter Tryd.func20, Tryd.ntmps20
                go_wp2
                go_ret
                exact ⟨bool_not HB.out fun k => (by have := E4.out.2 k.2.2.2.2; omega), balloc _ _⟩
            · go_enter Tryd.func20, Tryd.ntmps20
              go_wp2
              go_ret
              exact ⟨bool_not HB.out fun k => (by have := (E3.out.2 k.2.2.2.1).2; omega), balloc _ _⟩
          · go_enter Tryd.func20, Tryd.ntmps20
            go_wp2
            go_ret
            exact ⟨bool_not HB.out fun k => (by have := (E3.out.2 k.2.2.2.1).1; omega), balloc _ _⟩
        · go_enter Tryd.func20, Tryd.ntmps20
          go_wp2
          go_ret
          exact ⟨bool_not HB.out fun k => (by have : x < 65536 := k.2.2.1.2; omega), balloc _ _⟩
      · go_enter Tryd.func20, Tryd.ntmps20
        go_wp2
        go_ret
        exact ⟨bool_not HB.out fun k => (by have : 0 ≤ x := k.2.2.1.1; omega), balloc _ _⟩
    · go_enter Tryd.func20, Tryd.ntmps20
      go_wp2
      go_ret
      exact ⟨bool_not HB.out fun k => (by have := E2.out.2 k.2.1; omega), balloc _ _⟩
  · go_enter Tryd.func20, Tryd.ntmps20
    go_wp2
    go_ret
    exact ⟨bool_not HB.out fun k => (by have := E1.out.2 k.1; omega), balloc _ _⟩
end Go.Proofs.YtckjnplaceaalaaDoor.W
