/-
  Contracts of the two functions that tell a digit's number. No conditions.
-/
import Derived.Test.YtkbnmgaelcajlaaDoorOctTake
namespace Go.Proofs.YtkbnmgaelcajlaaDoor.W
open Go.RowKit Oc
set_option linter.unusedVariables false

/-- the sixteen digits, as cells -/
def tabL : List Int := [48, 49, 50, 51, 52, 53, 54, 55, 56, 57, 97, 98, 99, 100, 101, 102]
def tabArr : Array Value := (tabL.map (Value.int .u8)).toArray
theorem tab_at {k : Nat} (h : k < 16) : tabArr[k]? = some (.int .u8 ((hexd k).toNat : Int)) := by
  have e : ∀ k : Fin 16, tabL[k.val]? = some ((hexd k.val).toNat : Int) := by decide
  have := e ⟨k, h⟩
  simp only at this
  unfold tabArr
  simp [this]
theorem tab_size : tabArr.size = 16 := rfl

/-- the table holds the digits -/
def Env (w : World) : Prop := ∃ t fr, w.heap[0]? = some (.cells tabArr t fr)
theorem Env.lt {w : World} (h : Env w) : 0 < w.heap.size := by
  obtain ⟨t, fr, hh⟩ := h
  rcases Nat.lt_or_ge 0 w.heap.size with h1 | h1
  · exact h1
  · rw [Array.getElem?_eq_none h1] at hh; cases hh
theorem Env.cell {w : World} (h : Env w) {k : Nat} (hk : k < 16) : w.cell? ⟨0, k, none⟩ = some (.int .u8 ((hexd k).toNat : Int)) := by
  obtain ⟨t, fr, hh⟩ := h
  rw [cell_of_row w _ k _ _ _ hh]
  exact tab_at hk
theorem Env.below {w w' : World} (h : Env w) (hb : Below w.heap.size w w') : Env w' := by
  have hl := h.lt
  obtain ⟨t, fr, hh⟩ := h
  exact ⟨t, fr, (hb.block _ hl).trans hh⟩
theorem Env.grown {w w' : World} {T : TypeId} {R : Nat} {xs : List UInt8} {g : Bool} (h : Env w) (hR : Rd w T R xs g) (hg : w.grownBy w' (some R)) : Env w' := by
  have hl := h.lt
  obtain ⟨t, fr, hh⟩ := h
  refine ⟨t, fr, (hg.block _ hl fun e => ?_).trans hh⟩
  injection e with e
  obtain ⟨A, c, hr, _⟩ := hR
  rw [← e, hh] at hr
  injection hr with hr
  injection hr with hr
  have := congrArg Array.size hr
  rw [tab_size] at this
  simp at this

theorem index_tab {k : Nat} (h : k < 16) (w : World) : (Instr.index 58 (.agg tabArr) (.int .i64 (k : Int))).run Tryd.prog w = .ok (.int .u8 ((hexd k).toNat : Int)) w := by
  have h1 : (0 : Int) ≤ k ∧ (k : Int) < 16 := by omega
  have hi : (Tryd.prog.info? 5).map (fun i => (i.zero, i.size, i.bytes)) = some (some (.int .u8 0), 1, 1) := bt.info
  obtain ⟨i, hi, hz0, hz1, hz2⟩ := info_parts hi
  have e := tab_at h
  simp [Instr.index, run_underlying Tryd.underlying58, asIntOf, h1, go_sem, sizeOf, typeInfo, hi, hz1, isAgg, run_underlying Tryd.underlying5]
  rw [if_pos h, e]
  rfl

theorem size_tab : (Tryd.prog.info? 58).map (·.size) = some tabArr.size := by kernel_rfl

theorem ret_dig {a : Int} {r : Nat} {g : Bool} (h : a = (r : Int)) : Ending.returned (.tuple #[.int .u8 a, .bool g]) = .returned (.tuple #[.int .u8 (r : Int), .bool g]) := by rw [h]
theorem ret_one {k : IntKind} {a b : Int} (h : a = b) : Ending.returned (.int k a) = .returned (.int k b) := by rw [h]

set_option maxHeartbeats 1000000 in
theorem digit_any (c : UInt8) (r : Nat) (g : Bool) (w : World) (he : Env w) (hr : dig c = if g then some r else none) (h0 : g = false → r = 0) :
    Calls Tryd.prog 30 #[.int .u8 (c.toNat : Int)] w fun e w' => e = .returned (.tuple #[.int .u8 (r : Int), .bool g]) ∧ w = w' := by
  have HE := Lib.hid he
  have HR := Lib.hid hr
  have H0 := Lib.hid h0
  obtain ⟨t, fr, hh⟩ := he
  have HH := Lib.hid hh
  clear hh hr h0
  go_enter Tryd.func30, Tryd.ntmps30
  go_wp2_with (refine wpList_load_row rfl 58 _ rfl _ rfl _ _ _ _ HH.out Tryd.underlying58 rfl size_tab ?_)
  go_loop [7] (fun q => ∃ j : Nat, j ≤ 16 ∧ q = .int .i64 j ∧ Hid (∀ i, i < j → hexd i ≠ c)) (fun q => 16 - (intOf q).toNat)
  case atStart => exact ⟨0, by omega, rfl, fun i hi => by omega⟩
  case round =>
    obtain ⟨j, hj, rfl, HJ⟩ := hrel
    by_cases hlt : j < 16
    · have hx := index_tab hlt
      by_cases hq : (hexd j).toNat = c.toNat
      · have e1 : hexd j = c := UInt8.toNat_inj.1 hq
        have e2 := dig_hexd hlt
        rw [e1, HR.out] at e2
        cases g
        · cases e2
        · have e3 : r = j := by simpa using e2
          subst e3
          clear e1 e2
          go_wp2
          go_ret2
          exact ⟨ret_dig (by omega), rfl⟩
      · go_wp2
        go_round
        case rel => exact ⟨j + 1, by omega, by go_num, fun i hi => by
          rcases Nat.lt_succ_iff_lt_or_eq.1 hi with h | h
          · exact HJ.out i h
          · subst h; intro e; exact hq (by rw [e])⟩
        case measure => simp [intOf]; omega
    · have : j = 16 := by omega
      subst this
      have hg : g = false := by
        cases g
        · rfl
        · have h1 := HR.out
          exact absurd (hexd_dig h1).symm (HJ.out r (dig_lt h1))
      subst hg
      have h2 := H0.out rfl
      subst h2
      go_wp2
      go_ret2
      exact ⟨rfl, rfl⟩

theorem digit_yes (c : UInt8) (k : Nat) (w : World) (he : Env w) (h : dig c = some k) :
    Calls Tryd.prog 30 #[.int .u8 (c.toNat : Int)] w fun e w' => e = .returned (.tuple #[.int .u8 (k : Int), .bool true]) ∧ w = w' := digit_any c k true w he h (fun h => by cases h)
theorem digit_no (c : UInt8) (w : World) (he : Env w) (h : dig c = none) :
    Calls Tryd.prog 30 #[.int .u8 (c.toNat : Int)] w fun e w' => e = .returned (.tuple #[.int .u8 0, .bool false]) ∧ w = w' := digit_any c 0 false w he h (fun _ => rfl)

theorem rdigit_yes (c : UInt8) (k : Nat) (w : World) (h : dig c = some k) :
    Calls Tryd.prog 31 #[.int .u8 (c.toNat : Int)] w fun e w' => e = .returned (.int .i64 (k : Int)) ∧ w = w' := by
  have hc := c.toNat_lt
  obtain ⟨y, ey⟩ : ∃ y, c.toNat = y := ⟨_, rfl⟩
  unfold dig at h
  rw [ey] at h hc ⊢
  clear ey
  split at h
  · rename_i h1
    have h2 : (k : Int) = (y : Int) - 48 := by injection h; omega
    obtain ⟨h3, h4⟩ := h1
    have H2 := Lib.hid h2
    clear h h2
    go_enter Tryd.func31, Tryd.ntmps31
    go_wp2
    go_ret
    exact ⟨ret_one H2.out.symm, rfl⟩
  · split at h
    · rename_i h0 h1
      have h2 : (k : Int) = (y : Int) - 97 + 10 := by injection h; omega
      obtain ⟨h3, h4⟩ := h1
      have H2 := Lib.hid h2
      have h5 : 57 < y := by omega
      clear h h2 h0
      go_enter Tryd.func31, Tryd.ntmps31
      go_wp2
      go_ret
      exact ⟨ret_one H2.out.symm, rfl⟩
    · cases h
theorem rdigit_no (c : UInt8) (w : World) (h : dig c = none) :
    Calls Tryd.prog 31 #[.int .u8 (c.toNat : Int)] w fun e w' => e = .returned (.int .i64 16) ∧ w = w' := by
  have hc := c.toNat_lt
  obtain ⟨y, ey⟩ : ∃ y, c.toNat = y := ⟨_, rfl⟩
  unfold dig at h
  rw [ey] at h hc ⊢
  clear ey
  split at h
  · cases h
  · split at h
    · cases h
    · rename_i h0 h1
      clear h
      by_cases a1 : 48 ≤ y
      · have a2 : 57 < y := by omega
        by_cases b1 : 97 ≤ y
        · have b2 : 102 < y := by omega
          clear h0 h1
          go_enter Tryd.func31, Tryd.ntmps31
          go_wp2
          go_ret
          exact ⟨rfl, rfl⟩
        · clear h0 h1
          go_enter Tryd.func31, Tryd.ntmps31
          go_wp2
          go_ret
          exact ⟨rfl, rfl⟩
      · have b1 : ¬ 97 ≤ y := by omega
        clear h0 h1
        go_enter Tryd.func31, Tryd.ntmps31
        go_wp2
        go_ret
        exact ⟨rfl, rfl⟩
end Go.Proofs.YtkbnmgaelcajlaaDoor.W
