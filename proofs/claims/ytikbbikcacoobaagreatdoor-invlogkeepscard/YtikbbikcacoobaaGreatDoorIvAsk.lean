/-
  What is asked of a log: isMade, First, Next, Epoch, Room; Cut, Begin. No conditions.
-/
import Derived.Test.YtikbbikcacoobaaGreatDoorIvMem
import Derived.BigQuiet
import Derived.Deep.RegionHeld
import Derived.Deep.DrawnRows
namespace Go.Proofs.YtikbbikcacoobaaGreatDoor.Pd.Iv
open Go.RowKit Oc Dm W Dw Sr
set_option linter.unusedVariables false
set_option maxRecDepth 100000
attribute [local go_sem ↓] Go.wp_at_zero Go.wp_at_succ

theorem made_nil (w : World) : Calls Tryz.prog 46 #[.pointer none] w fun e w' => e = .returned (.bool false) ∧ w = w' := by
  go_enter Tryz.func46, Tryz.ntmps46
  go_wp2
  go_ret
  exact ⟨rfl, rfl⟩
theorem made_odd (w : World) (T : Nat) (c0 : w.cell? ⟨T, 0, none⟩ = some (.pointer none)) : Calls Tryz.prog 46 #[.pointer (some ⟨T, 0, none⟩)] w fun e w' => e = .returned (.bool false) ∧ w = w' := by
  go_enter Tryz.func46, Tryz.ntmps46
  go_wp2
  go_ret
  exact ⟨rfl, rfl⟩
/-- what is told of a log that nobody made -/
def Odd (w : World) (x : Value) : Prop := x = .pointer none ∨ ∃ T, x = .pointer (some ⟨T, 0, none⟩) ∧ w.cell? ⟨T, 0, none⟩ = some (.pointer none)
theorem made_not {w : World} {x : Value} (h : Odd w x) : Calls Tryz.prog 46 #[x] w fun e w' => e = .returned (.bool false) ∧ w = w' := by
  rcases h with rfl | ⟨T, rfl, c⟩
  · exact made_nil w
  · exact made_odd w T c
theorem first_not {w : World} {x : Value} (h : Odd w x) : Calls Tryz.prog 15 #[x] w fun e w' => e = .returned (.int .u64 0) ∧ w = w' := by
  have H := Lib.hid h
  clear h
  go_enter Tryz.func15, Tryz.ntmps15
  go_wp2_with fail
  refine (made_not H.out).mono ?_; rintro e w' ⟨rfl, rfl⟩
  go_wp2
  go_ret
  exact ⟨rfl, rfl⟩
theorem next_not {w : World} {x : Value} (h : Odd w x) : Calls Tryz.prog 11 #[x] w fun e w' => e = .returned (.int .u64 0) ∧ w = w' := by
  have H := Lib.hid h
  clear h
  go_enter Tryz.func11, Tryz.ntmps11
  go_wp2_with fail
  refine (made_not H.out).mono ?_; rintro e w' ⟨rfl, rfl⟩
  go_wp2
  go_ret
  exact ⟨rfl, rfl⟩
theorem epoch_not {w : World} {x : Value} (h : Odd w x) : Calls Tryz.prog 12 #[x] w fun e w' => e = .returned (.int .u64 0) ∧ w = w' := by
  have H := Lib.hid h
  clear h
  go_enter Tryz.func12, Tryz.ntmps12
  go_wp2_with fail
  refine (made_not H.out).mono ?_; rintro e w' ⟨rfl, rfl⟩
  go_wp2
  go_ret
  exact ⟨rfl, rfl⟩
theorem room_not {w : World} {x : Value} (h : Odd w x) : Calls Tryz.prog 25 #[x] w fun e w' => e = .returned (.int .i64 0) ∧ w = w' := by
  have H := Lib.hid h
  clear h
  go_enter Tryz.func25, Tryz.ntmps25
  go_wp2_with fail
  refine (made_not H.out).mono ?_; rintro e w' ⟨rfl, rfl⟩
  go_wp2
  go_ret
  exact ⟨rfl, rfl⟩
theorem append_not {w : World} {x : Value} (h : Odd w x) (u v y : Value) : Calls Tryz.prog 13 #[x, u, v, y] w fun e w' => e = .returned (.int .i64 2) ∧ w = w' := by
  have H := Lib.hid h
  clear h
  go_enter Tryz.func13, Tryz.ntmps13
  go_wp2_with fail
  refine (made_not H.out).mono ?_; rintro e w' ⟨rfl, rfl⟩
  go_wp2
  go_ret
  exact ⟨rfl, rfl⟩
theorem cut_not {w : World} {x : Value} (h : Odd w x) (u : Value) : Calls Tryz.prog 14 #[x, u] w fun e w' => e = .returned (.bool false) ∧ w = w' := by
  have H := Lib.hid h
  clear h
  go_enter Tryz.func14, Tryz.ntmps14
  go_wp2_with fail
  refine (made_not H.out).mono ?_; rintro e w' ⟨rfl, rfl⟩
  go_wp2
  go_ret
  exact ⟨rfl, rfl⟩
theorem begin_not {w : World} {x : Value} (h : Odd w x) (u : Value) : Calls Tryz.prog 16 #[x, u] w fun e w' => e = .returned (.bool false) ∧ w = w' := by
  have H := Lib.hid h
  clear h
  go_enter Tryz.func16, Tryz.ntmps16
  go_wp2_with fail
  refine (made_not H.out).mono ?_; rintro e w' ⟨rfl, rfl⟩
  go_wp2
  go_ret
  exact ⟨rfl, rfl⟩
section
variable {w w' : World} {F : Nat → Prop} {T D la lg n B : Nat} {p : Pn.Pl} {g : Lg} {TT : TypeId}
theorem made_any (h : LgAt w TT T D p g) : Calls Tryz.prog 46 #[.pointer (some ⟨T, 0, none⟩)] w fun e w' => e = .returned (.bool true) ∧ w = w' := by
  obtain ⟨c0, c14, c15, c16, fr⟩ := h.cells
  clear h c14 c15 c16
  go_enter Tryz.func46, Tryz.ntmps46
  go_wp2
  go_ret
  exact ⟨rfl, rfl⟩
theorem first_any (h : LgAt w TT T D p g) : Calls Tryz.prog 15 #[.pointer (some ⟨T, 0, none⟩)] w fun e w' => e = .returned (.int .u64 (g.f : Int)) ∧ w = w' := by
  have H := Lib.hid h
  obtain ⟨c0, c14, c15, c16, fr⟩ := h.cells
  clear h c15 c16
  go_enter Tryz.func15, Tryz.ntmps15
  go_wp2_with fail
  refine (made_any H.out).mono ?_; rintro e w' ⟨rfl, rfl⟩
  go_wp2
  go_ret
  exact ⟨rfl, rfl⟩
theorem next_any (h : LgAt w TT T D p g) : Calls Tryz.prog 11 #[.pointer (some ⟨T, 0, none⟩)] w fun e w' => e = .returned (.int .u64 (g.nx : Int)) ∧ w = w' := by
  have H := Lib.hid h
  obtain ⟨c0, c14, c15, c16, fr⟩ := h.cells
  clear h c14 c16
  go_enter Tryz.func11, Tryz.ntmps11
  go_wp2_with fail
  refine (made_any H.out).mono ?_; rintro e w' ⟨rfl, rfl⟩
  go_wp2
  go_ret
  exact ⟨rfl, rfl⟩
theorem epoch_any (h : LgAt w TT T D p g) : Calls Tryz.prog 12 #[.pointer (some ⟨T, 0, none⟩)] w fun e w' => e = .returned (.int .u64 (g.ep : Int)) ∧ w = w' := by
  have H := Lib.hid h
  obtain ⟨c0, c14, c15, c16, fr⟩ := h.cells
  clear h c14 c15
  go_enter Tryz.func12, Tryz.ntmps12
  go_wp2_with fail
  refine (made_any H.out).mono ?_; rintro e w' ⟨rfl, rfl⟩
  go_wp2
  go_ret
  exact ⟨rfl, rfl⟩
theorem size_any (p : Pn.Pl) (v : Value) (w : World) : Calls Tryz.prog 58 #[.agg #[v, .int .i64 p.a0, .int .i64 p.a1, .int .i64 p.a2, .int .i64 p.a3, .int .i64 p.a4, .int .i64 p.a5, .int .i64 p.a6, .int .i64 p.a7, .int .i64 p.a8, .int .i64 p.a9, .int .i64 p.a10, .int .i64 p.a11, .int .i64 p.a12]] w fun e w' => e = .returned (.int .i64 p.a7) ∧ Below w.heap.size w w' := by
  go_enter Tryz.func58, Tryz.ntmps58
  go_wp2_with fail
  refine (Pn.plan_any p _).mono ?_; rintro e w1 ⟨rfl, b1⟩
  have B1 := Lib.hid (bthen (balloc w _) b1)
  have hf := field_7 p w1
  clear b1
  go_wp2
  go_ret
  exact ⟨rfl, B1.out⟩
theorem cut_yes (h : LgAt w 101 T D p g) (t : Nat) (ht : t < 18446744073709551616) (hc : g.f ≤ t ∧ t ≤ g.nx) : Calls Tryz.prog 14 #[.pointer (some ⟨T, 0, none⟩), .int .u64 (t : Int)] w fun e w' => e = .returned (.bool true) ∧ LgAt w' 101 T D p ⟨t, g.nx, g.ep⟩ ∧ w.grownBy w' (some T) := by
  have H := Lib.hid h
  obtain ⟨c0, c14, c15, c16, fr⟩ := h.cells
  have h1 : ¬ (t : Int) < (g.f : Int) := by omega
  have h2 : ¬ (g.nx : Int) < (t : Int) := by omega
  clear h c16 c0 hc
  go_enter Tryz.func14, Tryz.ntmps14
  go_wp2_with fail
  refine (made_any H.out).mono ?_; rintro e w' ⟨rfl, rfl⟩
  go_wp2
  go_ret
  exact ⟨rfl, H.out.set_f t, grown_set _ _ _ _⟩
theorem cut_no (h : LgAt w 101 T D p g) (t : Nat) (hc : ¬ (g.f ≤ t ∧ t ≤ g.nx)) : Calls Tryz.prog 14 #[.pointer (some ⟨T, 0, none⟩), .int .u64 (t : Int)] w fun e w' => e = .returned (.bool false) ∧ w = w' := by
  have H := Lib.hid h
  obtain ⟨c0, c14, c15, c16, fr⟩ := h.cells
  by_cases hh : g.f ≤ t
  · have h1 : ¬ (t : Int) < (g.f : Int) := by omega
    have h2 : (g.nx : Int) < (t : Int) := by omega
    clear h c16 c0 hc hh
    go_enter Tryz.func14, Tryz.ntmps14
    go_wp2_with fail
    refine (made_any H.out).mono ?_; rintro e w' ⟨rfl, rfl⟩
    go_wp2
    go_ret
    exact ⟨rfl, rfl⟩
  · have h1 : (t : Int) < (g.f : Int) := by omega
    clear h c16 c0 hc hh
    go_enter Tryz.func14, Tryz.ntmps14
    go_wp2_with fail
    refine (made_any H.out).mono ?_; rintro e w' ⟨rfl, rfl⟩
    go_wp2
    go_ret
    exact ⟨rfl, rfl⟩
theorem beg_yes (h : LgAt w 101 T D p g) (t : Nat) (hc : g.ep ≤ t ∧ t ≤ most) : Calls Tryz.prog 16 #[.pointer (some ⟨T, 0, none⟩), .int .u64 (t : Int)] w fun e w' => e = .returned (.bool true) ∧ LgAt w' 101 T D p ⟨g.f, g.nx, t⟩ ∧ w.grownBy w' (some T) := by
  have H := Lib.hid h
  obtain ⟨c0, c14, c15, c16, fr⟩ := h.cells
  have h1 : ¬ (t : Int) < (g.ep : Int) := by omega
  have h2 : ¬ (4611686014132420608 : Int) < (t : Int) := by have := hc.2; unfold most at this; omega
  have h3 : t < 18446744073709551616 := by omega
  clear h c14 c15 c0 hc
  go_enter Tryz.func16, Tryz.ntmps16
  go_wp2_with fail
  refine (made_any H.out).mono ?_; rintro e w' ⟨rfl, rfl⟩
  go_wp2
  go_ret
  exact ⟨rfl, H.out.set_e t, grown_set _ _ _ _⟩
theorem beg_no (h : LgAt w 101 T D p g) (t : Nat) (hc : ¬ (g.ep ≤ t ∧ t ≤ most)) : Calls Tryz.prog 16 #[.pointer (some ⟨T, 0, none⟩), .int .u64 (t : Int)] w fun e w' => e = .returned (.bool false) ∧ w = w' := by
  have H := Lib.hid h
  obtain ⟨c0, c14, c15, c16, fr⟩ := h.cells
  by_cases hh : g.ep ≤ t
  · have h1 : ¬ (t : Int) < (g.ep : Int) := by omega
    have h2 : (4611686014132420608 : Int) < (t : Int) := by unfold most at hc; omega
    clear h c14 c15 c0 hc hh
    go_enter Tryz.func16, Tryz.ntmps16
    go_wp2_with fail
    refine (made_any H.out).mono ?_; rintro e w' ⟨rfl, rfl⟩
    go_wp2
    go_ret
    exact ⟨rfl, rfl⟩
  · have h1 : (t : Int) < (g.ep : Int) := by omega
    clear h c14 c15 c0 hc hh
    go_enter Tryz.func16, Tryz.ntmps16
    go_wp2_with fail
    refine (made_any H.out).mono ?_; rintro e w' ⟨rfl, rfl⟩
    go_wp2
    go_ret
    exact ⟨rfl, rfl⟩
/-- how many more there may be -/
def room (lg : Nat) (g : Lg) : Int := (lg : Int) - ((g.nx - g.f : Nat) : Int)
set_option maxHeartbeats 1000000 in
theorem room_any (h : LgAt w TT T D p g) (hp : Pln p la lg n) (hg : GOk B lg g) : Calls Tryz.prog 25 #[.pointer (some ⟨T, 0, none⟩)] w fun e w' => e = .returned (.int .i64 (room lg g)) ∧ Below w.heap.size w w' := by
  have H := Lib.hid h
  have H7 : Hid (p.a7 = (lg : Int)) := hp.h7
  obtain ⟨d, hd⟩ : ∃ d, g.nx - g.f = d := ⟨_, rfl⟩
  have h1 := hg.h1
  have h2 := hg.h2
  have hl := hp.hl2
  have hd2 : (g.nx : Int) - (g.f : Int) = (d : Int) := by omega
  have E1 : Hid (IntKind.u64.wrap (d : Int) = (d : Int)) := IntWalk.u64_in _ ⟨by omega, by omega⟩
  have E2 : Hid (IntKind.i64.wrap (d : Int) = (d : Int)) := IntWalk.i64_in _ ⟨by omega, by omega⟩
  have E3 : Hid (IntKind.i64.wrap ((lg : Int) - (d : Int)) = room lg g) := by show _ = _; unfold room; rw [hd]; exact IntWalk.i64_in _ ⟨by omega, by omega⟩
  have hdl : d ≤ 256 := by omega
  clear h hp hg hd
  go_enter Tryz.func25, Tryz.ntmps25
  go_wp2_with fail
  refine (made_any H.out).mono ?_; rintro e w' ⟨rfl, rfl⟩
  go_wp2_with fail
  have CS : Hid (∀ x : World, LgAt x TT T D p g → x.cell? ⟨T, 0, none⟩ = some (.pointer (some ⟨D, 0, none⟩)) ∧ x.cell? ⟨T, 1, none⟩ = some (.int .i64 p.a0) ∧ x.cell? ⟨T, 2, none⟩ = some (.int .i64 p.a1) ∧ x.cell? ⟨T, 3, none⟩ = some (.int .i64 p.a2) ∧ x.cell? ⟨T, 4, none⟩ = some (.int .i64 p.a3) ∧ x.cell? ⟨T, 5, none⟩ = some (.int .i64 p.a4) ∧ x.cell? ⟨T, 6, none⟩ = some (.int .i64 p.a5) ∧ x.cell? ⟨T, 7, none⟩ = some (.int .i64 p.a6) ∧ x.cell? ⟨T, 8, none⟩ = some (.int .i64 p.a7) ∧ x.cell? ⟨T, 9, none⟩ = some (.int .i64 p.a8) ∧ x.cell? ⟨T, 10, none⟩ = some (.int .i64 p.a9) ∧ x.cell? ⟨T, 11, none⟩ = some (.int .i64 p.a10) ∧ x.cell? ⟨T, 12, none⟩ = some (.int .i64 p.a11) ∧ x.cell? ⟨T, 13, none⟩ = some (.int .i64 p.a12) ∧ x.cell? ⟨T, 14, none⟩ = some (.int .u64 (g.f : Int)) ∧ x.cell? ⟨T, 15, none⟩ = some (.int .u64 (g.nx : Int))) := fun x H => ⟨H.cell 0 rfl, H.cell 1 rfl, H.cell 2 rfl, H.cell 3 rfl, H.cell 4 rfl, H.cell 5 rfl, H.cell 6 rfl, H.cell 7 rfl, H.cell 8 rfl, H.cell 9 rfl, H.cell 10 rfl, H.cell 11 rfl, H.cell 12 rfl, H.cell 13 rfl, H.cell 14 rfl, H.cell 15 rfl⟩
  obtain ⟨c0, c1, c2, c3, c4, c5, c6, c7, c8, c9, c10, c11, c12, c13, c14, c15⟩ := CS.out _ H.out
  go_region_held (fun x => x.cell? ⟨T, 0, none⟩ = some (.pointer (some ⟨D, 0, none⟩)) ∧ x.cell? ⟨T, 1, none⟩ = some (.int .i64 p.a0) ∧ x.cell? ⟨T, 2, none⟩ = some (.int .i64 p.a1) ∧ x.cell? ⟨T, 3, none⟩ = some (.int .i64 p.a2) ∧ x.cell? ⟨T, 4, none⟩ = some (.int .i64 p.a3) ∧ x.cell? ⟨T, 5, none⟩ = some (.int .i64 p.a4) ∧ x.cell? ⟨T, 6, none⟩ = some (.int .i64 p.a5) ∧ x.cell? ⟨T, 7, none⟩ = some (.int .i64 p.a6) ∧ x.cell? ⟨T, 8, none⟩ = some (.int .i64 p.a7) ∧ x.cell? ⟨T, 9, none⟩ = some (.int .i64 p.a8) ∧ x.cell? ⟨T, 10, none⟩ = some (.int .i64 p.a9) ∧ x.cell? ⟨T, 11, none⟩ = some (.int .i64 p.a10) ∧ x.cell? ⟨T, 12, none⟩ = some (.int .i64 p.a11) ∧ x.cell? ⟨T, 13, none⟩ = some (.int .i64 p.a12) ∧ x.cell? ⟨T, 14, none⟩ = some (.int .u64 (g.f : Int)) ∧ x.cell? ⟨T, 15, none⟩ = some (.int .u64 (g.nx : Int))) (first | go_keep | exact CS.out _ H1.out)
    (first
      | (go_at_call 58; (with_reducible refine (size_any p _ _).mono ?_); rintro e w1 ⟨rfl, b1⟩; rw [H7.out]; have B1 : Hid (Below w.heap.size w w1) := bthen (bdrew _) b1; have H1 := Lib.hid (H.out.below B1.out); clear b1))
  all_goals
    go_wp2
    go_ret
    refine ⟨?_, B1.out⟩
    show Ending.returned (.int .i64 (IntKind.i64.wrap ((lg : Int) - IntKind.i64.wrap (IntKind.u64.wrap (d : Int))))) = _
    rw [E1.out, E2.out, E3.out]
end
end Go.Proofs.YtikbbikcacoobaaGreatDoor.Pd.Iv
