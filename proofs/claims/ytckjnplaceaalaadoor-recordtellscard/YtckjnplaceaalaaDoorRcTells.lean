/-
  The walk of the statement on Follows and Names. No conditions.
-/
import Derived.Test.YtckjnplaceaalaaDoorRcPuts
namespace Go.Proofs.YtckjnplaceaalaaDoor.W
open Go.RowKit Oc Gt
set_option linter.unusedVariables false

theorem cells5e {w : World} {B : Nat} {v0 v1 v2 v3 v4 : Value} {T : TypeId} (h : w.heap[B]? = some (.cells #[v0, v1, v2, v3, v4] T (0, 0))) : w.cell? ⟨B, 0, none⟩ = some v0 ∧ w.cell? ⟨B, 1, none⟩ = some v1 ∧ w.cell? ⟨B, 2, none⟩ = some v2 ∧ w.cell? ⟨B, 3, none⟩ = some v3 ∧ w.cell? ⟨B, 4, none⟩ = some v4 := by
  refine ⟨?_, ?_, ?_, ?_, ?_⟩ <;> (rw [cell_of_row _ _ _ _ _ _ h]; rfl)

theorem yields_on {P : Program} {ops : Array Oper} {S : World → Prop} {i : Nat} {is : List Nat} {K : Act → Prop} {a : Act} {o : Oper} (v : Value) (ho : ops[i]? = some o) (hg : Region.wanted o (yielded ops a.tmps) = true) (hv : ∀ w, S w → (execOp a.eval o).run P w = .ok (.value v) w)
    (h : Taken P ops S is K (a.put o.dst v)) : Taken P ops S (i :: is) K a :=
  ⟨o, v, ho, .inl ⟨hg, hv⟩, h⟩
theorem yields_off {P : Program} {ops : Array Oper} {S : World → Prop} {i : Nat} {is : List Nat} {K : Act → Prop} {a : Act} {o : Oper} (ho : ops[i]? = some o) (hg : Region.wanted o (yielded ops a.tmps) = false)
    (h : Taken P ops S is K (a.put o.dst undef)) : Taken P ops S (i :: is) K a :=
  ⟨o, undef, ho, .inr ⟨hg, rfl⟩, h⟩
theorem gate_on {P : Program} {md : Region.Mode} {ops : Array Oper} {Q : Exit → Act → World → Prop} {S : World → Prop} {t : Nat} {i : Nat} {o : Oper} {fuel : Nat} {listed : Array Bool} {a : Act} {w : World} (hr : Region.ready md ops listed = [i]) (ho : ops[i]? = some o) (hg : Region.wanted o (yielded ops a.tmps) = true)
    (h : ∀ K : Act → World → Prop, (∀ a' w', (i ≠ t → S w') → Gate P md ops Q S t fuel (listed.setIfInBounds i true) a' w' → K a' w') → Oper.wp P o a w K Q) : Gate P md ops Q S t (fuel + 1) listed a w :=
  Gate.one hr ho fun K hK => by rw [if_pos hg]; exact h K hK

set_option maxRecDepth 100000 in
set_option maxHeartbeats 8000000 in
theorem tells_walk (a0 a1 a2 a3 a4 q h x i : Int) (w : World) (he : Env w) (b c : Bool) (hq : (a0 = q ∧ decide (h ≤ a1) = true ∧ b = true) ∨ (a0 = q ∧ decide (h ≤ a1) = false ∧ b = false) ∨ ((¬ a0 = q ∧ (a0 == q) = false ∧ decide (a0 = q) = false) ∧ b = false))
    (FA0 : ∀ y, Calls Tryd.prog 13 #[.agg #[.int .u64 a0, .int .u64 a1, .int .i64 a2, .int .u64 a3, .int .u8 a4], .int .u64 q, .int .u64 h] y fun e w' => e = .returned (.bool b) ∧ Below y.heap.size y w')
    (NA0 : ∀ y, Calls Tryd.prog 14 #[.agg #[.int .u64 a0, .int .u64 a1, .int .i64 a2, .int .u64 a3, .int .u8 a4], .int .i64 x, .int .i64 i] y fun e w' => e = .returned (.bool c) ∧ Below y.heap.size y w')
    (RA0 : ∀ y, Calls Tryd.prog 15 #[.agg #[.int .u64 a0, .int .u64 a1, .int .i64 a2, .int .u64 a3, .int .u8 a4], .int .i64 x, .int .i64 i] y fun e w' => e = .returned (.bool c) ∧ Below y.heap.size y w') :
    Calls Tryd.prog 5 #[.agg #[.int .u64 a0, .int .u64 a1, .int .i64 a2, .int .u64 a3, .int .u8 a4], .int .u64 q, .int .u64 h, .int .i64 x, .int .i64 i] w fun e w' => e = .returned (.bool true) ∧ Below w.heap.size w w' := by
  have HE := Lib.hid he
  obtain ⟨w0, hw0⟩ : ∃ w0, w0 = w.alloc (.cells #[.int .u64 a0, .int .u64 a1, .int .i64 a2, .int .u64 a3, .int .u8 a4] 24) := ⟨_, rfl⟩
  have X0 : Hid (w0.heap[w.heap.size]? = some (.cells #[.int .u64 a0, .int .u64 a1, .int .i64 a2, .int .u64 a3, .int .u8 a4] 24 (0, 0))) := by show _ = _; rw [hw0]; exact heap_alloc_new w _
  have B0 : Hid (Below w.heap.size w w0) := by show Below _ _ _; rw [hw0]; exact balloc _ _
  have W0 := Lib.hid hw0
  have FA := Lib.hid FA0
  have NA := Lib.hid NA0
  have RA := Lib.hid RA0
  have AA : Hid (∀ y, Below w.heap.size w y → Calls Tryd.prog 9 #[] y fun e w' => e = .returned (.bool true) ∧ Below y.heap.size y w') := fun y hy => awake_any y (HE.out.below hy)
  have Xd : w0.drew.heap[w.heap.size]? = some (.cells #[.int .u64 a0, .int .u64 a1, .int .i64 a2, .int .u64 a3, .int .u8 a4] 24 (0, 0)) := X0.out
  have XD := Lib.hid Xd
  have BD : Hid (Below w.heap.size w w0.drew) := below_drew1 B0.out
  clear he hw0 Xd FA0 NA0 RA0
  go_enter Tryd.func5, Tryd.ntmps5
  go_wp2_with fail
  rw [← W0.out]
  obtain ⟨x0, x1, x2, x3, x4⟩ := cells5e X0.out
  rcases hq with ⟨rfl, h2, rfl⟩ | ⟨rfl, h2, rfl⟩ | ⟨⟨h2, h3, h4⟩, rfl⟩
  · cases c
    all_goals go_region_held3 (fun w' => w'.cell? ⟨w.heap.size, 0, none⟩ = some (.int .u64 a0) ∧ w'.cell? ⟨w.heap.size, 1, none⟩ = some (.int .u64 a1) ∧ w'.cell? ⟨w.heap.size, 2, none⟩ = some (.int .i64 a2) ∧ w'.cell? ⟨w.heap.size, 3, none⟩ = some (.int .u64 a3) ∧ w'.cell? ⟨w.heap.size, 4, none⟩ = some (.int .u8 a4)) (first | go_keep | exact C1.out | exact C2.out | exact C3.out | exact C4.out) (first
        | (go_at_call 13; (with_reducible refine (FA.out w0.drew).mono ?_); rintro e w1 ⟨rfl, b1⟩; have X1 := Lib.hid (kept_below XD.out b1); have B1 := Lib.hid (bthen BD.out b1); have C1 := Lib.hid (cells5e X1.out); clear b1)
        | (go_at_call 14; (with_reducible refine (NA.out w1).mono ?_); rintro e w2 ⟨rfl, b2⟩; have X2 := Lib.hid (kept_below X1.out b2); have B2 := Lib.hid (bthen B1.out b2); have C2 := Lib.hid (cells5e X2.out); clear b2)
        | (go_at_call 15; (with_reducible refine (RA.out w2).mono ?_); rintro e w3 ⟨rfl, b3⟩; have X3 := Lib.hid (kept_below X2.out b3); have B3 := Lib.hid (bthen B2.out b3); have C3 := Lib.hid (cells5e X3.out); clear b3)
        | (go_at_call 9; (with_reducible refine (AA.out w3 B3.out).mono ?_); rintro e w4 ⟨rfl, b4⟩; have X4 := Lib.hid (kept_below X3.out b4); have B4 := Lib.hid (bthen B3.out b4); have C4 := Lib.hid (cells5e X4.out); clear b4))
    all_goals go_wp2
    all_goals go_ret
    all_goals exact ⟨rfl, B4.out⟩
  · cases c
    all_goals go_region_held3 (fun w' => w'.cell? ⟨w.heap.size, 0, none⟩ = some (.int .u64 a0) ∧ w'.cell? ⟨w.heap.size, 1, none⟩ = some (.int .u64 a1) ∧ w'.cell? ⟨w.heap.size, 2, none⟩ = some (.int .i64 a2) ∧ w'.cell? ⟨w.heap.size, 3, none⟩ = some (.int .u64 a3) ∧ w'.cell? ⟨w.heap.size, 4, none⟩ = some (.int .u8 a4)) (first | go_keep | exact C1.out | exact C2.out | exact C3.out | exact C4.out) (first
        | (go_at_call 13; (with_reducible refine (FA.out w0.drew).mono ?_); rintro e w1 ⟨rfl, b1⟩; have X1 := Lib.hid (kept_below XD.out b1); have B1 := Lib.hid (bthen BD.out b1); have C1 := Lib.hid (cells5e X1.out); clear b1)
        | (go_at_call 14; (with_reducible refine (NA.out w1).mono ?_); rintro e w2 ⟨rfl, b2⟩; have X2 := Lib.hid (kept_below X1.out b2); have B2 := Lib.hid (bthen B1.out b2); have C2 := Lib.hid (cells5e X2.out); clear b2)
        | (go_at_call 15; (with_reducible refine (RA.out w2).mono ?_); rintro e w3 ⟨rfl, b3⟩; have X3 := Lib.hid (kept_below X2.out b3); have B3 := Lib.hid (bthen B2.out b3); have C3 := Lib.hid (cells5e X3.out); clear b3)
        | (go_at_call 9; (with_reducible refine (AA.out w3 B3.out).mono ?_); rintro e w4 ⟨rfl, b4⟩; have X4 := Lib.hid (kept_below X3.out b4); have B4 := Lib.hid (bthen B3.out b4); have C4 := Lib.hid (cells5e X4.out); clear b4))
    all_goals go_wp2
    all_goals go_ret
    all_goals exact ⟨rfl, B4.out⟩
  · refine gate (fun x => x.heap[w.heap.size]? = some (.cells #[.int .u64 a0, .int .u64 a1, .int .i64 a2, .int .u64 a3, .int .u8 a4] 24 (0, 0))) 29 [0, 1, 2, 4, 5, 6, 7] 23 (by kernel_rfl) (by kernel_rfl) (by kernel_rfl) rfl ?_ XD.out ?_
    · intro d v c a w h
      cases d <;> exact h
    refine yields_step (.agg #[.int .u64 a0, .int .u64 a1, .int .i64 a2, .int .u64 a3, .int .u8 a4]) rfl rfl ?_ ?_
    · intro x hS; exact exec_ld rfl (by go_simp) (run_load5 rfl hS)
    refine yields_step ?_ rfl rfl ?_ ?_
    rotate_left
    · intro x hS; go_simp; rfl
    refine yields_step ?_ rfl rfl ?_ ?_
    rotate_left
    · intro x hS; go_simp; rfl
    refine yields_step ?_ rfl rfl ?_ ?_
    rotate_left
    · intro x hS; go_simp; rfl
    refine yields_step (.int .u64 a0) rfl rfl ?_ ?_
    · intro x hS; have c0 := (cells5e hS).1; go_simp
    refine yields_step ?_ rfl rfl ?_ ?_
    rotate_left
    · intro x hS; go_simp; rfl
    refine yields_step (.bool false) rfl rfl ?_ ?_
    · intro x hS; go_simp
    refine Gate.next (i := 3) (by kernel_rfl) rfl rfl (fun K hK => ?_)
    go_simp
    refine (FA.out w0.drew).mono ?_; rintro e w1 ⟨rfl, b1⟩
    have X1 := Lib.hid (kept_below XD.out b1)
    have B1 := Lib.hid (bthen BD.out b1)
    refine hK _ _ (fun _ => X1.out) ?_
    clear hK K b1
    refine Gate.takes (P := Tryd.prog) (t := 29) (by kernel_rfl) (fun d v c a w h => by cases d <;> exact h) X1.out [8, 9, 10, 11, 12, 13, 14, 15, 16, 17, 18, 20, 21, 22] 8 _ _ (by kernel_rfl) ?_
    refine yields_step (.bool false) rfl rfl ?_ ?_
    · intro x hS; go_simp
    refine yields_off rfl (by kernel_rfl) ?_
    refine yields_off rfl (by kernel_rfl) ?_
    refine yields_off rfl (by kernel_rfl) ?_
    refine yields_off rfl (by kernel_rfl) ?_
    refine yields_step (.bool false) rfl rfl ?_ ?_
    · intro x hS; go_simp
    refine yields_step (.bool true) rfl rfl ?_ ?_
    · intro x hS; go_simp
    refine yields_step (.bool true) rfl rfl ?_ ?_
    · intro x hS; go_simp
    refine yields_on (.agg #[.int .u64 a0, .int .u64 a1, .int .i64 a2, .int .u64 a3, .int .u8 a4]) rfl (by kernel_rfl) ?_ ?_
    · intro x hS; exact exec_ld rfl (by go_simp) (run_load5 rfl hS)
    refine yields_on ?_ rfl (by kernel_rfl) ?_ ?_
    rotate_left
    · intro x hS; go_simp; rfl
    refine yields_on ?_ rfl (by kernel_rfl) ?_ ?_
    rotate_left
    · intro x hS; go_simp; rfl
    refine yields_on (.agg #[.int .u64 a0, .int .u64 a1, .int .i64 a2, .int .u64 a3, .int .u8 a4]) rfl (by kernel_rfl) ?_ ?_
    · intro x hS; exact exec_ld rfl (by go_simp) (run_load5 rfl hS)
    refine yields_on ?_ rfl (by kernel_rfl) ?_ ?_
    rotate_left
    · intro x hS; go_simp; rfl
    refine yields_on ?_ rfl (by kernel_rfl) ?_ ?_
    rotate_left
    · intro x hS; go_simp; rfl
    refine gate_on (i := 19) (by kernel_rfl) rfl (by kernel_rfl) (fun K hK => ?_)
    go_simp
    refine (NA.out w1).mono ?_; rintro e w2 ⟨rfl, b2⟩
    have X2 := Lib.hid (kept_below X1.out b2)
    have B2 := Lib.hid (bthen B1.out b2)
    refine hK _ _ (fun _ => X2.out) ?_
    clear hK K b2
    refine gate_on (i := 23) (by kernel_rfl) rfl (by kernel_rfl) (fun K hK => ?_)
    go_simp
    refine (RA.out w2).mono ?_; rintro e w3 ⟨rfl, b3⟩
    have X3 := Lib.hid (kept_below X2.out b3)
    have B3 := Lib.hid (bthen B2.out b3)
    refine hK _ _ (fun _ => X3.out) ?_
    clear hK K b3
    refine Gate.takes (P := Tryd.prog) (t := 29) (by kernel_rfl) (fun d v c a w h => by cases d <;> exact h) X3.out [24, 25, 26] 3 _ _ (by kernel_rfl) ?_
    refine yields_on (.bool true) rfl (by kernel_rfl) ?_ ?_
    · intro x hS; go_simp
    refine yields_step (.bool true) rfl rfl ?_ ?_
    · intro x hS; go_simp
    refine yields_step (.bool true) rfl rfl ?_ ?_
    · intro x hS; go_simp
    refine gate_on (i := 27) (by kernel_rfl) rfl (by kernel_rfl) (fun K hK => ?_)
    go_simp
    refine (AA.out w3 B3.out).mono ?_; rintro e w4 ⟨rfl, b4⟩
    have X4 := Lib.hid (kept_below X3.out b4)
    have B4 := Lib.hid (bthen B3.out b4)
    refine hK _ _ (fun _ => X4.out) ?_
    clear hK K b4
    refine Gate.takes (P := Tryd.prog) (t := 29) (by kernel_rfl) (fun d v c a w h => by cases d <;> exact h) X4.out [28] 1 _ _ (by kernel_rfl) ?_
    refine yields_step (.bool true) rfl rfl ?_ ?_
    · intro x hS; go_simp
    refine Gate.next (i := 29) (by kernel_rfl) rfl rfl (fun K hK => ?_)
    go_simp
    refine hK _ _ (fun h => absurd rfl h) ?_
    clear hK K
    refine Gate.done (by kernel_rfl) ?_
    go_wp2
    go_ret
    exact ⟨rfl, B4.out⟩

theorem tells_law (w : World) (p : Rc) (q : Int) (hq : (Lit.int .u64 q).wf = true) (h : Int) (hh : (Lit.int .u64 h).wf = true) (x : Int) (hx : (Lit.int .i64 x).wf = true) (i : Int) (hi : (Lit.int .i64 i).wf = true) (he : Env w) :
    Calls Tryd.prog 5 #[(.agg #[.int .u64 (p.q : Int), .int .u64 (p.h : Int), .int .i64 p.x, .int .u64 (p.g : Int), .int .u8 (p.m.toNat : Int)]), .int .u64 q, .int .u64 h, .int .i64 x, .int .i64 i] w fun e w' => e = .returned (.bool true) ∧ Below w.heap.size w w' := by
  obtain ⟨Q, rfl⟩ : ∃ N : Nat, q = (N : Int) := ⟨q.toNat, by
    simp [Lit.wf, IntKind.min, IntKind.max, IntKind.signed, IntKind.bits] at hq
    omega⟩
  obtain ⟨H, rfl⟩ : ∃ N : Nat, h = (N : Int) := ⟨h.toNat, by
    simp [Lit.wf, IntKind.min, IntKind.max, IntKind.signed, IntKind.bits] at hh
    omega⟩
  obtain ⟨c, hc⟩ : ∃ c : Bool, (c = true ↔ Named p x i) := by
    by_cases k : Named p x i
    · exact ⟨true, fun _ => k, fun _ => rfl⟩
    · exact ⟨false, fun k2 => (by cases k2), fun k2 => absurd k2 k⟩
  refine tells_walk (p.q : Int) (p.h : Int) p.x (p.g : Int) (p.m.toNat : Int) (Q : Int) (H : Int) x i w he (decide (p.q = Q) && decide (H ≤ p.h)) c ?_ (fun y => follows_any p Q H _ y rfl) (fun y => names_any p x i c y hc) (fun y => rnames_any p x i c y hc)
  by_cases h1 : p.q = Q
  · by_cases h2 : H ≤ p.h
    · exact .inl ⟨by rw [h1], by simp; omega, by simp [h1, h2]⟩
    · exact .inr (.inl ⟨by rw [h1], by simp; omega, by simp [h2]⟩)
  · exact .inr (.inr ⟨⟨by omega, by simp; omega, by simp; omega⟩, by simp [h1]⟩)
end Go.Proofs.YtckjnplaceaalaaDoor.W
