/-
  A call on both pairs: Rot, Fuse. No conditions.
-/
import Derived.Test.YtdkniholeaiemaaDvDoKit
import Derived.Deep.RegionHeld
import Derived.Deep.DrawnRows
namespace Go.Proofs.Ytdkniholeaiemaa.W
open Go.RowKit Oc Dm Gt Tn
set_option linter.unusedVariables false
set_option maxRecDepth 100000
attribute [local go_sem ↓] Go.wp_at_zero Go.wp_at_succ
section
variable {o : Nat → Nat} {w : World} {T p q : Nat} {D E ns : Nat → Nat} {N : Nat} {s : PS} {d : Nat → DD}
set_option maxHeartbeats 8000000 in
theorem do4a (h : Mid o w T p q D E ns N s d s d) (hN : N + 1 ≤ 1000000) (k : Nat) (hk : k < 2) (z1 z2 z3 z4 z6 z7 z8 z9 : Int) (u : Value) (tn : Nat) (h5 : tn < 4294967296) (hrem : z1.tmod 2 = (k : Int)) :
    Calls Try.prog 8 #[.pointer (some ⟨T, 0, none⟩), .agg #[.int .i64 4, .int .i64 z1, .int .i64 z2, .int .i64 z3, .int .i64 z4, .int .u32 (tn : Int), .int .u64 z6, .int .u64 z7, .int .u8 z8, .int .i64 z9, u]] w fun e w' => e = .returned (.bool true) ∧ After o w T ns (N + 1) w' := by
  have H := Lib.hid h
  obtain ⟨v, d', hw⟩ := rot_way (ns k) (d k) z2 z4 tn
  have HW := Lib.hid hw
  have HFL : Hid (∀ i, i < ns k → ((d k).S i).fixed.length = 64) := fun i hi => ((H.out.secs hk).2 i hi).2
  clear hw
  clear h
  go_enter Try.func8, Try.ntmps8
  go_wp2_with ((with_reducible refine L_boxAct (cs := #[.int .i64 4, .int .i64 z1, .int .i64 z2, .int .i64 z3, .int .i64 z4, .int .u32 (tn : Int), .int .u64 z6, .int .u64 z7, .int .u8 z8, .int .i64 z9, u]) ?_ ?_); exact rfl; intro w1 b1 bx1; have M1 := Lib.hid (H.out.below b1); have X1 := Lib.hid (Ex.of_below (o := o) b1); have BX1 := Lib.hid (bx1 o H.out.lt); have a0 := BX1.out.cells 0 _ rfl; have a1 := BX1.out.cells 1 _ rfl; obtain ⟨t0, t3, tk, tf⟩ := M1.out.cells; obtain ⟨tD, tE⟩ := tk k hk; clear b1 bx1 tk)
  have hk2 : (k : Int) < 2 := by omega
  go_quiet (fail)
  have M2 := Lib.hid (M1.out.drewN nq)
  have X2 := Lib.hid (X1.out.trans (Ex.drewN o w1 nq))
  have BX2 := Lib.hid (BX1.out.ex (Ex.drewN o w1 nq))
  generalize w1.drewN nq = w2 at M2 X2 BX2 ⊢
  clear M1 X1 BX1 a0 a1 t0 t3 tf tD tE
  have a0 := BX2.out.cells 0 _ rfl
  have a2 := BX2.out.cells 2 _ rfl
  have a4 := BX2.out.cells 4 _ rfl
  have a5 := BX2.out.cells 5 _ rfl
  go_wp2_with fail
  go_region_held (fun w' => w'.cell? ⟨w.heap.size, 2, none⟩ = some (.int .i64 z2) ∧ w'.cell? ⟨w.heap.size, 4, none⟩ = some (.int .i64 z4) ∧ w'.cell? ⟨w.heap.size, 5, none⟩ = some (.int .u32 (tn : Int))) (first | go_keep | exact ⟨BX4.out.cells 2 _ rfl, BX4.out.cells 4 _ rfl, BX4.out.cells 5 _ rfl⟩ | exact ⟨BX3.out.cells 2 _ rfl, BX3.out.cells 4 _ rfl, BX3.out.cells 5 _ rfl⟩)
    (first
      | (go_at_call 28; (with_reducible refine (mid_rot M2.out.drew hk hN h5 HW.out).mono ?_); rintro e w3 ⟨rfl, o3, m3, x3⟩; have M3 := Lib.hid m3; have X3 := Lib.hid ((X2.out.trans (Ex.drew o w2)).trans x3); have BX3 := Lib.hid ((BX2.out.ex (Ex.drew o w2)).ex x3); clear m3 x3)
      | (go_at_call 34; (with_reducible refine (mid_rrot M3.out hk h5 HFL.out HW.out).mono ?_); rintro e w4 ⟨rfl, o4, m4, x4⟩; have M4 := Lib.hid m4; have X4 := Lib.hid (X3.out.trans x4); have BX4 := Lib.hid (BX3.out.ex x4); clear m4 x4))
  all_goals go_wp2
  all_goals (go_ret; exact ⟨rfl, o4, p, q, D, E, s, _, M4.out, X4.out⟩)
set_option maxHeartbeats 8000000 in
theorem do4b (h : Mid o w T p q D E ns N s d s d) (hN : N + 1 ≤ 1000000) (z1 z2 z3 z4 z6 z7 z8 z9 : Int) (u : Value) (tn : Nat) (h5 : tn < 4294967296) (hrem : z1.tmod 2 = -1) :
    Calls Try.prog 8 #[.pointer (some ⟨T, 0, none⟩), .agg #[.int .i64 4, .int .i64 z1, .int .i64 z2, .int .i64 z3, .int .i64 z4, .int .u32 (tn : Int), .int .u64 z6, .int .u64 z7, .int .u8 z8, .int .i64 z9, u]] w fun e w' => e = .returned (.bool true) ∧ After o w T ns (N + 1) w' := by
  have H := Lib.hid h
  have hk : 1 < 2 := by decide
  obtain ⟨v, d', hw⟩ := rot_way (ns 1) (d 1) z2 z4 tn
  have HW := Lib.hid hw
  have HFL : Hid (∀ i, i < ns 1 → ((d 1).S i).fixed.length = 64) := fun i hi => ((H.out.secs hk).2 i hi).2
  clear hw
  clear h
  go_enter Try.func8, Try.ntmps8
  go_wp2_with ((with_reducible refine L_boxAct (cs := #[.int .i64 4, .int .i64 z1, .int .i64 z2, .int .i64 z3, .int .i64 z4, .int .u32 (tn : Int), .int .u64 z6, .int .u64 z7, .int .u8 z8, .int .i64 z9, u]) ?_ ?_); exact rfl; intro w1 b1 bx1; have M1 := Lib.hid (H.out.below b1); have X1 := Lib.hid (Ex.of_below (o := o) b1); have BX1 := Lib.hid (bx1 o H.out.lt); have a0 := BX1.out.cells 0 _ rfl; have a1 := BX1.out.cells 1 _ rfl; obtain ⟨t0, t3, tk, tf⟩ := M1.out.cells; obtain ⟨tD, tE⟩ : w1.cell? ⟨T, 2, none⟩ = some (.pointer (some ⟨D 1, 0, none⟩)) ∧ w1.cell? ⟨T, 5, none⟩ = some (.pointer (some ⟨E 1, 0, none⟩)) := tk 1 hk; clear b1 bx1 tk)
  go_quiet (fail)
  have M2 := Lib.hid (M1.out.drewN nq)
  have X2 := Lib.hid (X1.out.trans (Ex.drewN o w1 nq))
  have BX2 := Lib.hid (BX1.out.ex (Ex.drewN o w1 nq))
  generalize w1.drewN nq = w2 at M2 X2 BX2 ⊢
  clear M1 X1 BX1 a0 a1 t0 t3 tf tD tE
  have a0 := BX2.out.cells 0 _ rfl
  have a2 := BX2.out.cells 2 _ rfl
  have a4 := BX2.out.cells 4 _ rfl
  have a5 := BX2.out.cells 5 _ rfl
  go_wp2_with fail
  go_region_held (fun w' => w'.cell? ⟨w.heap.size, 2, none⟩ = some (.int .i64 z2) ∧ w'.cell? ⟨w.heap.size, 4, none⟩ = some (.int .i64 z4) ∧ w'.cell? ⟨w.heap.size, 5, none⟩ = some (.int .u32 (tn : Int))) (first | go_keep | exact ⟨BX4.out.cells 2 _ rfl, BX4.out.cells 4 _ rfl, BX4.out.cells 5 _ rfl⟩ | exact ⟨BX3.out.cells 2 _ rfl, BX3.out.cells 4 _ rfl, BX3.out.cells 5 _ rfl⟩)
    (first
      | (go_at_call 28; (with_reducible refine (mid_rot M2.out.drew hk hN h5 HW.out).mono ?_); rintro e w3 ⟨rfl, o3, m3, x3⟩; have M3 := Lib.hid m3; have X3 := Lib.hid ((X2.out.trans (Ex.drew o w2)).trans x3); have BX3 := Lib.hid ((BX2.out.ex (Ex.drew o w2)).ex x3); clear m3 x3)
      | (go_at_call 34; (with_reducible refine (mid_rrot M3.out hk h5 HFL.out HW.out).mono ?_); rintro e w4 ⟨rfl, o4, m4, x4⟩; have M4 := Lib.hid m4; have X4 := Lib.hid (X3.out.trans x4); have BX4 := Lib.hid (BX3.out.ex x4); clear m4 x4))
  all_goals go_wp2
  all_goals (go_ret; exact ⟨rfl, o4, p, q, D, E, s, _, M4.out, X4.out⟩)
set_option maxHeartbeats 8000000 in
theorem do5a (h : Mid o w T p q D E ns N s d s d) (hN : N + 1 ≤ 1000000) (k : Nat) (hk : k < 2) (z1 z2 z3 z4 z5 z6 z7 z8 z9 : Int) (u : Value) (hrem : z1.tmod 2 = (k : Int)) :
    Calls Try.prog 8 #[.pointer (some ⟨T, 0, none⟩), .agg #[.int .i64 5, .int .i64 z1, .int .i64 z2, .int .i64 z3, .int .i64 z4, .int .u32 z5, .int .u64 z6, .int .u64 z7, .int .u8 z8, .int .i64 z9, u]] w fun e w' => e = .returned (.bool true) ∧ After o w T ns (N + 1) w' := by
  have H := Lib.hid h
  obtain ⟨v, hv⟩ : ∃ v, PS.fuseE s z3 = v := ⟨_, rfl⟩
  have HV := Lib.hid hv
  clear hv
  clear h
  go_enter Try.func8, Try.ntmps8
  go_wp2_with ((with_reducible refine L_boxAct (cs := #[.int .i64 5, .int .i64 z1, .int .i64 z2, .int .i64 z3, .int .i64 z4, .int .u32 z5, .int .u64 z6, .int .u64 z7, .int .u8 z8, .int .i64 z9, u]) ?_ ?_); exact rfl; intro w1 b1 bx1; have M1 := Lib.hid (H.out.below b1); have X1 := Lib.hid (Ex.of_below (o := o) b1); have BX1 := Lib.hid (bx1 o H.out.lt); have a0 := BX1.out.cells 0 _ rfl; have a1 := BX1.out.cells 1 _ rfl; obtain ⟨t0, t3, tk, tf⟩ := M1.out.cells; obtain ⟨tD, tE⟩ := tk k hk; clear b1 bx1 tk)
  have hk2 : (k : Int) < 2 := by omega
  go_quiet (fail)
  have M2 := Lib.hid (M1.out.drewN nq)
  have X2 := Lib.hid (X1.out.trans (Ex.drewN o w1 nq))
  have BX2 := Lib.hid (BX1.out.ex (Ex.drewN o w1 nq))
  generalize w1.drewN nq = w2 at M2 X2 BX2 ⊢
  clear M1 X1 BX1 a0 a1 t0 t3 tf tD tE
  have a0 := BX2.out.cells 0 _ rfl
  have a3 := BX2.out.cells 3 _ rfl
  obtain ⟨t0, t3, tk, tf⟩ := M2.out.cells
  clear tk
  go_wp2_with fail
  go_region_held (fun w' => w'.cell? ⟨w.heap.size, 3, none⟩ = some (.int .i64 z3) ∧ w'.cell? ⟨T, 0, none⟩ = some (.pointer (some ⟨p, 0, none⟩)) ∧ w'.cell? ⟨T, 3, none⟩ = some (.pointer (some ⟨q, 0, none⟩))) (first | go_keep | exact ⟨BX4.out.cells 3 _ rfl, M4.out.cells.1, M4.out.cells.2.1⟩ | exact ⟨BX3.out.cells 3 _ rfl, M3.out.cells.1, M3.out.cells.2.1⟩)
    (first
      | (go_at_call 19; (with_reducible refine (mid_fuse M2.out.drew z3).mono ?_); rintro e w3 ⟨rfl, o3, m3, x3⟩; rw [HV.out]; have M3 := Lib.hid m3; have X3 := Lib.hid ((X2.out.trans (Ex.drew o w2)).trans x3); have BX3 := Lib.hid ((BX2.out.ex (Ex.drew o w2)).ex x3); clear m3 x3)
      | (go_at_call 35; (with_reducible refine (mid_rfuse M3.out z3).mono ?_); rintro e w4 ⟨rfl, o4, m4, x4⟩; rw [HV.out]; have M4 := Lib.hid m4; have X4 := Lib.hid (X3.out.trans x4); have BX4 := Lib.hid (BX3.out.ex x4); clear m4 x4))
  all_goals go_wp2
  all_goals (go_ret; exact ⟨rfl, o4, p, q, D, E, _, _, M4.out.more (Nat.le_succ N) hN, X4.out⟩)
set_option maxHeartbeats 8000000 in
theorem do5b (h : Mid o w T p q D E ns N s d s d) (hN : N + 1 ≤ 1000000) (z1 z2 z3 z4 z5 z6 z7 z8 z9 : Int) (u : Value) (hrem : z1.tmod 2 = -1) :
    Calls Try.prog 8 #[.pointer (some ⟨T, 0, none⟩), .agg #[.int .i64 5, .int .i64 z1, .int .i64 z2, .int .i64 z3, .int .i64 z4, .int .u32 z5, .int .u64 z6, .int .u64 z7, .int .u8 z8, .int .i64 z9, u]] w fun e w' => e = .returned (.bool true) ∧ After o w T ns (N + 1) w' := by
  have H := Lib.hid h
  have hk : 1 < 2 := by decide
  obtain ⟨v, hv⟩ : ∃ v, PS.fuseE s z3 = v := ⟨_, rfl⟩
  have HV := Lib.hid hv
  clear hv
  clear h
  go_enter Try.func8, Try.ntmps8
  go_wp2_with ((with_reducible refine L_boxAct (cs := #[.int .i64 5, .int .i64 z1, .int .i64 z2, .int .i64 z3, .int .i64 z4, .int .u32 z5, .int .u64 z6, .int .u64 z7, .int .u8 z8, .int .i64 z9, u]) ?_ ?_); exact rfl; intro w1 b1 bx1; have M1 := Lib.hid (H.out.below b1); have X1 := Lib.hid (Ex.of_below (o := o) b1); have BX1 := Lib.hid (bx1 o H.out.lt); have a0 := BX1.out.cells 0 _ rfl; have a1 := BX1.out.cells 1 _ rfl; obtain ⟨t0, t3, tk, tf⟩ := M1.out.cells; obtain ⟨tD, tE⟩ : w1.cell? ⟨T, 2, none⟩ = some (.pointer (some ⟨D 1, 0, none⟩)) ∧ w1.cell? ⟨T, 5, none⟩ = some (.pointer (some ⟨E 1, 0, none⟩)) := tk 1 hk; clear b1 bx1 tk)
  go_quiet (fail)
  have M2 := Lib.hid (M1.out.drewN nq)
  have X2 := Lib.hid (X1.out.trans (Ex.drewN o w1 nq))
  have BX2 := Lib.hid (BX1.out.ex (Ex.drewN o w1 nq))
  generalize w1.drewN nq = w2 at M2 X2 BX2 ⊢
  clear M1 X1 BX1 a0 a1 t0 t3 tf tD tE
  have a0 := BX2.out.cells 0 _ rfl
  have a3 := BX2.out.cells 3 _ rfl
  obtain ⟨t0, t3, tk, tf⟩ := M2.out.cells
  clear tk
  go_wp2_with fail
  go_region_held (fun w' => w'.cell? ⟨w.heap.size, 3, none⟩ = some (.int .i64 z3) ∧ w'.cell? ⟨T, 0, none⟩ = some (.pointer (some ⟨p, 0, none⟩)) ∧ w'.cell? ⟨T, 3, none⟩ = some (.pointer (some ⟨q, 0, none⟩))) (first | go_keep | exact ⟨BX4.out.cells 3 _ rfl, M4.out.cells.1, M4.out.cells.2.1⟩ | exact ⟨BX3.out.cells 3 _ rfl, M3.out.cells.1, M3.out.cells.2.1⟩)
    (first
      | (go_at_call 19; (with_reducible refine (mid_fuse M2.out.drew z3).mono ?_); rintro e w3 ⟨rfl, o3, m3, x3⟩; rw [HV.out]; have M3 := Lib.hid m3; have X3 := Lib.hid ((X2.out.trans (Ex.drew o w2)).trans x3); have BX3 := Lib.hid ((BX2.out.ex (Ex.drew o w2)).ex x3); clear m3 x3)
      | (go_at_call 35; (with_reducible refine (mid_rfuse M3.out z3).mono ?_); rintro e w4 ⟨rfl, o4, m4, x4⟩; rw [HV.out]; have M4 := Lib.hid m4; have X4 := Lib.hid (X3.out.trans x4); have BX4 := Lib.hid (BX3.out.ex x4); clear m4 x4))
  all_goals go_wp2
  all_goals (go_ret; exact ⟨rfl, o4, p, q, D, E, _, _, M4.out.more (Nat.le_succ N) hN, X4.out⟩)
end
end Go.Proofs.Ytdkniholeaiemaa.W
