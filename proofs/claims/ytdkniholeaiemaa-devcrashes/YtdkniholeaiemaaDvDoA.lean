/-
  A call on both pairs: Read, Flush, Fail, Cut, none of them. No conditions.
-/
import Derived.Test.YtdkniholeaiemaaDvDoKit
import Derived.Deep.RegionHeld
import Derived.Deep.DrawnRows
namespace Go.Proofs.Ytdkniholeaiemaa.W
open Go.RowKit Oc Dm Gt Tn
set_option linter.unusedVariables false
set_option maxRecDepth 100000
attribute [local go_sem ↓] Go.wp_at_zero Go.wp_at_succ
section
variable {o : Nat → Nat} {w : World} {T p q : Nat} {D E ns : Nat → Nat} {N : Nat} {s : PS} {d : Nat → DD}
set_option maxHeartbeats 8000000 in
theorem do0a (h : Mid o w T p q D E ns N s d s d) (hN : N + 1 ≤ 1000000) (k : Nat) (hk : k < 2) (z1 z2 z3 z4 z5 z6 z7 z8 z9 : Int) (u : Value) (hrem : z1.tmod 2 = (k : Int)) :
    Calls Try.prog 8 #[.pointer (some ⟨T, 0, none⟩), .agg #[.int .i64 0, .int .i64 z1, .int .i64 z2, .int .i64 z3, .int .i64 z4, .int .u32 z5, .int .u64 z6, .int .u64 z7, .int .u8 z8, .int .i64 z9, u]] w fun e w' => e = .returned (.bool true) ∧ After o w T ns (N + 1) w' := by
  have H := Lib.hid h
  obtain ⟨v, xs, d', hw⟩ := read_way (ns k) s (d k) z2
  have HW := Lib.hid hw
  clear hw
  clear h
  go_enter Try.func8, Try.ntmps8
  go_wp2_with ((with_reducible refine L_boxAct (cs := #[.int .i64 0, .int .i64 z1, .int .i64 z2, .int .i64 z3, .int .i64 z4, .int .u32 z5, .int .u64 z6, .int .u64 z7, .int .u8 z8, .int .i64 z9, u]) ?_ ?_); exact rfl; intro w1 b1 bx1; have M1 := Lib.hid (H.out.below b1); have X1 := Lib.hid (Ex.of_below (o := o) b1); have BX1 := Lib.hid (bx1 o H.out.lt); have a0 := BX1.out.cells 0 _ rfl; have a1 := BX1.out.cells 1 _ rfl; obtain ⟨t0, t3, tk, tf⟩ := M1.out.cells; obtain ⟨tD, tE⟩ := tk k hk; clear b1 bx1 tk)
  have hk2 : (k : Int) < 2 := by omega
  go_quiet (fail)
  have M2 := Lib.hid (M1.out.drewN nq)
  have X2 := Lib.hid (X1.out.trans (Ex.drewN o w1 nq))
  have BX2 := Lib.hid (BX1.out.ex (Ex.drewN o w1 nq))
  generalize w1.drewN nq = w2 at M2 X2 BX2 ⊢
  clear M1 X1 BX1 a0 a1 t0 t3 tf tD tE
  have a0 := BX2.out.cells 0 _ rfl
  have a2 := BX2.out.cells 2 _ rfl
  go_wp2_with fail
  refine (mid_read M2.out hk HW.out).mono ?_; rintro e w3 ⟨A3, l3, c3, o3, rfl, oc3, oo3, m3, x3⟩
  have M3 := Lib.hid m3
  have X3 := Lib.hid (X2.out.trans x3)
  have BX3 := Lib.hid (BX2.out.ex x3)
  have OC3 := Lib.hid oc3
  have OO3 := Lib.hid oo3
  clear m3 x3 oc3 oo3 a0 a2 M2 X2 BX2
  have a2 := BX3.out.cells 2 _ rfl
  go_wp2_with fail
  refine (mid_rread M3.out hk HW.out).mono ?_; rintro e w4 ⟨B, rfl, hB, o4, m4, x4⟩
  have M4 := Lib.hid (m4.more (Nat.le_succ N) hN)
  have X4 := Lib.hid (X3.out.trans x4)
  have cv := (oct_ex OC3.out OO3.out x4).conv bt Try.underlying9 c3
  rw [show Value.string (bstr xs) = .string B from hB] at cv
  clear m4 x4 hB a2 M3 X3 BX3 OC3 OO3
  go_wp2
  go_ret
  exact ⟨rfl, o4, p, q, D, E, s, _, M4.out, X4.out⟩
set_option maxHeartbeats 8000000 in
theorem do0b (h : Mid o w T p q D E ns N s d s d) (hN : N + 1 ≤ 1000000) (z1 z2 z3 z4 z5 z6 z7 z8 z9 : Int) (u : Value) (hrem : z1.tmod 2 = -1) :
    Calls Try.prog 8 #[.pointer (some ⟨T, 0, none⟩), .agg #[.int .i64 0, .int .i64 z1, .int .i64 z2, .int .i64 z3, .int .i64 z4, .int .u32 z5, .int .u64 z6, .int .u64 z7, .int .u8 z8, .int .i64 z9, u]] w fun e w' => e = .returned (.bool true) ∧ After o w T ns (N + 1) w' := by
  have H := Lib.hid h
  have hk : 1 < 2 := by decide
  obtain ⟨v, xs, d', hw⟩ := read_way (ns 1) s (d 1) z2
  have HW := Lib.hid hw
  clear hw
  clear h
  go_enter Try.func8, Try.ntmps8
  go_wp2_with ((with_reducible refine L_boxAct (cs := #[.int .i64 0, .int .i64 z1, .int .i64 z2, .int .i64 z3, .int .i64 z4, .int .u32 z5, .int .u64 z6, .int .u64 z7, .int .u8 z8, .int .i64 z9, u]) ?_ ?_); exact rfl; intro w1 b1 bx1; have M1 := Lib.hid (H.out.below b1); have X1 := Lib.hid (Ex.of_below (o := o) b1); have BX1 := Lib.hid (bx1 o H.out.lt); have a0 := BX1.out.cells 0 _ rfl; have a1 := BX1.out.cells 1 _ rfl; obtain ⟨t0, t3, tk, tf⟩ := M1.out.cells; obtain ⟨tD, tE⟩ : w1.cell? ⟨T, 2, none⟩ = some (.pointer (some ⟨D 1, 0, none⟩)) ∧ w1.cell? ⟨T, 5, none⟩ = some (.pointer (some ⟨E 1, 0, none⟩)) := tk 1 hk; clear b1 bx1 tk)
  go_quiet (fail)
  have M2 := Lib.hid (M1.out.drewN nq)
  have X2 := Lib.hid (X1.out.trans (Ex.drewN o w1 nq))
  have BX2 := Lib.hid (BX1.out.ex (Ex.drewN o w1 nq))
  generalize w1.drewN nq = w2 at M2 X2 BX2 ⊢
  clear M1 X1 BX1 a0 a1 t0 t3 tf tD tE
  have a0 := BX2.out.cells 0 _ rfl
  have a2 := BX2.out.cells 2 _ rfl
  go_wp2_with fail
  refine (mid_read M2.out hk HW.out).mono ?_; rintro e w3 ⟨A3, l3, c3, o3, rfl, oc3, oo3, m3, x3⟩
  have M3 := Lib.hid m3
  have X3 := Lib.hid (X2.out.trans x3)
  have BX3 := Lib.hid (BX2.out.ex x3)
  have OC3 := Lib.hid oc3
  have OO3 := Lib.hid oo3
  clear m3 x3 oc3 oo3 a0 a2 M2 X2 BX2
  have a2 := BX3.out.cells 2 _ rfl
  go_wp2_with fail
  refine (mid_rread M3.out hk HW.out).mono ?_; rintro e w4 ⟨B, rfl, hB, o4, m4, x4⟩
  have M4 := Lib.hid (m4.more (Nat.le_succ N) hN)
  have X4 := Lib.hid (X3.out.trans x4)
  have cv := (oct_ex OC3.out OO3.out x4).conv bt Try.underlying9 c3
  rw [show Value.string (bstr xs) = .string B from hB] at cv
  clear m4 x4 hB a2 M3 X3 BX3 OC3 OO3
  go_wp2
  go_ret
  exact ⟨rfl, o4, p, q, D, E, s, _, M4.out, X4.out⟩
set_option maxHeartbeats 8000000 in
theorem do2a (h : Mid o w T p q D E ns N s d s d) (hN : N + 1 ≤ 1000000) (k : Nat) (hk : k < 2) (z1 z2 z3 z4 z5 z6 z7 z8 z9 : Int) (u : Value) (hrem : z1.tmod 2 = (k : Int)) :
    Calls Try.prog 8 #[.pointer (some ⟨T, 0, none⟩), .agg #[.int .i64 2, .int .i64 z1, .int .i64 z2, .int .i64 z3, .int .i64 z4, .int .u32 z5, .int .u64 z6, .int .u64 z7, .int .u8 z8, .int .i64 z9, u]] w fun e w' => e = .returned (.bool true) ∧ After o w T ns (N + 1) w' := by
  have H := Lib.hid h
  obtain ⟨v, s', d', hw⟩ := fl_way s (d k)
  have HW := Lib.hid hw
  have HS : Hid (s.done + 1 ≤ N + 1) := by have := H.out.hs; show _ ≤ _; omega
  clear hw
  clear h
  go_enter Try.func8, Try.ntmps8
  go_wp2_with ((with_reducible refine L_boxAct (cs := #[.int .i64 2, .int .i64 z1, .int .i64 z2, .int .i64 z3, .int .i64 z4, .int .u32 z5, .int .u64 z6, .int .u64 z7, .int .u8 z8, .int .i64 z9, u]) ?_ ?_); exact rfl; intro w1 b1 bx1; have M1 := Lib.hid (H.out.below b1); have X1 := Lib.hid (Ex.of_below (o := o) b1); have BX1 := Lib.hid (bx1 o H.out.lt); have a0 := BX1.out.cells 0 _ rfl; have a1 := BX1.out.cells 1 _ rfl; obtain ⟨t0, t3, tk, tf⟩ := M1.out.cells; obtain ⟨tD, tE⟩ := tk k hk; clear b1 bx1 tk)
  have hk2 : (k : Int) < 2 := by omega
  go_quiet (fail)
  have M2 := Lib.hid (M1.out.drewN nq)
  have X2 := Lib.hid (X1.out.trans (Ex.drewN o w1 nq))
  have BX2 := Lib.hid (BX1.out.ex (Ex.drewN o w1 nq))
  generalize w1.drewN nq = w2 at M2 X2 BX2 ⊢
  clear M1 X1 BX1 a0 a1 t0 t3 tf tD tE
  have a0 := BX2.out.cells 0 _ rfl
  go_wp2_with fail
  refine (mid_flush M2.out hk hN HW.out).mono ?_; rintro e w3 ⟨rfl, o3, m3, x3⟩
  have M3 := Lib.hid m3
  have X3 := Lib.hid (X2.out.trans x3)
  clear m3 x3 a0 M2 X2 BX2
  go_wp2_with fail
  refine (mid_rflush M3.out hk HS.out HW.out).mono ?_; rintro e w4 ⟨rfl, o4, m4, x4⟩
  have M4 := Lib.hid m4
  have X4 := Lib.hid (X3.out.trans x4)
  clear m4 x4 M3 X3
  go_wp2
  go_ret
  exact ⟨rfl, o4, p, q, D, E, _, _, M4.out, X4.out⟩
set_option maxHeartbeats 8000000 in
theorem do2b (h : Mid o w T p q D E ns N s d s d) (hN : N + 1 ≤ 1000000) (z1 z2 z3 z4 z5 z6 z7 z8 z9 : Int) (u : Value) (hrem : z1.tmod 2 = -1) :
    Calls Try.prog 8 #[.pointer (some ⟨T, 0, none⟩), .agg #[.int .i64 2, .int .i64 z1, .int .i64 z2, .int .i64 z3, .int .i64 z4, .int .u32 z5, .int .u64 z6, .int .u64 z7, .int .u8 z8, .int .i64 z9, u]] w fun e w' => e = .returned (.bool true) ∧ After o w T ns (N + 1) w' := by
  have H := Lib.hid h
  have hk : 1 < 2 := by decide
  obtain ⟨v, s', d', hw⟩ := fl_way s (d 1)
  have HW := Lib.hid hw
  have HS : Hid (s.done + 1 ≤ N + 1) := by have := H.out.hs; show _ ≤ _; omega
  clear hw
  clear h
  go_enter Try.func8, Try.ntmps8
  go_wp2_with ((with_reducible refine L_boxAct (cs := #[.int .i64 2, .int .i64 z1, .int .i64 z2, .int .i64 z3, .int .i64 z4, .int .u32 z5, .int .u64 z6, .int .u64 z7, .int .u8 z8, .int .i64 z9, u]) ?_ ?_); exact rfl; intro w1 b1 bx1; have M1 := Lib.hid (H.out.below b1); have X1 := Lib.hid (Ex.of_below (o := o) b1); have BX1 := Lib.hid (bx1 o H.out.lt); have a0 := BX1.out.cells 0 _ rfl; have a1 := BX1.out.cells 1 _ rfl; obtain ⟨t0, t3, tk, tf⟩ := M1.out.cells; obtain ⟨tD, tE⟩ : w1.cell? ⟨T, 2, none⟩ = some (.pointer (some ⟨D 1, 0, none⟩)) ∧ w1.cell? ⟨T, 5, none⟩ = some (.pointer (some ⟨E 1, 0, none⟩)) := tk 1 hk; clear b1 bx1 tk)
  go_quiet (fail)
  have M2 := Lib.hid (M1.out.drewN nq)
  have X2 := Lib.hid (X1.out.trans (Ex.drewN o w1 nq))
  have BX2 := Lib.hid (BX1.out.ex (Ex.drewN o w1 nq))
  generalize w1.drewN nq = w2 at M2 X2 BX2 ⊢
  clear M1 X1 BX1 a0 a1 t0 t3 tf tD tE
  have a0 := BX2.out.cells 0 _ rfl
  go_wp2_with fail
  refine (mid_flush M2.out hk hN HW.out).mono ?_; rintro e w3 ⟨rfl, o3, m3, x3⟩
  have M3 := Lib.hid m3
  have X3 := Lib.hid (X2.out.trans x3)
  clear m3 x3 a0 M2 X2 BX2
  go_wp2_with fail
  refine (mid_rflush M3.out hk HS.out HW.out).mono ?_; rintro e w4 ⟨rfl, o4, m4, x4⟩
  have M4 := Lib.hid m4
  have X4 := Lib.hid (X3.out.trans x4)
  clear m4 x4 M3 X3
  go_wp2
  go_ret
  exact ⟨rfl, o4, p, q, D, E, _, _, M4.out, X4.out⟩
set_option maxHeartbeats 8000000 in
theorem do3a (h : Mid o w T p q D E ns N s d s d) (hN : N + 1 ≤ 1000000) (k : Nat) (hk : k < 2) (z1 z2 z3 z4 z5 z8 z9 : Int) (u : Value) (u6 u7 : Nat) (h6 : u6 < 18446744073709551616) (h7 : u7 < 18446744073709551616) (hrem : z1.tmod 2 = (k : Int)) :
    Calls Try.prog 8 #[.pointer (some ⟨T, 0, none⟩), .agg #[.int .i64 3, .int .i64 z1, .int .i64 z2, .int .i64 z3, .int .i64 z4, .int .u32 z5, .int .u64 (u6 : Int), .int .u64 (u7 : Int), .int .u8 z8, .int .i64 z9, u]] w fun e w' => e = .returned (.bool true) ∧ After o w T ns (N + 1) w' := by
  have H := Lib.hid h
  clear h
  go_enter Try.func8, Try.ntmps8
  go_wp2_with ((with_reducible refine L_boxAct (cs := #[.int .i64 3, .int .i64 z1, .int .i64 z2, .int .i64 z3, .int .i64 z4, .int .u32 z5, .int .u64 (u6 : Int), .int .u64 (u7 : Int), .int .u8 z8, .int .i64 z9, u]) ?_ ?_); exact rfl; intro w1 b1 bx1; have M1 := Lib.hid (H.out.below b1); have X1 := Lib.hid (Ex.of_below (o := o) b1); have BX1 := Lib.hid (bx1 o H.out.lt); have a0 := BX1.out.cells 0 _ rfl; have a1 := BX1.out.cells 1 _ rfl; obtain ⟨t0, t3, tk, tf⟩ := M1.out.cells; obtain ⟨tD, tE⟩ := tk k hk; clear b1 bx1 tk)
  have hk2 : (k : Int) < 2 := by omega
  go_quiet (fail)
  have M2 := Lib.hid (M1.out.drewN nq)
  have X2 := Lib.hid (X1.out.trans (Ex.drewN o w1 nq))
  have BX2 := Lib.hid (BX1.out.ex (Ex.drewN o w1 nq))
  generalize w1.drewN nq = w2 at M2 X2 BX2 ⊢
  clear M1 X1 BX1 a0 a1 t0 t3 tf tD tE
  have a0 := BX2.out.cells 0 _ rfl
  have a6 := BX2.out.cells 6 _ rfl
  have a7 := BX2.out.cells 7 _ rfl
  go_wp2_with fail
  refine (mid_fail M2.out hk u6 u7 h6 h7).mono ?_; rintro e w3 ⟨rfl, o3, m3, x3⟩
  have M3 := Lib.hid m3
  have X3 := Lib.hid (X2.out.trans x3)
  have BX3 := Lib.hid (BX2.out.ex x3)
  clear m3 x3 a0 a6 a7 M2 X2 BX2
  have a6 := BX3.out.cells 6 _ rfl
  have a7 := BX3.out.cells 7 _ rfl
  obtain ⟨gs3, vs3, rv3⟩ := M3.out.rv k hk
  obtain ⟨e0, e1, e2, e3, ef⟩ := rv3.cells
  have hne : w.heap.size ≠ E k := fun e => by
    have h1 := rv3.inG.1
    have h2 := BX3.out.own
    have h3 : o3 (E k) = 6 + k := h1
    rw [← e, h2] at h3
    omega
  have hne2 : E k ≠ w.heap.size := fun e => hne e.symm
  clear rv3
  go_wp2
  go_ret
  obtain ⟨o4, m4, x4⟩ := mid_rfail M3.out hk u6 u7 h6 h7
  exact ⟨rfl, o4, p, q, D, E, s, _, m4.more (Nat.le_succ N) hN, X3.out.trans x4⟩
set_option maxHeartbeats 8000000 in
theorem do3b (h : Mid o w T p q D E ns N s d s d) (hN : N + 1 ≤ 1000000) (z1 z2 z3 z4 z5 z8 z9 : Int) (u : Value) (u6 u7 : Nat) (h6 : u6 < 18446744073709551616) (h7 : u7 < 18446744073709551616) (hrem : z1.tmod 2 = -1) :
    Calls Try.prog 8 #[.pointer (some ⟨T, 0, none⟩), .agg #[.int .i64 3, .int .i64 z1, .int .i64 z2, .int .i64 z3, .int .i64 z4, .int .u32 z5, .int .u64 (u6 : Int), .int .u64 (u7 : Int), .int .u8 z8, .int .i64 z9, u]] w fun e w' => e = .returned (.bool true) ∧ After o w T ns (N + 1) w' := by
  have H := Lib.hid h
  have hk : 1 < 2 := by decide
  clear h
  go_enter Try.func8, Try.ntmps8
  go_wp2_with ((with_reducible refine L_boxAct (cs := #[.int .i64 3, .int .i64 z1, .int .i64 z2, .int .i64 z3, .int .i64 z4, .int .u32 z5, .int .u64 (u6 : Int), .int .u64 (u7 : Int), .int .u8 z8, .int .i64 z9, u]) ?_ ?_); exact rfl; intro w1 b1 bx1; have M1 := Lib.hid (H.out.below b1); have X1 := Lib.hid (Ex.of_below (o := o) b1); have BX1 := Lib.hid (bx1 o H.out.lt); have a0 := BX1.out.cells 0 _ rfl; have a1 := BX1.out.cells 1 _ rfl; obtain ⟨t0, t3, tk, tf⟩ := M1.out.cells; obtain ⟨tD, tE⟩ : w1.cell? ⟨T, 2, none⟩ = some (.pointer (some ⟨D 1, 0, none⟩)) ∧ w1.cell? ⟨T, 5, none⟩ = some (.pointer (some ⟨E 1, 0, none⟩)) := tk 1 hk; clear b1 bx1 tk)
  go_quiet (fail)
  have M2 := Lib.hid (M1.out.drewN nq)
  have X2 := Lib.hid (X1.out.trans (Ex.drewN o w1 nq))
  have BX2 := Lib.hid (BX1.out.ex (Ex.drewN o w1 nq))
  generalize w1.drewN nq = w2 at M2 X2 BX2 ⊢
  clear M1 X1 BX1 a0 a1 t0 t3 tf tD tE
  have a0 := BX2.out.cells 0 _ rfl
  have a6 := BX2.out.cells 6 _ rfl
  have a7 := BX2.out.cells 7 _ rfl
  go_wp2_with fail
  refine (mid_fail M2.out hk u6 u7 h6 h7).mono ?_; rintro e w3 ⟨rfl, o3, m3, x3⟩
  have M3 := Lib.hid m3
  have X3 := Lib.hid (X2.out.trans x3)
  have BX3 := Lib.hid (BX2.out.ex x3)
  clear m3 x3 a0 a6 a7 M2 X2 BX2
  have a6 := BX3.out.cells 6 _ rfl
  have a7 := BX3.out.cells 7 _ rfl
  obtain ⟨gs3, vs3, rv3⟩ := M3.out.rv 1 hk
  obtain ⟨e0, e1, e2, e3, ef⟩ := rv3.cells
  have hne : w.heap.size ≠ E 1 := fun e => by
    have h1 := rv3.inG.1
    have h2 := BX3.out.own
    have h3 : o3 (E 1) = 6 + 1 := h1
    rw [← e, h2] at h3
    omega
  have hne2 : E 1 ≠ w.heap.size := fun e => hne e.symm
  clear rv3
  go_wp2
  go_ret
  obtain ⟨o4, m4, x4⟩ := mid_rfail M3.out hk u6 u7 h6 h7
  exact ⟨rfl, o4, p, q, D, E, s, _, m4.more (Nat.le_succ N) hN, X3.out.trans x4⟩
set_option maxHeartbeats 8000000 in
theorem do6a (h : Mid o w T p q D E ns N s d s d) (hN : N + 1 ≤ 1000000) (k : Nat) (hk : k < 2) (z1 z2 z3 z4 z5 z6 z7 z8 z9 : Int) (u : Value) (hrem : z1.tmod 2 = (k : Int)) :
    Calls Try.prog 8 #[.pointer (some ⟨T, 0, none⟩), .agg #[.int .i64 6, .int .i64 z1, .int .i64 z2, .int .i64 z3, .int .i64 z4, .int .u32 z5, .int .u64 z6, .int .u64 z7, .int .u8 z8, .int .i64 z9, u]] w fun e w' => e = .returned (.bool true) ∧ After o w T ns (N + 1) w' := by
  have H := Lib.hid h
  clear h
  go_enter Try.func8, Try.ntmps8
  go_wp2_with ((with_reducible refine L_boxAct (cs := #[.int .i64 6, .int .i64 z1, .int .i64 z2, .int .i64 z3, .int .i64 z4, .int .u32 z5, .int .u64 z6, .int .u64 z7, .int .u8 z8, .int .i64 z9, u]) ?_ ?_); exact rfl; intro w1 b1 bx1; have M1 := Lib.hid (H.out.below b1); have X1 := Lib.hid (Ex.of_below (o := o) b1); have BX1 := Lib.hid (bx1 o H.out.lt); have a0 := BX1.out.cells 0 _ rfl; have a1 := BX1.out.cells 1 _ rfl; obtain ⟨t0, t3, tk, tf⟩ := M1.out.cells; obtain ⟨tD, tE⟩ := tk k hk; clear b1 bx1 tk)
  have hk2 : (k : Int) < 2 := by omega
  go_quiet (fail)
  have M2 := Lib.hid (M1.out.drewN nq)
  have X2 := Lib.hid (X1.out.trans (Ex.drewN o w1 nq))
  have BX2 := Lib.hid (BX1.out.ex (Ex.drewN o w1 nq))
  generalize w1.drewN nq = w2 at M2 X2 BX2 ⊢
  clear M1 X1 BX1 a0 a1 t0 t3 tf tD tE
  have a0 := BX2.out.cells 0 _ rfl
  obtain ⟨t0, t3, tk, tf⟩ := M2.out.cells
  clear tk
  go_wp2_with fail
  refine (mid_cut M2.out).mono ?_; rintro e w3 ⟨rfl, o3, m3, x3⟩
  have M3 := Lib.hid m3
  have X3 := Lib.hid (X2.out.trans x3)
  clear m3 x3 a0 t0 t3 tf M2 X2 BX2
  obtain ⟨t0, t3, tk, tf⟩ := M3.out.cells
  obtain ⟨l, hh, hl, d0, d1, d2, d3, fr2⟩ := M3.out.qw.cells
  clear tk hh hl
  go_wp2
  go_ret
  obtain ⟨o4, m4, x4⟩ := mid_rcut M3.out
  exact ⟨rfl, o4, p, q, D, E, _, d, m4.more (Nat.le_succ N) hN, X3.out.trans x4⟩
set_option maxHeartbeats 8000000 in
theorem do6b (h : Mid o w T p q D E ns N s d s d) (hN : N + 1 ≤ 1000000) (z1 z2 z3 z4 z5 z6 z7 z8 z9 : Int) (u : Value) (hrem : z1.tmod 2 = -1) :
    Calls Try.prog 8 #[.pointer (some ⟨T, 0, none⟩), .agg #[.int .i64 6, .int .i64 z1, .int .i64 z2, .int .i64 z3, .int .i64 z4, .int .u32 z5, .int .u64 z6, .int .u64 z7, .int .u8 z8, .int .i64 z9, u]] w fun e w' => e = .returned (.bool true) ∧ After o w T ns (N + 1) w' := by
  have H := Lib.hid h
  have hk : 1 < 2 := by decide
  clear h
  go_enter Try.func8, Try.ntmps8
  go_wp2_with ((with_reducible refine L_boxAct (cs := #[.int .i64 6, .int .i64 z1, .int .i64 z2, .int .i64 z3, .int .i64 z4, .int .u32 z5, .int .u64 z6, .int .u64 z7, .int .u8 z8, .int .i64 z9, u]) ?_ ?_); exact rfl; intro w1 b1 bx1; have M1 := Lib.hid (H.out.below b1); have X1 := Lib.hid (Ex.of_below (o := o) b1); have BX1 := Lib.hid (bx1 o H.out.lt); have a0 := BX1.out.cells 0 _ rfl; have a1 := BX1.out.cells 1 _ rfl; obtain ⟨t0, t3, tk, tf⟩ := M1.out.cells; obtain ⟨tD, tE⟩ : w1.cell? ⟨T, 2, none⟩ = some (.pointer (some ⟨D 1, 0, none⟩)) ∧ w1.cell? ⟨T, 5, none⟩ = some (.pointer (some ⟨E 1, 0, none⟩)) := tk 1 hk; clear b1 bx1 tk)
  go_quiet (fail)
  have M2 := Lib.hid (M1.out.drewN nq)
  have X2 := Lib.hid (X1.out.trans (Ex.drewN o w1 nq))
  have BX2 := Lib.hid (BX1.out.ex (Ex.drewN o w1 nq))
  generalize w1.drewN nq = w2 at M2 X2 BX2 ⊢
  clear M1 X1 BX1 a0 a1 t0 t3 tf tD tE
  have a0 := BX2.out.cells 0 _ rfl
  obtain ⟨t0, t3, tk, tf⟩ := M2.out.cells
  clear tk
  go_wp2_with fail
  refine (mid_cut M2.out).mono ?_; rintro e w3 ⟨rfl, o3, m3, x3⟩
  have M3 := Lib.hid m3
  have X3 := Lib.hid (X2.out.trans x3)
  clear m3 x3 a0 t0 t3 tf M2 X2 BX2
  obtain ⟨t0, t3, tk, tf⟩ := M3.out.cells
  obtain ⟨l, hh, hl, d0, d1, d2, d3, fr2⟩ := M3.out.qw.cells
  clear tk hh hl
  go_wp2
  go_ret
  obtain ⟨o4, m4, x4⟩ := mid_rcut M3.out
  exact ⟨rfl, o4, p, q, D, E, _, d, m4.more (Nat.le_succ N) hN, X3.out.trans x4⟩
set_option maxHeartbeats 8000000 in
theorem do9a (h : Mid o w T p q D E ns N s d s d) (hN : N + 1 ≤ 1000000) (k : Nat) (hk : k < 2) (z1 z2 z3 z4 z5 z6 z7 z8 z9 : Int) (u : Value) (z0 : Int) (n0 : ¬ z0 = 0) (n1 : ¬ z0 = 1) (n2 : ¬ z0 = 2) (n3 : ¬ z0 = 3) (n4 : ¬ z0 = 4) (n5 : ¬ z0 = 5) (n6 : ¬ z0 = 6) (n7 : ¬ z0 = 7) (n8 : ¬ z0 = 8) (hrem : z1.tmod 2 = (k : Int)) :
    Calls Try.prog 8 #[.pointer (some ⟨T, 0, none⟩), .agg #[.int .i64 z0, .int .i64 z1, .int .i64 z2, .int .i64 z3, .int .i64 z4, .int .u32 z5, .int .u64 z6, .int .u64 z7, .int .u8 z8, .int .i64 z9, u]] w fun e w' => e = .returned (.bool true) ∧ After o w T ns (N + 1) w' := by
  have H := Lib.hid h
  clear h
  go_enter Try.func8, Try.ntmps8
  go_wp2_with ((with_reducible refine L_boxAct (cs := #[.int .i64 z0, .int .i64 z1, .int .i64 z2, .int .i64 z3, .int .i64 z4, .int .u32 z5, .int .u64 z6, .int .u64 z7, .int .u8 z8, .int .i64 z9, u]) ?_ ?_); exact rfl; intro w1 b1 bx1; have M1 := Lib.hid (H.out.below b1); have X1 := Lib.hid (Ex.of_below (o := o) b1); have BX1 := Lib.hid (bx1 o H.out.lt); have a0 := BX1.out.cells 0 _ rfl; have a1 := BX1.out.cells 1 _ rfl; obtain ⟨t0, t3, tk, tf⟩ := M1.out.cells; obtain ⟨tD, tE⟩ := tk k hk; clear b1 bx1 tk)
  have hk2 : (k : Int) < 2 := by omega
  go_quiet (fail)
  have M2 := Lib.hid (M1.out.drewN nq)
  have X2 := Lib.hid (X1.out.trans (Ex.drewN o w1 nq))
  have BX2 := Lib.hid (BX1.out.ex (Ex.drewN o w1 nq))
  generalize w1.drewN nq = w2 at M2 X2 BX2 ⊢
  clear M1 X1 BX1 a0 a1 t0 t3 tf tD tE
  have a0 := BX2.out.cells 0 _ rfl
  go_wp2
  go_ret
  exact ⟨rfl, o, p, q, D, E, s, d, M2.out.more (Nat.le_succ N) hN, X2.out⟩
set_option maxHeartbeats 8000000 in
theorem do9b (h : Mid o w T p q D E ns N s d s d) (hN : N + 1 ≤ 1000000) (z1 z2 z3 z4 z5 z6 z7 z8 z9 : Int) (u : Value) (z0 : Int) (n0 : ¬ z0 = 0) (n1 : ¬ z0 = 1) (n2 : ¬ z0 = 2) (n3 : ¬ z0 = 3) (n4 : ¬ z0 = 4) (n5 : ¬ z0 = 5) (n6 : ¬ z0 = 6) (n7 : ¬ z0 = 7) (n8 : ¬ z0 = 8) (hrem : z1.tmod 2 = -1) :
    Calls Try.prog 8 #[.pointer (some ⟨T, 0, none⟩), .agg #[.int .i64 z0, .int .i64 z1, .int .i64 z2, .int .i64 z3, .int .i64 z4, .int .u32 z5, .int .u64 z6, .int .u64 z7, .int .u8 z8, .int .i64 z9, u]] w fun e w' => e = .returned (.bool true) ∧ After o w T ns (N + 1) w' := by
  have H := Lib.hid h
  have hk : 1 < 2 := by decide
  clear h
  go_enter Try.func8, Try.ntmps8
  go_wp2_with ((with_reducible refine L_boxAct (cs := #[.int .i64 z0, .int .i64 z1, .int .i64 z2, .int .i64 z3, .int .i64 z4, .int .u32 z5, .int .u64 z6, .int .u64 z7, .int .u8 z8, .int .i64 z9, u]) ?_ ?_); exact rfl; intro w1 b1 bx1; have M1 := Lib.hid (H.out.below b1); have X1 := Lib.hid (Ex.of_below (o := o) b1); have BX1 := Lib.hid (bx1 o H.out.lt); have a0 := BX1.out.cells 0 _ rfl; have a1 := BX1.out.cells 1 _ rfl; obtain ⟨t0, t3, tk, tf⟩ := M1.out.cells; obtain ⟨tD, tE⟩ : w1.cell? ⟨T, 2, none⟩ = some (.pointer (some ⟨D 1, 0, none⟩)) ∧ w1.cell? ⟨T, 5, none⟩ = some (.pointer (some ⟨E 1, 0, none⟩)) := tk 1 hk; clear b1 bx1 tk)
  go_quiet (fail)
  have M2 := Lib.hid (M1.out.drewN nq)
  have X2 := Lib.hid (X1.out.trans (Ex.drewN o w1 nq))
  have BX2 := Lib.hid (BX1.out.ex (Ex.drewN o w1 nq))
  generalize w1.drewN nq = w2 at M2 X2 BX2 ⊢
  clear M1 X1 BX1 a0 a1 t0 t3 tf tD tE
  have a0 := BX2.out.cells 0 _ rfl
  go_wp2
  go_ret
  exact ⟨rfl, o, p, q, D, E, s, d, M2.out.more (Nat.le_succ N) hN, X2.out⟩
end
end Go.Proofs.Ytdkniholeaiemaa.W
