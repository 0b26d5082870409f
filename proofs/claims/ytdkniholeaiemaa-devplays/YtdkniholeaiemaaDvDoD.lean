/-
  A call on both pairs: a crash of both. No conditions.
-/
import Derived.Test.YtdkniholeaiemaaDvCrash2
import Derived.Deep.RegionHeld
import Derived.Deep.DrawnRows
namespace Go.Proofs.Ytdkniholeaiemaa.W
open Go.RowKit Oc Dm Gt Tn
set_option linter.unusedVariables false
set_option maxRecDepth 100000
attribute [local go_sem ↓] Go.wp_at_zero Go.wp_at_succ
section
variable {o : Nat → Nat} {w : World} {T p q : Nat} {D E ns : Nat → Nat} {N : Nat} {s : PS} {d : Nat → DD}
set_option maxHeartbeats 8000000 in
theorem do7a (h : Mid o w T p q D E ns N s d s d) (hN : N + 1 ≤ 1000000) (k : Nat) (hk : k < 2) (z1 z2 z3 z4 z5 z6 z7 z8 z9 : Int) (fa : Option Addr) (fl fc : Nat) (fs : List Int) (hf : Fo o w fa fl fs) (hfl : fl ≤ maxLen) (hrem : z1.tmod 2 = (k : Int)) :
    Calls Try.prog 8 #[.pointer (some ⟨T, 0, none⟩), .agg #[.int .i64 7, .int .i64 z1, .int .i64 z2, .int .i64 z3, .int .i64 z4, .int .u32 z5, .int .u64 z6, .int .u64 z7, .int .u8 z8, .int .i64 z9, .slice fa fl fc]] w fun e w' => e = .returned (.bool true) ∧ After o w T ns (N + 1) w' := by
  have H := Lib.hid h
  have HF := Lib.hid hf
  have HFL := Lib.hid hfl
  clear hf hfl
  clear h
  go_enter Try.func8, Try.ntmps8
  go_wp2_with ((with_reducible refine L_boxAct (cs := #[.int .i64 7, .int .i64 z1, .int .i64 z2, .int .i64 z3, .int .i64 z4, .int .u32 z5, .int .u64 z6, .int .u64 z7, .int .u8 z8, .int .i64 z9, .slice fa fl fc]) ?_ ?_); exact rfl; intro w1 b1 bx1; have M1 := Lib.hid (H.out.below b1); have X1 := Lib.hid (Ex.of_below (o := o) b1); have BX1 := Lib.hid (bx1 o H.out.lt); have a0 := BX1.out.cells 0 _ rfl; have a1 := BX1.out.cells 1 _ rfl; obtain ⟨t0, t3, tk, tf⟩ := M1.out.cells; obtain ⟨tD, tE⟩ := tk k hk; clear b1 bx1 tk)
  have hk2 : (k : Int) < 2 := by omega
  go_quiet (fail)
  have M2 := Lib.hid (M1.out.drewN nq)
  have X2 := Lib.hid (X1.out.trans (Ex.drewN o w1 nq))
  have BX2 := Lib.hid (BX1.out.ex (Ex.drewN o w1 nq))
  generalize w1.drewN nq = w2 at M2 X2 BX2 ⊢
  clear M1 X1 BX1 a0 a1 t0 t3 tf tD tE
  have a0 := BX2.out.cells 0 _ rfl
  have a10 := BX2.out.cells 10 _ rfl
  have F2 := Lib.hid (HF.out.ex X2.out)
  go_wp2_with fail
  refine (crash2_any M2.out fa fl fc fs F2.out HFL.out).mono ?_; rintro e w3 ⟨rfl, o3, p3, q3, D3, E3, s3, d3, m3, x3⟩
  have M3 := Lib.hid m3
  have X3 := Lib.hid (X2.out.trans x3)
  clear m3 x3 a0 a10
  go_wp2
  go_ret
  exact ⟨rfl, o3, p3, q3, D3, E3, s3, d3, M3.out.more (Nat.le_succ N) hN, X3.out⟩
set_option maxHeartbeats 8000000 in
theorem do7b (h : Mid o w T p q D E ns N s d s d) (hN : N + 1 ≤ 1000000) (z1 z2 z3 z4 z5 z6 z7 z8 z9 : Int) (fa : Option Addr) (fl fc : Nat) (fs : List Int) (hf : Fo o w fa fl fs) (hfl : fl ≤ maxLen) (hrem : z1.tmod 2 = -1) :
    Calls Try.prog 8 #[.pointer (some ⟨T, 0, none⟩), .agg #[.int .i64 7, .int .i64 z1, .int .i64 z2, .int .i64 z3, .int .i64 z4, .int .u32 z5, .int .u64 z6, .int .u64 z7, .int .u8 z8, .int .i64 z9, .slice fa fl fc]] w fun e w' => e = .returned (.bool true) ∧ After o w T ns (N + 1) w' := by
  have H := Lib.hid h
  have hk : 1 < 2 := by decide
  have HF := Lib.hid hf
  have HFL := Lib.hid hfl
  clear hf hfl
  clear h
  go_enter Try.func8, Try.ntmps8
  go_wp2_with ((with_reducible refine L_boxAct (cs := #[.int .i64 7, .int .i64 z1, .int .i64 z2, .int .i64 z3, .int .i64 z4, .int .u32 z5, .int .u64 z6, .int .u64 z7, .int .u8 z8, .int .i64 z9, .slice fa fl fc]) ?_ ?_); exact rfl; intro w1 b1 bx1; have M1 := Lib.hid (H.out.below b1); have X1 := Lib.hid (Ex.of_below (o := o) b1); have BX1 := Lib.hid (bx1 o H.out.lt); have a0 := BX1.out.cells 0 _ rfl; have a1 := BX1.out.cells 1 _ rfl; obtain ⟨t0, t3, tk, tf⟩ := M1.out.cells; obtain ⟨tD, tE⟩ : w1.cell? ⟨T, 2, none⟩ = some (.pointer (some ⟨D 1, 0, none⟩)) ∧ w1.cell? ⟨T, 5, none⟩ = some (.pointer (some ⟨E 1, 0, none⟩)) := tk 1 hk; clear b1 bx1 tk)
  go_quiet (fail)
  have M2 := Lib.hid (M1.out.drewN nq)
  have X2 := Lib.hid (X1.out.trans (Ex.drewN o w1 nq))
  have BX2 := Lib.hid (BX1.out.ex (Ex.drewN o w1 nq))
  generalize w1.drewN nq = w2 at M2 X2 BX2 ⊢
  clear M1 X1 BX1 a0 a1 t0 t3 tf tD tE
  have a0 := BX2.out.cells 0 _ rfl
  have a10 := BX2.out.cells 10 _ rfl
  have F2 := Lib.hid (HF.out.ex X2.out)
  go_wp2_with fail
  refine (crash2_any M2.out fa fl fc fs F2.out HFL.out).mono ?_; rintro e w3 ⟨rfl, o3, p3, q3, D3, E3, s3, d3, m3, x3⟩
  have M3 := Lib.hid m3
  have X3 := Lib.hid (X2.out.trans x3)
  clear m3 x3 a0 a10
  go_wp2
  go_ret
  exact ⟨rfl, o3, p3, q3, D3, E3, s3, d3, M3.out.more (Nat.le_succ N) hN, X3.out⟩
end
end Go.Proofs.Ytdkniholeaiemaa.W
