/-
  What is kept through a law's walk: blocks of the call's own, and all elder memory. The walk of PlanMakes. No conditions.
-/
import Derived.Test.YtpaakakkcbahcaaPnPlan4
import Derived.Deep.RegionHeld
import Derived.Deep.DrawnRows
import Derived.ChangeKeysEq
import Derived.Laws.StructEq
namespace Go.Proofs.Ytpaakakkcbahcaa.W
open Go.RowKit Num
set_option linter.unusedVariables false

theorem info_int : (Try.prog.info? 3).map (fun i => (i.zero, i.size, i.bytes)) = some (some (.int .i64 0), 1, 8) := by kernel_rfl
theorem cells_int : Try.prog.cellsOf 3 = 1 := by kernel_rfl
/-- two pairs of numbers compared -/
theorem eq_arr (w : World) (a b c d : Int) : (Op.equalIn 9999 26 (.agg #[.int .i64 a, .int .i64 b]) (.agg #[.int .i64 c, .int .i64 d])).run Try.prog w = .ok ((a == c) && (b == d)) w := by
  obtain ⟨i, hi, hz0, hz1, hz2⟩ := info_parts info_int
  rw [run_equalIn_array w 9998 _ _ Try.underlying26 hi, cells_int]
  have px : ∀ (w : World) (xs : Array Value) (k : Nat) (v : Value), xs[k]? = some v → (part 3 xs k).run Try.prog w = .ok v w := fun w xs k v hv => by
    simp [part, isAgg, run_underlying Try.underlying3, hv]
  have pe : ∀ (w : World) (x y : Int), (Op.equalIn 9998 3 (.int .i64 x) (.int .i64 y)).run Try.prog w = .ok (x == y) w := fun w x y => run_equalIn_int w 9997 3 .i64 .i64 x y Try.underlying3
  simp only [List.range_succ, List.range_zero, List.nil_append, List.cons_append, Op.eqItems, Sem.run_bind]
  rw [px w _ _ (.int .i64 a) rfl]
  simp only [Result.andThen_ok]
  rw [px w _ _ (.int .i64 c) rfl]
  simp only [Result.andThen_ok, pe]
  by_cases h : a = c
  · subst h
    simp only [beq_self_eq_true, Bool.not_true, Bool.false_eq_true, if_false, Sem.run_bind]
    rw [px w _ _ (.int .i64 b) rfl]
    simp only [Result.andThen_ok]
    rw [px w _ _ (.int .i64 d) rfl]
    simp only [Result.andThen_ok, pe]
    by_cases h2 : b = d
    · subst h2; simp
    · have : (b == d) = false := by simp [h2]
      simp [this]
  · have : (a == c) = false := by simp [h]
    simp [this]
attribute [local go_sem] eq_arr
/-- since w0 no elder block has turned, and these blocks hold these cells -/
def Ks (w0 : World) (L : List (Nat × Array Value × TypeId)) (w : World) : Prop := Below w0.heap.size w0 w ∧ ∀ x ∈ L, w.heap[x.1]? = some (.cells x.2.1 x.2.2 (0, 0))
theorem Ks.nil (w : World) : Ks w [] w := ⟨Below.refl _ _, fun _ h => by cases h⟩
theorem Ks.step {w0 w w' : World} {L : List (Nat × Array Value × TypeId)} (h : Ks w0 L w) (b : Below w.heap.size w w') : Ks w0 L w' :=
  ⟨bthen h.1 b, fun x hx => (b.block _ (Array.getElem?_eq_some_iff.1 (h.2 x hx)).1).trans (h.2 x hx)⟩
theorem Ks.drew {w0 w : World} {L : List (Nat × Array Value × TypeId)} (h : Ks w0 L w) : Ks w0 L w.drew := ⟨h.1.drew, h.2⟩
theorem Ks.drewN {w0 w : World} {L : List (Nat × Array Value × TypeId)} (h : Ks w0 L w) (n : Nat) : Ks w0 L (w.drewN n) := ⟨below_drewN h.1 n, h.2⟩
theorem Ks.alloc {w0 w : World} {L : List (Nat × Array Value × TypeId)} (h : Ks w0 L w) (cs : Array Value) (T : TypeId) : Ks w0 ((w.heap.size, cs, T) :: L) (w.alloc (.cells cs T)) := by
  have h' := h.step (balloc w (.cells cs T))
  refine ⟨h'.1, fun x hx => ?_⟩
  rcases List.mem_cons.1 hx with rfl | hx
  · exact heap_alloc_new _ _
  · exact h'.2 x hx
theorem Ks.put {w0 w w' : World} {L : List (Nat × Array Value × TypeId)} (h : Ks w0 L w) {g : Nat} {cs : Array Value} {T : TypeId} (hg : w'.heap[g]? = some (.cells cs T (0, 0))) (hn : w0.heap.size ≤ g) (gr : w.grownBy w' (some g)) (hL : ∀ x ∈ L, x.1 ≠ g) : Ks w0 ((g, cs, T) :: L) w' := by
  refine ⟨h.1.grown gr h.1.size (fun k e => by injection e with e; omega), fun x hx => ?_⟩
  rcases List.mem_cons.1 hx with rfl | hx
  · exact hg
  · exact (gr.block _ (Array.getElem?_eq_some_iff.1 (h.2 x hx)).1 (fun e => hL x hx (by injection e))).trans (h.2 x hx)
theorem Ks.h0 {w0 w : World} {L : List (Nat × Array Value × TypeId)} {x : Nat × Array Value × TypeId} (h : Ks w0 (x :: L) w) : w.heap[x.1]? = some (.cells x.2.1 x.2.2 (0, 0)) := h.2 x (List.mem_cons_self ..)
theorem Ks.h1 {w0 w : World} {L : List (Nat × Array Value × TypeId)} {x y : Nat × Array Value × TypeId} (h : Ks w0 (y :: x :: L) w) : w.heap[x.1]? = some (.cells x.2.1 x.2.2 (0, 0)) := h.2 x (by simp)
theorem Ks.h2 {w0 w : World} {L : List (Nat × Array Value × TypeId)} {x y z : Nat × Array Value × TypeId} (h : Ks w0 (z :: y :: x :: L) w) : w.heap[x.1]? = some (.cells x.2.1 x.2.2 (0, 0)) := h.2 x (by simp)
/-- cell by cell: a map, and settings -/
theorem Ks.cm {w0 w : World} {cb mb : Nat} {c : Cf} {p : Pl} (h : Ks w0 [(mb, #[.int .i64 p.a0, .int .i64 p.a1, .int .i64 p.a2, .int .i64 p.a3, .int .i64 p.a4, .int .i64 p.a5, .int .i64 p.a6, .int .i64 p.a7, .int .i64 p.a8, .int .i64 p.a9, .int .i64 p.a10, .int .i64 p.a11, .int .i64 p.a12], 32), (cb, #[.int .i64 c.c0, .int .i64 c.c1, .int .i64 c.c2, .int .i64 c.c3, .int .i64 c.c4, c.c5, c.c6, c.c7, c.c8, .int .i64 c.c9], 25)] w) : (fun w' => w'.cell? ⟨cb, 0, none⟩ = some (.int .i64 c.c0) ∧ w'.cell? ⟨cb, 1, none⟩ = some (.int .i64 c.c1) ∧ w'.cell? ⟨cb, 2, none⟩ = some (.int .i64 c.c2) ∧ w'.cell? ⟨cb, 3, none⟩ = some (.int .i64 c.c3) ∧ w'.cell? ⟨cb, 4, none⟩ = some (.int .i64 c.c4) ∧ w'.cell? ⟨cb, 5, none⟩ = some (c.c5) ∧ w'.cell? ⟨cb, 6, none⟩ = some (c.c6) ∧ w'.cell? ⟨cb, 7, none⟩ = some (c.c7) ∧ w'.cell? ⟨cb, 8, none⟩ = some (c.c8) ∧ w'.cell? ⟨cb, 9, none⟩ = some (.int .i64 c.c9) ∧ w'.cell? ⟨mb, 0, none⟩ = some (.int .i64 p.a0) ∧ w'.cell? ⟨mb, 1, none⟩ = some (.int .i64 p.a1) ∧ w'.cell? ⟨mb, 2, none⟩ = some (.int .i64 p.a2) ∧ w'.cell? ⟨mb, 3, none⟩ = some (.int .i64 p.a3) ∧ w'.cell? ⟨mb, 4, none⟩ = some (.int .i64 p.a4) ∧ w'.cell? ⟨mb, 5, none⟩ = some (.int .i64 p.a5) ∧ w'.cell? ⟨mb, 6, none⟩ = some (.int .i64 p.a6) ∧ w'.cell? ⟨mb, 7, none⟩ = some (.int .i64 p.a7) ∧ w'.cell? ⟨mb, 8, none⟩ = some (.int .i64 p.a8) ∧ w'.cell? ⟨mb, 9, none⟩ = some (.int .i64 p.a9) ∧ w'.cell? ⟨mb, 10, none⟩ = some (.int .i64 p.a10) ∧ w'.cell? ⟨mb, 11, none⟩ = some (.int .i64 p.a11) ∧ w'.cell? ⟨mb, 12, none⟩ = some (.int .i64 p.a12)) w := by
  have hm : ∀ j v, (#[.int .i64 p.a0, .int .i64 p.a1, .int .i64 p.a2, .int .i64 p.a3, .int .i64 p.a4, .int .i64 p.a5, .int .i64 p.a6, .int .i64 p.a7, .int .i64 p.a8, .int .i64 p.a9, .int .i64 p.a10, .int .i64 p.a11, .int .i64 p.a12] : Array Value)[j]? = some v → w.cell? ⟨mb, j, none⟩ = some v := fun j v e => heap_cell h.h0 e
  have hc : ∀ j v, (#[.int .i64 c.c0, .int .i64 c.c1, .int .i64 c.c2, .int .i64 c.c3, .int .i64 c.c4, c.c5, c.c6, c.c7, c.c8, .int .i64 c.c9] : Array Value)[j]? = some v → w.cell? ⟨cb, j, none⟩ = some v := fun j v e => heap_cell h.h1 e
  exact ⟨hc 0 _ rfl, hc 1 _ rfl, hc 2 _ rfl, hc 3 _ rfl, hc 4 _ rfl, hc 5 _ rfl, hc 6 _ rfl, hc 7 _ rfl, hc 8 _ rfl, hc 9 _ rfl, hm 0 _ rfl, hm 1 _ rfl, hm 2 _ rfl, hm 3 _ rfl, hm 4 _ rfl, hm 5 _ rfl, hm 6 _ rfl, hm 7 _ rfl, hm 8 _ rfl, hm 9 _ rfl, hm 10 _ rfl, hm 11 _ rfl, hm 12 _ rfl⟩

set_option maxHeartbeats 4000000 in
theorem makes_no (c : Cf) (hm : ¬ May c) (h5 : c.c5 = .int .u64 0 ∧ c.c6 = .float .f64 0 ∧ c.c7 = .float .f64 0 ∧ c.c8 = .float .f64 0) (w : World) :
    Calls Try.prog 3 #[.int .i64 c.c0, .int .i64 c.c1, .int .i64 c.c2, .int .i64 c.c3, .int .i64 c.c4, .int .i64 c.c9] w fun e w' => e = .returned (.bool true) ∧ Below w.heap.size w w' := by
  have HM := Lib.hid hm
  have HC := Lib.hid (show (#[.int .i64 c.c0, .int .i64 c.c1, .int .i64 c.c2, .int .i64 c.c3, .int .i64 c.c4, .int .u64 0, .float .f64 0, .float .f64 0, .float .f64 0, .int .i64 c.c9] : Array Value) = #[.int .i64 c.c0, .int .i64 c.c1, .int .i64 c.c2, .int .i64 c.c3, .int .i64 c.c4, c.c5, c.c6, c.c7, c.c8, .int .i64 c.c9] by rw [h5.1, h5.2.1, h5.2.2.1, h5.2.2.2])
  clear hm h5
  go_enter Try.func3, Try.ntmps3
  go_wp2_with (first | ((with_reducible apply L_storeRow (N := 10) info_conf); exact rfl; exact rfl; exact heap_alloc_new _ _; exact rfl; exact rfl; (simp [Value.oneCell']); intro w1 h1 g1; rw [HC.out] at h1; have H1 := Lib.hid h1; have B1 := Lib.hid ((balloc _ _).grown g1 (by simp) (fun k e => by injection e with e; omega)); clear h1 g1) | ((with_reducible apply L_loadConf); exact rfl; exact H1.out; exact rfl))
  have K1 : Hid (Ks w [(w.heap.size, #[.int .i64 c.c0, .int .i64 c.c1, .int .i64 c.c2, .int .i64 c.c3, .int .i64 c.c4, c.c5, c.c6, c.c7, c.c8, .int .i64 c.c9], 25)] w1) := ⟨B1.out, fun x hx => by simp at hx; subst hx; exact H1.out⟩
  clear H1 B1 HC
  refine (of_no c HM.out _).mono ?_; rintro e w2 ⟨rfl, b2⟩
  have K2 := Lib.hid (K1.out.step b2)
  clear b2 K1
  go_wp2_with ((with_reducible apply L_loadConf); exact rfl; exact (K2.out.alloc _ _).h1; exact rfl)
  refine (may_no c _ HM.out).mono ?_; rintro e w3 ⟨rfl, b3⟩
  have K3 : Hid (Ks w [(w2.heap.size, #[.int .i64 noPlan.a0, .int .i64 noPlan.a1, .int .i64 noPlan.a2, .int .i64 noPlan.a3, .int .i64 noPlan.a4, .int .i64 noPlan.a5, .int .i64 noPlan.a6, .int .i64 noPlan.a7, .int .i64 noPlan.a8, .int .i64 noPlan.a9, .int .i64 noPlan.a10, .int .i64 noPlan.a11, .int .i64 noPlan.a12], 32), (w.heap.size, #[.int .i64 c.c0, .int .i64 c.c1, .int .i64 c.c2, .int .i64 c.c3, .int .i64 c.c4, c.c5, c.c6, c.c7, c.c8, .int .i64 c.c9], 25)] w3) := (K2.out.alloc #[.int .i64 noPlan.a0, .int .i64 noPlan.a1, .int .i64 noPlan.a2, .int .i64 noPlan.a3, .int .i64 noPlan.a4, .int .i64 noPlan.a5, .int .i64 noPlan.a6, .int .i64 noPlan.a7, .int .i64 noPlan.a8, .int .i64 noPlan.a9, .int .i64 noPlan.a10, .int .i64 noPlan.a11, .int .i64 noPlan.a12] 32).step b3
  clear b3 K2
  obtain ⟨r0, r1, r2, r3, r4, r5, r6, r7, r8, r9, s0, s1, s2, s3, s4, s5, s6, s7, s8, s9, s10, s11, s12⟩ := K3.out.cm
  go_wp2_with fail
  refine (check_no c _ HM.out).mono ?_; rintro e w4 ⟨rfl, b4⟩
  clear r0 r1 r2 r3 r4 r5 r6 r7 r8 r9 s0 s1 s2 s3 s4 s5 s6 s7 s8 s9 s10 s11 s12
  have K4 := Lib.hid (K3.out.step b4)
  clear b4 K3
  obtain ⟨r0, r1, r2, r3, r4, r5, r6, r7, r8, r9, s0, s1, s2, s3, s4, s5, s6, s7, s8, s9, s10, s11, s12⟩ := K4.out.cm
  go_wp2_with fail
  refine (plan_any noPlan _).mono ?_; rintro e w5 ⟨rfl, b5⟩
  clear r0 r1 r2 r3 r4 r5 r6 r7 r8 r9 s0 s1 s2 s3 s4 s5 s6 s7 s8 s9 s10 s11 s12
  have K5 := Lib.hid (K4.out.step b5)
  clear b5 K4
  go_wp2_with fail
  refine (awake_any _).mono ?_; rintro e w6 ⟨rfl, b6⟩
  have K6 := Lib.hid (K5.out.step b6)
  clear b6 K5
  go_wp2
  go_ret
  exact ⟨rfl, K6.out.1⟩
end Go.Proofs.Ytpaakakkcbahcaa.W
