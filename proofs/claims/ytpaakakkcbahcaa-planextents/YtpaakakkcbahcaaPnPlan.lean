/-
  Contracts of package plan, one by one: what each call answers, and that no elder memory turns. No conditions but bounds of the numbers.
-/
import Derived.Test.YtpaakakkcbahcaaPnCount
import Derived.Below
namespace Go.Proofs.Ytpaakakkcbahcaa.W
open Go.RowKit Num
set_option linter.unusedVariables false

theorem balloc (w : World) (o : Obj) : Below w.heap.size w (w.alloc o) := (Below.refl _ _).alloc (Nat.le_refl _) o
theorem bthen {w a b : World} (h : Below w.heap.size w a) (k : Below a.heap.size a b) : Below w.heap.size w b := h.trans (k.mono h.size)

/-- a plan: its thirteen numbers -/
structure Pl where
  a0 : Int
  a1 : Int
  a2 : Int
  a3 : Int
  a4 : Int
  a5 : Int
  a6 : Int
  a7 : Int
  a8 : Int
  a9 : Int
  a10 : Int
  a11 : Int
  a12 : Int

/-- settings: six numbers, and what is any -/
structure Cf where
  c0 : Int
  c1 : Int
  c2 : Int
  c3 : Int
  c4 : Int
  c5 : Value
  c6 : Value
  c7 : Value
  c8 : Value
  c9 : Int

/-- which may be -/
def May (c : Cf) : Prop := (1 ≤ c.c0 ∧ c.c0 ≤ 512) ∧ (1 ≤ c.c1 ∧ c.c1 ≤ 192) ∧ (1 ≤ c.c2 ∧ c.c2 ≤ 256) ∧ (1 ≤ c.c3 ∧ c.c3 ≤ 4096) ∧ (0 ≤ c.c4 ∧ c.c4 ≤ 1048576) ∧ (0 ≤ c.c9 ∧ c.c9 ≤ 1048576)
theorem agg_eq {p : Pl} {x0 x1 x2 x3 x4 x5 x6 x7 x8 x9 x10 x11 x12 : Int} (h0 : x0 = p.a0) (h1 : x1 = p.a1) (h2 : x2 = p.a2) (h3 : x3 = p.a3) (h4 : x4 = p.a4) (h5 : x5 = p.a5) (h6 : x6 = p.a6) (h7 : x7 = p.a7) (h8 : x8 = p.a8) (h9 : x9 = p.a9) (h10 : x10 = p.a10) (h11 : x11 = p.a11) (h12 : x12 = p.a12) : (.agg #[.int .i64 x0, .int .i64 x1, .int .i64 x2, .int .i64 x3, .int .i64 x4, .int .i64 x5, .int .i64 x6, .int .i64 x7, .int .i64 x8, .int .i64 x9, .int .i64 x10, .int .i64 x11, .int .i64 x12] : Value) = (.agg #[.int .i64 p.a0, .int .i64 p.a1, .int .i64 p.a2, .int .i64 p.a3, .int .i64 p.a4, .int .i64 p.a5, .int .i64 p.a6, .int .i64 p.a7, .int .i64 p.a8, .int .i64 p.a9, .int .i64 p.a10, .int .i64 p.a11, .int .i64 p.a12]) := by
  subst_vars; rfl
theorem ret_mv {p : Pl} {x0 x1 x2 x3 x4 x5 x6 x7 x8 x9 x10 x11 x12 : Int} (h0 : x0 = p.a0) (h1 : x1 = p.a1) (h2 : x2 = p.a2) (h3 : x3 = p.a3) (h4 : x4 = p.a4) (h5 : x5 = p.a5) (h6 : x6 = p.a6) (h7 : x7 = p.a7) (h8 : x8 = p.a8) (h9 : x9 = p.a9) (h10 : x10 = p.a10) (h11 : x11 = p.a11) (h12 : x12 = p.a12) : Ending.returned (.agg #[.int .i64 x0, .int .i64 x1, .int .i64 x2, .int .i64 x3, .int .i64 x4, .int .i64 x5, .int .i64 x6, .int .i64 x7, .int .i64 x8, .int .i64 x9, .int .i64 x10, .int .i64 x11, .int .i64 x12]) = .returned (.agg #[.int .i64 p.a0, .int .i64 p.a1, .int .i64 p.a2, .int .i64 p.a3, .int .i64 p.a4, .int .i64 p.a5, .int .i64 p.a6, .int .i64 p.a7, .int .i64 p.a8, .int .i64 p.a9, .int .i64 p.a10, .int .i64 p.a11, .int .i64 p.a12]) := by
  rw [agg_eq h0 h1 h2 h3 h4 h5 h6 h7 h8 h9 h10 h11 h12]
/-- the plan of settings that may be -/
def planOf (b s l : Int) : Pl :=
  { a0 := b, a1 := ups b 8, a2 := ups (ups b 8) 6, a3 := b, a4 := b + 2 * ups (ups b 8) 6, a5 := ups s 3, a6 := 2 + 2 * ups s 3, a7 := l, a8 := 2 + 2 * ups s 3 + l, a9 := s, a10 := 2, a11 := 2 + ups s 3, a12 := 2 + 2 * ups s 3 + l + 2 * s }
/-- no plan -/
def noPlan : Pl := ⟨0, 0, 0, 0, 0, 0, 0, 0, 0, 0, 0, 0, 0⟩

theorem within_yes (n lo hi : Int) (w : World) (h1 : lo ≤ n) (h2 : n ≤ hi) : Calls Try.prog 30 #[.int .i64 n, .int .i64 lo, .int .i64 hi] w fun e w' => e = .returned (.bool true) ∧ w = w' := by
  go_enter Try.func30, Try.ntmps30
  go_wp2
  go_ret
  exact ⟨rfl, rfl⟩
theorem within_no (n lo hi : Int) (w : World) (h : ¬ (lo ≤ n ∧ n ≤ hi)) : Calls Try.prog 30 #[.int .i64 n, .int .i64 lo, .int .i64 hi] w fun e w' => e = .returned (.bool false) ∧ w = w' := by
  by_cases h1 : lo ≤ n
  · have h2 : ¬ n ≤ hi := fun x => h ⟨h1, x⟩
    clear h
    go_enter Try.func30, Try.ntmps30
    go_wp2
    go_ret
    exact ⟨rfl, rfl⟩
  · clear h
    go_enter Try.func30, Try.ntmps30
    go_wp2
    go_ret
    exact ⟨rfl, rfl⟩
theorem from_yes (n lo hi : Int) (w : World) (h1 : lo ≤ n) (h2 : n ≤ hi) : Calls Try.prog 29 #[.int .i64 n, .int .i64 lo, .int .i64 hi] w fun e w' => e = .returned (.bool true) ∧ w = w' := by
  go_enter Try.func29, Try.ntmps29
  go_wp2
  go_ret
  exact ⟨rfl, rfl⟩
theorem from_no (n lo hi : Int) (w : World) (h : ¬ (lo ≤ n ∧ n ≤ hi)) : Calls Try.prog 29 #[.int .i64 n, .int .i64 lo, .int .i64 hi] w fun e w' => e = .returned (.bool false) ∧ w = w' := by
  by_cases h1 : lo ≤ n
  · have h2 : ¬ n ≤ hi := fun x => h ⟨h1, x⟩
    clear h
    go_enter Try.func29, Try.ntmps29
    go_wp2
    go_ret
    exact ⟨rfl, rfl⟩
  · clear h
    go_enter Try.func29, Try.ntmps29
    go_wp2
    go_ret
    exact ⟨rfl, rfl⟩
theorem one_yes (n m : Int) (w : World) (h1 : 0 ≤ n) (h2 : n < m) : Calls Try.prog 32 #[.int .i64 n, .int .i64 m] w fun e w' => e = .returned (.bool true) ∧ w = w' := by
  go_enter Try.func32, Try.ntmps32
  go_wp2
  go_ret
  exact ⟨rfl, rfl⟩
theorem one_no (n m : Int) (w : World) (h : ¬ (0 ≤ n ∧ n < m)) : Calls Try.prog 32 #[.int .i64 n, .int .i64 m] w fun e w' => e = .returned (.bool false) ∧ w = w' := by
  by_cases h1 : 0 ≤ n
  · have h2 : ¬ n < m := fun x => h ⟨h1, x⟩
    clear h
    go_enter Try.func32, Try.ntmps32
    go_wp2
    go_ret
    exact ⟨rfl, rfl⟩
  · clear h
    go_enter Try.func32, Try.ntmps32
    go_wp2
    go_ret
    exact ⟨rfl, rfl⟩

theorem info_plan : (Try.prog.info? 28).map (·.size) = some 13 := by kernel_rfl
theorem info_map : (Try.prog.info? 32).map (·.size) = some 13 := by kernel_rfl
theorem info_chart : (Try.prog.info? 30).map (·.size) = some 13 := by kernel_rfl
theorem info_conf : (Try.prog.info? 25).map (·.size) = some 10 := by kernel_rfl

theorem plan_any (p : Pl) (w : World) : Calls Try.prog 10 #[(.agg #[.int .i64 p.a0, .int .i64 p.a1, .int .i64 p.a2, .int .i64 p.a3, .int .i64 p.a4, .int .i64 p.a5, .int .i64 p.a6, .int .i64 p.a7, .int .i64 p.a8, .int .i64 p.a9, .int .i64 p.a10, .int .i64 p.a11, .int .i64 p.a12])] w fun e w' => e = .returned (.agg #[.int .i64 p.a0, .int .i64 p.a1, .int .i64 p.a2, .int .i64 p.a3, .int .i64 p.a4, .int .i64 p.a5, .int .i64 p.a6, .int .i64 p.a7, .int .i64 p.a8, .int .i64 p.a9, .int .i64 p.a10, .int .i64 p.a11, .int .i64 p.a12]) ∧ Below w.heap.size w w' := by
  go_enter Try.func10, Try.ntmps10
  go_wp2
  refine bodyPost_ret (results_cell_row rfl _ _ _ _ _ _ _ rfl (heap_alloc2_new _ _ _) Try.underlying28 rfl info_plan) rfl ?_
  exact ⟨rfl, bthen (balloc _ _) (balloc _ _)⟩

theorem extent_yes (p : Pl) (n : Int) (w : World) (h1 : 0 ≤ n) (h2 : n < p.a0) (h3 : n ≤ 9223372036854775807) : Calls Try.prog 22 #[(.agg #[.int .i64 p.a0, .int .i64 p.a1, .int .i64 p.a2, .int .i64 p.a3, .int .i64 p.a4, .int .i64 p.a5, .int .i64 p.a6, .int .i64 p.a7, .int .i64 p.a8, .int .i64 p.a9, .int .i64 p.a10, .int .i64 p.a11, .int .i64 p.a12]), .int .i64 n] w fun e w' => e = .returned (.tuple #[.int .i64 (n / 8), .int .i64 (n % 8), .bool true]) ∧ Below w.heap.size w w' := by
  go_enter Try.func22, Try.ntmps22
  go_wp2_with fail
  refine (one_yes _ _ _ h1 h2).mono ?_; rintro e w' ⟨rfl, rfl⟩
  go_wp2
  go_ret3
  exact ⟨rfl, balloc _ _⟩
theorem extent_no (p : Pl) (n : Int) (w : World) (h : ¬ (0 ≤ n ∧ n < p.a0)) : Calls Try.prog 22 #[(.agg #[.int .i64 p.a0, .int .i64 p.a1, .int .i64 p.a2, .int .i64 p.a3, .int .i64 p.a4, .int .i64 p.a5, .int .i64 p.a6, .int .i64 p.a7, .int .i64 p.a8, .int .i64 p.a9, .int .i64 p.a10, .int .i64 p.a11, .int .i64 p.a12]), .int .i64 n] w fun e w' => e = .returned (.tuple #[.int .i64 0, .int .i64 0, .bool false]) ∧ Below w.heap.size w w' := by
  go_enter Try.func22, Try.ntmps22
  go_wp2_with fail
  refine (one_no _ _ _ h).mono ?_; rintro e w' ⟨rfl, rfl⟩
  go_wp2
  go_ret3
  exact ⟨rfl, balloc _ _⟩
theorem page_yes (p : Pl) (n : Int) (w : World) (h1 : 0 ≤ n) (h2 : n < p.a1) (h3 : n ≤ 9223372036854775807) : Calls Try.prog 23 #[(.agg #[.int .i64 p.a0, .int .i64 p.a1, .int .i64 p.a2, .int .i64 p.a3, .int .i64 p.a4, .int .i64 p.a5, .int .i64 p.a6, .int .i64 p.a7, .int .i64 p.a8, .int .i64 p.a9, .int .i64 p.a10, .int .i64 p.a11, .int .i64 p.a12]), .int .i64 n] w fun e w' => e = .returned (.tuple #[.int .i64 (n / 6), .int .i64 (n % 6), .bool true]) ∧ Below w.heap.size w w' := by
  go_enter Try.func23, Try.ntmps23
  go_wp2_with fail
  refine (one_yes _ _ _ h1 h2).mono ?_; rintro e w' ⟨rfl, rfl⟩
  go_wp2
  go_ret3
  exact ⟨rfl, balloc _ _⟩
theorem page_no (p : Pl) (n : Int) (w : World) (h : ¬ (0 ≤ n ∧ n < p.a1)) : Calls Try.prog 23 #[(.agg #[.int .i64 p.a0, .int .i64 p.a1, .int .i64 p.a2, .int .i64 p.a3, .int .i64 p.a4, .int .i64 p.a5, .int .i64 p.a6, .int .i64 p.a7, .int .i64 p.a8, .int .i64 p.a9, .int .i64 p.a10, .int .i64 p.a11, .int .i64 p.a12]), .int .i64 n] w fun e w' => e = .returned (.tuple #[.int .i64 0, .int .i64 0, .bool false]) ∧ Below w.heap.size w w' := by
  go_enter Try.func23, Try.ntmps23
  go_wp2_with fail
  refine (one_no _ _ _ h).mono ?_; rintro e w' ⟨rfl, rfl⟩
  go_wp2
  go_ret3
  exact ⟨rfl, balloc _ _⟩
theorem copies_yes (p : Pl) (n : Int) (w : World) (h1 : 0 ≤ n) (h2 : n < p.a2) (h3 : p.a2 ≤ 100000) (h4 : 0 ≤ p.a3) (h5 : p.a3 ≤ 100000) : Calls Try.prog 16 #[(.agg #[.int .i64 p.a0, .int .i64 p.a1, .int .i64 p.a2, .int .i64 p.a3, .int .i64 p.a4, .int .i64 p.a5, .int .i64 p.a6, .int .i64 p.a7, .int .i64 p.a8, .int .i64 p.a9, .int .i64 p.a10, .int .i64 p.a11, .int .i64 p.a12]), .int .i64 n] w fun e w' => e = .returned (.tuple #[.int .i64 (p.a3 + 2 * n), .int .i64 (p.a3 + 2 * n + 1), .bool true]) ∧ Below w.heap.size w w' := by
  go_enter Try.func16, Try.ntmps16
  go_wp2_with fail
  refine (one_yes _ _ _ h1 h2).mono ?_; rintro e w' ⟨rfl, rfl⟩
  go_wp2
  go_ret3
  exact ⟨rfl, balloc _ _⟩
theorem copies_no (p : Pl) (n : Int) (w : World) (h : ¬ (0 ≤ n ∧ n < p.a2)) : Calls Try.prog 16 #[(.agg #[.int .i64 p.a0, .int .i64 p.a1, .int .i64 p.a2, .int .i64 p.a3, .int .i64 p.a4, .int .i64 p.a5, .int .i64 p.a6, .int .i64 p.a7, .int .i64 p.a8, .int .i64 p.a9, .int .i64 p.a10, .int .i64 p.a11, .int .i64 p.a12]), .int .i64 n] w fun e w' => e = .returned (.tuple #[.int .i64 0, .int .i64 0, .bool false]) ∧ Below w.heap.size w w' := by
  go_enter Try.func16, Try.ntmps16
  go_wp2_with fail
  refine (one_no _ _ _ h).mono ?_; rintro e w' ⟨rfl, rfl⟩
  go_wp2
  go_ret3
  exact ⟨rfl, balloc _ _⟩
theorem slot_yes (p : Pl) (n : Int) (w : World) (h1 : 0 ≤ n) (h2 : n < p.a9) (h3 : p.a9 ≤ 100000) (h4 : 0 ≤ p.a8) (h5 : p.a8 ≤ 100000) : Calls Try.prog 20 #[(.agg #[.int .i64 p.a0, .int .i64 p.a1, .int .i64 p.a2, .int .i64 p.a3, .int .i64 p.a4, .int .i64 p.a5, .int .i64 p.a6, .int .i64 p.a7, .int .i64 p.a8, .int .i64 p.a9, .int .i64 p.a10, .int .i64 p.a11, .int .i64 p.a12]), .int .i64 n] w fun e w' => e = .returned (.tuple #[.int .i64 (p.a8 + 2 * n), .int .i64 (p.a8 + 2 * n + 1), .bool true]) ∧ Below w.heap.size w w' := by
  go_enter Try.func20, Try.ntmps20
  go_wp2_with fail
  refine (one_yes _ _ _ h1 h2).mono ?_; rintro e w' ⟨rfl, rfl⟩
  go_wp2
  go_ret3
  exact ⟨rfl, balloc _ _⟩
theorem slot_no (p : Pl) (n : Int) (w : World) (h : ¬ (0 ≤ n ∧ n < p.a9)) : Calls Try.prog 20 #[(.agg #[.int .i64 p.a0, .int .i64 p.a1, .int .i64 p.a2, .int .i64 p.a3, .int .i64 p.a4, .int .i64 p.a5, .int .i64 p.a6, .int .i64 p.a7, .int .i64 p.a8, .int .i64 p.a9, .int .i64 p.a10, .int .i64 p.a11, .int .i64 p.a12]), .int .i64 n] w fun e w' => e = .returned (.tuple #[.int .i64 0, .int .i64 0, .bool false]) ∧ Below w.heap.size w w' := by
  go_enter Try.func20, Try.ntmps20
  go_wp2_with fail
  refine (one_no _ _ _ h).mono ?_; rintro e w' ⟨rfl, rfl⟩
  go_wp2
  go_ret3
  exact ⟨rfl, balloc _ _⟩
theorem region_yes (p : Pl) (n : Int) (w : World) (h0 : 0 < p.a12) (h1 : 0 ≤ n) (h2 : n < 2) : Calls Try.prog 33 #[(.agg #[.int .i64 p.a0, .int .i64 p.a1, .int .i64 p.a2, .int .i64 p.a3, .int .i64 p.a4, .int .i64 p.a5, .int .i64 p.a6, .int .i64 p.a7, .int .i64 p.a8, .int .i64 p.a9, .int .i64 p.a10, .int .i64 p.a11, .int .i64 p.a12]), .int .i64 n] w fun e w' => e = .returned (.bool true) ∧ Below w.heap.size w w' := by
  go_enter Try.func33, Try.ntmps33
  go_wp2_with fail
  refine (one_yes _ _ _ h1 h2).mono ?_; rintro e w' ⟨rfl, rfl⟩
  go_wp2
  go_ret
  exact ⟨rfl, balloc _ _⟩
theorem region_no (p : Pl) (n : Int) (w : World) (h : ¬ (0 < p.a12 ∧ 0 ≤ n ∧ n < 2)) : Calls Try.prog 33 #[(.agg #[.int .i64 p.a0, .int .i64 p.a1, .int .i64 p.a2, .int .i64 p.a3, .int .i64 p.a4, .int .i64 p.a5, .int .i64 p.a6, .int .i64 p.a7, .int .i64 p.a8, .int .i64 p.a9, .int .i64 p.a10, .int .i64 p.a11, .int .i64 p.a12]), .int .i64 n] w fun e w' => e = .returned (.bool false) ∧ Below w.heap.size w w' := by
  by_cases h0 : 0 < p.a12
  · have h1 : ¬ (0 ≤ n ∧ n < 2) := fun x => h ⟨h0, x⟩
    have H1 := Lib.hid h1
    clear h h1
    go_enter Try.func33, Try.ntmps33
    go_wp2_with fail
    refine (one_no _ _ _ H1.out).mono ?_; rintro e w' ⟨rfl, rfl⟩
    go_wp2
    go_ret
    exact ⟨rfl, balloc _ _⟩
  · clear h
    go_enter Try.func33, Try.ntmps33
    go_wp2
    go_ret
    exact ⟨rfl, balloc _ _⟩
theorem commit_yes (p : Pl) (n : Int) (w : World) (h0 : 0 < p.a12) (h1 : 0 ≤ n) (h2 : n < 2) : Calls Try.prog 17 #[(.agg #[.int .i64 p.a0, .int .i64 p.a1, .int .i64 p.a2, .int .i64 p.a3, .int .i64 p.a4, .int .i64 p.a5, .int .i64 p.a6, .int .i64 p.a7, .int .i64 p.a8, .int .i64 p.a9, .int .i64 p.a10, .int .i64 p.a11, .int .i64 p.a12]), .int .i64 n] w fun e w' => e = .returned (.tuple #[.int .i64 n, .bool true]) ∧ Below w.heap.size w w' := by
  go_enter Try.func17, Try.ntmps17
  go_wp2_with fail
  refine (region_yes _ _ _ h0 h1 h2).mono ?_; rintro e w' ⟨rfl, b⟩
  have B := Lib.hid (bthen (balloc _ _) b)
  clear b
  go_wp2
  go_ret2
  exact ⟨rfl, B.out⟩
theorem commit_no (p : Pl) (n : Int) (w : World) (h : ¬ (0 < p.a12 ∧ 0 ≤ n ∧ n < 2)) : Calls Try.prog 17 #[(.agg #[.int .i64 p.a0, .int .i64 p.a1, .int .i64 p.a2, .int .i64 p.a3, .int .i64 p.a4, .int .i64 p.a5, .int .i64 p.a6, .int .i64 p.a7, .int .i64 p.a8, .int .i64 p.a9, .int .i64 p.a10, .int .i64 p.a11, .int .i64 p.a12]), .int .i64 n] w fun e w' => e = .returned (.tuple #[.int .i64 0, .bool false]) ∧ Below w.heap.size w w' := by
  have H := Lib.hid h
  clear h
  go_enter Try.func17, Try.ntmps17
  go_wp2_with fail
  refine (region_no _ _ _ H.out).mono ?_; rintro e w' ⟨rfl, b⟩
  have B := Lib.hid (bthen (balloc _ _) b)
  clear b
  go_wp2
  go_ret2
  exact ⟨rfl, B.out⟩
end Go.Proofs.Ytpaakakkcbahcaa.W
