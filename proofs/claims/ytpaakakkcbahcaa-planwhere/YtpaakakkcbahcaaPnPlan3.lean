/-
  Contracts of lay, Of, and of the reference's Of; settings; the example. No conditions but bounds of the numbers.
-/
import Derived.Test.YtpaakakkcbahcaaPnPlan2
import Derived.Laws.Tables
import Derived.Laws.ResultCell
import Derived.Laws.Rows
namespace Go.Proofs.Ytpaakakkcbahcaa.W
open Go.RowKit Num
set_option linter.unusedVariables false

theorem ups_bd {n d : Int} (h1 : 1 ≤ n) (h0 : 1 ≤ d) : 1 ≤ ups n d ∧ ups n d ≤ n := by
  unfold ups
  have q1 : 0 ≤ (n - 1) / d := Int.ediv_nonneg (by omega) (by omega)
  have q2 : (n - 1) / d ≤ n - 1 := Int.ediv_le_self _ (by omega)
  omega
/-- what lies in a block, cell by cell -/
theorem heap_cell {w : World} {g : Nat} {cs : Array Value} {T : TypeId} (h : w.heap[g]? = some (.cells cs T (0, 0))) {j : Nat} {v : Value} (hj : cs[j]? = some v) : w.cell? ⟨g, j, none⟩ = some v := by
  rw [cell_of_row _ _ _ _ _ _ h]
  exact hj
/-- a store of a whole struct -/
theorem L_storeRow {ops : Array Oper} {rest : List Oper} {a : Act} {w : World} {Q : Exit → Act → World → Prop} {dst : Option Tmp} {ty : TypeId} {pos : String} {af : Array Edge} {x y : Operand} {g N : Nat} {T t : TypeId} {cs old : Array Value}
    (hi : (Try.prog.info? T).map (·.size) = some N) (hx : a.eval x = .pointer (some ⟨g, 0, none⟩)) (hy : a.eval y = .agg cs) (hg : w.heap[g]? = some (.cells old t (0, 0))) (ho : old.size = N) (hc : cs.size = N) (h1 : cs.all (·.oneCell') = true)
    (hK : ∀ w', w'.heap[g]? = some (.cells cs t (0, 0)) → w.grownBy w' (some g) → wpList Try.prog ops Q rest (a.put dst undef) w') : wpList Try.prog ops Q (⟨dst, .store T x y, ty, pos, af, none⟩ :: rest) a w :=
  wpList_store_row rfl T x y rfl g cs hx hy t old hg (by rw [hi, hc]) (by omega) h1
    (hK _ (setRow_heap w g old _ t _ hg) ⟨rfl, rfl, rfl, by simp, fun k _ hk => setRow_other w g k _ (fun e => hk (by rw [e]))⟩)
/-- a load of a whole struct -/
theorem L_loadMap {ops : Array Oper} {rest : List Oper} {a : Act} {w : World} {Q : Exit → Act → World → Prop} {dst : Option Tmp} {ty : TypeId} {pos : String} {af : Array Edge} {x : Operand} {g : Nat} {t : TypeId} {cs : Array Value}
    (hx : a.eval x = .pointer (some ⟨g, 0, none⟩)) (hg : w.heap[g]? = some (.cells cs t (0, 0))) (hc : cs.size = 13)
    (hK : wpList Try.prog ops Q rest (a.put dst (.agg cs)) w) : wpList Try.prog ops Q (⟨dst, .load 32 x, ty, pos, af, none⟩ :: rest) a w :=
  wpList_load_row rfl 32 x rfl g hx t cs (0, 0) _ hg Try.underlying32 rfl (by rw [hc]; exact info_map) hK
theorem L_loadPlan {ops : Array Oper} {rest : List Oper} {a : Act} {w : World} {Q : Exit → Act → World → Prop} {dst : Option Tmp} {ty : TypeId} {pos : String} {af : Array Edge} {x : Operand} {g : Nat} {t : TypeId} {cs : Array Value}
    (hx : a.eval x = .pointer (some ⟨g, 0, none⟩)) (hg : w.heap[g]? = some (.cells cs t (0, 0))) (hc : cs.size = 13)
    (hK : wpList Try.prog ops Q rest (a.put dst (.agg cs)) w) : wpList Try.prog ops Q (⟨dst, .load 28 x, ty, pos, af, none⟩ :: rest) a w :=
  wpList_load_row rfl 28 x rfl g hx t cs (0, 0) _ hg Try.underlying28 rfl (by rw [hc]; exact info_plan) hK
theorem L_loadConf {ops : Array Oper} {rest : List Oper} {a : Act} {w : World} {Q : Exit → Act → World → Prop} {dst : Option Tmp} {ty : TypeId} {pos : String} {af : Array Edge} {x : Operand} {g : Nat} {t : TypeId} {cs : Array Value}
    (hx : a.eval x = .pointer (some ⟨g, 0, none⟩)) (hg : w.heap[g]? = some (.cells cs t (0, 0))) (hc : cs.size = 10)
    (hK : wpList Try.prog ops Q rest (a.put dst (.agg cs)) w) : wpList Try.prog ops Q (⟨dst, .load 25 x, ty, pos, af, none⟩ :: rest) a w :=
  wpList_load_row rfl 25 x rfl g hx t cs (0, 0) _ hg Try.underlying25 rfl (by rw [hc]; exact info_conf) hK
/-- a struct and a number come back -/
theorem results_cell_tmp_row {fn : Func} {p u : Tmp} {ty : TypeId} (h : fn.results = #[.cell p ty, .tmp u]) (tmps : Array Value) (w : World) (g : Nat) (cs : Array Value)
    (hp : tmps.getD p undef = .pointer (some ⟨g, 0, none⟩)) (hl : (loadVar ty ⟨g, 0, none⟩).run Try.prog w = .ok (.agg cs) w) :
    (results fn tmps).run Try.prog w = .ok (.tuple #[.agg cs, tmps.getD u undef]) w := by
  rw [results_cell_tmp h, hp]
  simp [asAddr, hl, Result.andThen]
set_option maxHeartbeats 2000000 in
theorem lay_any (b s l : Int) (p : Pl) (hp : p = planOf b s l) (w : World) (hb : 1 ≤ b) (hb2 : b ≤ 512) (hs : 1 ≤ s) (hs2 : s ≤ 192) (hl : 1 ≤ l) (hl2 : l ≤ 256) :
    Calls Try.prog 28 #[.int .i64 b, .int .i64 s, .int .i64 l] w fun e w' => e = .returned (.agg #[.int .i64 p.a0, .int .i64 p.a1, .int .i64 p.a2, .int .i64 p.a3, .int .i64 p.a4, .int .i64 p.a5, .int .i64 p.a6, .int .i64 p.a7, .int .i64 p.a8, .int .i64 p.a9, .int .i64 p.a10, .int .i64 p.a11, .int .i64 p.a12]) ∧ Below w.heap.size w w' := by
  have HP := Lib.hid hp
  clear hp
  obtain ⟨e1, e2⟩ := ups_bd (n := b) (d := 8) hb (by decide)
  obtain ⟨g1, g2⟩ := ups_bd (n := ups b 8) (d := 6) e1 (by decide)
  obtain ⟨v1, v2⟩ := ups_bd (n := s) (d := 3) hs (by decide)
  go_enter Try.func28, Try.ntmps28
  go_wp2_with fail
  refine (up_any _ _ _ hb (by omega) (by decide) (by decide)).mono ?_; rintro e w' ⟨rfl, rfl⟩
  go_wp2_with fail
  refine (up_any _ _ _ e1 (by omega) (by decide) (by decide)).mono ?_; rintro e w' ⟨rfl, rfl⟩
  go_wp2_with fail
  refine (up_any _ _ _ hs (by omega) (by decide) (by decide)).mono ?_; rintro e w' ⟨rfl, rfl⟩
  go_wp2
  refine bodyPost_ret (results_cell_row rfl _ _ _ _ _ _ _ rfl (heap_alloc2_old _ _ _) Try.underlying30 rfl info_chart) rfl ?_
  have hp := HP.out
  subst hp
  exact ⟨ret_mv rfl rfl rfl rfl rfl rfl (by simp only [planOf]; omega) rfl (by simp only [planOf]; omega) rfl rfl rfl (by simp only [planOf]; omega), bthen (balloc _ _) (balloc _ _)⟩


/-- settings of three numbers -/
def cfOf (b s l : Int) : Cf := ⟨b, s, l, 10, 100, .int .u64 0, .float .f64 0, .float .f64 0, .float .f64 0, 0⟩
theorem conf_any (x y z : Int) (c : Cf) (hc : c = cfOf (1 + x % 512) (1 + y % 192) (1 + z % 256)) (w : World) (hx : 0 ≤ x) (hx2 : x ≤ 65535) (hy : 0 ≤ y) (hy2 : y ≤ 65535) (hz : 0 ≤ z) (hz2 : z ≤ 65535) :
    Calls Try.prog 13 #[.int .u16 x, .int .u16 y, .int .u16 z] w fun e w' => e = .returned (.agg #[.int .i64 c.c0, .int .i64 c.c1, .int .i64 c.c2, .int .i64 c.c3, .int .i64 c.c4, c.c5, c.c6, c.c7, c.c8, .int .i64 c.c9]) ∧ Below w.heap.size w w' := by
  have HC := Lib.hid hc
  clear hc
  go_enter Try.func13, Try.ntmps13
  go_wp2_with ((with_reducible apply L_storeRow (N := 10) info_conf); exact rfl; exact rfl; exact heap_alloc_new _ _; exact rfl; exact rfl; (simp [Value.oneCell']); intro w1 h1 g1; have H1 := Lib.hid h1; have G1 := Lib.hid g1; clear h1 g1)
  refine bodyPost_ret (results_cell_row rfl _ _ _ _ _ _ _ rfl H1.out Try.underlying25 rfl info_conf) rfl ?_
  have hc := HC.out
  subst hc
  exact ⟨rfl, (balloc _ _).grown G1.out (by simp) (fun k e => by injection e with e; omega)⟩
end Go.Proofs.Ytpaakakkcbahcaa.W
