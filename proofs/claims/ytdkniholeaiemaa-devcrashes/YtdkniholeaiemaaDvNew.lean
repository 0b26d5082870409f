/-
  Contracts of blank and New. No conditions.
-/
import Derived.Test.YtdkniholeaiemaaDvPeek
namespace Go.Proofs.Ytdkniholeaiemaa.W
open Go.RowKit Oc Dm
set_option linter.unusedVariables false

theorem zs_get (k : Nat) : ((zs.map ov).toArray)[k % 64]! = .int .u8 0 := by
  have h : k % 64 < 64 := Nat.mod_lt _ (by decide)
  rw [zs_cells]
  simp [h]
theorem made_get (k j : Nat) (h : j < k) : (madeCells (sv zs).cells k)[j]? = some (.int .u8 0) := by
  unfold madeCells
  rw [sv_cells]
  have hs : ((zs.map ov).toArray).size = 64 := by rw [zs_cells]; simp
  simp only [hs]
  rw [Array.getElem?_map]
  simp only [Array.getElem?_range, h, if_true, Option.map_some]
  rw [zs_get]
theorem sec_info : ∃ i, Try.prog.info? 95 = some i ∧ i.zero = some (sv zs) ∧ i.size = 64 ∧ i.bytes = 64 := by
  have h : (Try.prog.info? 95).map (fun i => (i.zero, i.size, i.bytes)) = some (some (.agg (Array.replicate 64 (.int .u8 0))), 64, 64) := by kernel_rfl
  cases hq : Try.prog.info? 95 with
  | none => simp [hq] at h
  | some i =>
    simp only [hq, Option.map_some, Option.some.injEq, Prod.mk.injEq] at h
    refine ⟨i, rfl, ?_, h.2.1, h.2.2⟩
    unfold sv
    rw [zs_cells]
    exact h.1
theorem run_make_sec (w : World) (n : Nat) (hn : n ≤ 4096) : ∃ w', (Instr.makeSlice 68 (.int .i64 (n : Int)) (.int .i64 (n : Int))).run Try.prog w = .ok (.slice (some ⟨w.heap.size, 0, none⟩) n n) w' ∧ SRow w' w.heap.size n n (fun _ => zs) ∧ w.grownBy w' none ∧ w'.heap.size = w.heap.size + 1 := by
  obtain ⟨i, hi, hz, hs, hb⟩ := sec_info
  have := run_make (P := Try.prog) w 68 95 i (sv zs) Try.underlying68 hi hz .i64 .i64 (n : Int) (n : Int) (by omega) (Int.le_refl _) (by rw [hb]; omega) (by omega)
  rw [Int.toNat_natCast, hs] at this
  refine ⟨_, this, ⟨_, heap_alloc_new w _, size_madeCells _ _, Nat.le_refl _, by unfold maxLen; omega, fun k hk => ⟨rfl, fun j x hx => ?_⟩⟩, World.grownBy_alloc w _ none, by simp⟩
  have hj : j < 64 := (List.getElem?_eq_some_iff.1 hx).1
  rw [made_get _ _ (by omega)]
  have : x = 0 := by
    have := List.getElem?_eq_some_iff.1 hx
    obtain ⟨h1, h2⟩ := this
    rw [← h2]
    exact List.getElem_replicate ..
  rw [this]
  rfl
theorem wpList_make_sec {ops : Array Oper} {rest : List Oper} {o : Oper} {a : Act} {w : World} {Q : Exit → Act → World → Prop} (hgd : o.guard = none) (x y : Operand) (ho : o.op = .makeSlice 68 x y) {n : Nat} (hx : a.eval x = .int .i64 (n : Int)) (hy : a.eval y = .int .i64 (n : Int)) (hn : n ≤ 4096)
    (hK : ∀ w', SRow w' w.heap.size n n (fun _ => zs) → w.grownBy w' none → w'.heap.size = w.heap.size + 1 → wpList Try.prog ops Q rest (a.put o.dst (.slice (some ⟨w.heap.size, 0, none⟩) n n)) w') : wpList Try.prog ops Q (o :: rest) a w := by
  refine wpList_plain hgd fun K hK' => ?_
  obtain ⟨w', hrun, r1, r2, r3⟩ := run_make_sec w n hn
  unfold Oper.wp
  simp [execOp, ho, hx, hy, hrun, Result.andThen]
  exact hK' _ _ (hK w' r1 r2 r3)
theorem L_make {ops : Array Oper} {rest : List Oper} {a : Act} {w : World} {Q : Exit → Act → World → Prop} {dst : Option Tmp} {ty : TypeId} {pos : String} {af : Array Edge} {x y : Operand} {n : Nat} (hx : a.eval x = .int .i64 (n : Int)) (hy : a.eval y = .int .i64 (n : Int)) (hn : n ≤ 4096)
    (hK : ∀ w', SRow w' w.heap.size n n (fun _ => zs) → w.grownBy w' none → w'.heap.size = w.heap.size + 1 → wpList Try.prog ops Q rest (a.put dst (.slice (some ⟨w.heap.size, 0, none⟩) n n)) w') : wpList Try.prog ops Q (⟨dst, .makeSlice 68 x y, ty, pos, af, none⟩ :: rest) a w := wpList_make_sec rfl x y rfl hx hy hn hK
theorem ha_old (w : World) (o : Obj) (k : Nat) (h : k < w.heap.size) : (w.alloc o).heap[k]? = w.heap[k]? := Below.heap_alloc w o k h
/-- what is new -/
def Fresh (w w' : World) (k : Nat) : Prop := w.heap.size ≤ k ∧ k < w'.heap.size
/-- a sector as it is at first -/
def sec0 : Sec := ⟨zs, [], false⟩
theorem heap_alloc_mid (w : World) (o : Obj) {k : Nat} {v : Obj} (h : w.heap[k]? = some v) : (w.alloc o).heap[k]? = some v := (ha_old w o k (lt_of_heap h)).trans h
set_option maxRecDepth 100000 in
set_option maxHeartbeats 2000000 in
theorem blank_any (w : World) (n p : Nat) (hn : n ≤ 4096) : Calls Try.prog 51 #[.int .i64 (n : Int), .pointer (some ⟨p, 0, none⟩)] w fun e w' => ∃ D fx m r, e = .returned (.pointer (some ⟨D, 0, none⟩)) ∧ w.heap.size ≤ D ∧ DvAt w' (Fresh w w') D p n 0 (fun _ => sec0) 0 0 fx m r (fun _ => none) ∧ Below w.heap.size w w' := by
  have hmm := @run_makeMap Try.prog
  go_enter Try.func51, Try.ntmps51
  go_wp2_with ((with_reducible refine L_make (n := n) ?_ ?_ hn ?_); exact rfl; exact rfl; intro w1 r1 g1 s1; have R1 := Lib.hid r1; have G1 := Lib.hid g1; have Z1 := Lib.hid s1; clear r1 g1 s1)
  go_ret
  have b1 : Below w.heap.size w w1 := (Below.refl _ w).grown G1.out (Nat.le_refl _) (fun j e => by cases e)
  have z1 := Z1.out
  have l1 := LM.made w1 n
  have m1 := RM.made (w1.alloc (.map #[] 0)) n
  refine ⟨_, w.heap.size, w1.heap.size, w1.heap.size + 1, rfl, by omega, ?_, ((b1.alloc b1.size _).alloc (b1.alloc b1.size _).size _).alloc ((b1.alloc b1.size _).alloc (b1.alloc b1.size _).size _).size _⟩
  have e2 : (w1.alloc (.map #[] 0)).heap.size = w1.heap.size + 1 := by simp
  rw [e2] at m1
  exact {
    head := by
      have := heap_alloc_new ((w1.alloc (.map #[] 0)).alloc (.map #[] 0)) (.cells #[.pointer (some ⟨p, 0, none⟩), .slice (some ⟨w.heap.size, 0, none⟩) n n, .map (some w1.heap.size), .map (some (w1.heap.size + 1)), .int .u64 ((0 : Nat) : Int), .int .u64 ((0 : Nat) : Int)] 72 (0, 0))
      simpa using this
    fixd := R1.out.heap ((ha_old _ _ _ (by simp; omega)).trans ((ha_old _ _ _ (by simp; omega)).trans (ha_old _ _ _ (by omega))))
    lm := l1.heap ((ha_old _ _ _ (by simp; omega)).trans (ha_old _ _ _ (by simp)))
    rm := m1.heap (ha_old _ _ _ (by simp))
    none_ := fun i hi e => rfl
    some_ := fun i t hi e => by cases e
    apart := fun i j s t hi hj hne e => by cases e
    mr := by omega
    hn := hn
    hN := by decide
    hl := fun i hi => Nat.le_refl _
    hrd := by decide
    hwr := by decide
    inF := by unfold Fresh; simp; omega
    bound := fun k x => x.2 }
theorem new_yes {w : World} {n p : Nat} {s : PS} (hp : Pw w p s) (hn : n ≤ 4096) : Calls Try.prog 24 #[.int .i64 (n : Int), .pointer (some ⟨p, 0, none⟩)] w fun e w' => ∃ D fx m r, e = .returned (.tuple #[.pointer (some ⟨D, 0, none⟩), .int .i64 0]) ∧ w.heap.size ≤ D ∧ DvAt w' (Fresh w w') D p n 0 (fun _ => sec0) 0 0 fx m r (fun _ => none) ∧ Below w.heap.size w w' := by
  have HP := Lib.hid hp
  clear hp
  have h1 : ¬ (4096 : Int) < (n : Int) := by omega
  go_enter Try.func24, Try.ntmps24
  go_wp2_with fail
  refine (pmade_any HP.out).mono ?_; rintro e w' ⟨rfl, rfl⟩
  go_wp2_with fail
  refine (blank_any w n p hn).mono ?_; rintro e w' ⟨D, fx, m, r, rfl, hD, H, b⟩
  have HH := Lib.hid H
  clear H
  go_wp2
  go_ret2
  exact ⟨D, fx, m, r, rfl, hD, HH.out, b⟩
theorem new_arg (w : World) (z : Int) (u : Value) (hz : z < 0 ∨ 4096 < z) : Calls Try.prog 24 #[.int .i64 z, u] w fun e w' => e = .returned (.tuple #[.pointer none, .int .i64 1]) ∧ w = w' := by
  by_cases h0 : z < 0
  · clear hz
    go_enter Try.func24, Try.ntmps24
    go_wp2
    go_ret2
    exact ⟨rfl, rfl⟩
  · have h1 : 4096 < z := by omega
    clear hz
    go_enter Try.func24, Try.ntmps24
    go_wp2
    go_ret2
    exact ⟨rfl, rfl⟩
theorem new_nil (w : World) : Calls Try.prog 24 #[.int .i64 1, .pointer none] w fun e w' => e = .returned (.tuple #[.pointer none, .int .i64 2]) ∧ w = w' := by
  go_enter Try.func24, Try.ntmps24
  go_wp2_with fail
  refine (pmade_nil w).mono ?_; rintro e w' ⟨rfl, rfl⟩
  go_wp2
  go_ret2
  exact ⟨rfl, rfl⟩
theorem new_odd (w : World) (p : Nat) (c1 : w.cell? ⟨p, 1, none⟩ = some (.bool false)) : Calls Try.prog 24 #[.int .i64 1, .pointer (some ⟨p, 0, none⟩)] w fun e w' => e = .returned (.tuple #[.pointer none, .int .i64 2]) ∧ w = w' := by
  go_enter Try.func24, Try.ntmps24
  go_wp2_with fail
  refine (pmade_odd w p c1).mono ?_; rintro e w' ⟨rfl, rfl⟩
  go_wp2
  go_ret2
  exact ⟨rfl, rfl⟩
end Go.Proofs.Ytdkniholeaiemaa.W
