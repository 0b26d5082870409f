/-
  Contracts of isGen, mayBe, Fresh, few and of the reference's num and May. No conditions.
-/
import Derived.Test.YthclgehifomkhaaDoorGpNum
import Derived.Laws.Tables
import Derived.Laws.ResultCell
import Derived.Laws.Rows
namespace Go.Proofs.YthclgehifomkhaaDoor.W
open Go.RowKit Oc
set_option linter.unusedVariables false

theorem few_any (A : Option Addr) (n c m : Nat) (w : World) (hm : m = min n 70) (hc : n ≤ c) :
    Calls Tryd.prog 10 #[.slice A n c] w fun e w' => e = .returned (.slice A m c) ∧ w = w' := by
  by_cases h : n ≤ 70
  · have : m = n := by omega
    subst this
    clear hm
    go_enter Tryd.func10, Tryd.ntmps10
    go_wp2
    go_ret
    exact ⟨rfl, rfl⟩
  · have : m = 70 := by omega
    subst this
    clear hm
    go_enter Tryd.func10, Tryd.ntmps10
    go_wp2
    go_ret
    exact ⟨rfl, rfl⟩

theorem gen_yes (n : Nat) (w : World) (h : isG n) : Calls Tryd.prog 28 #[.int .u64 (n : Int)] w fun e w' => e = .returned (.bool true) ∧ w = w' := by
  obtain ⟨h1, h2⟩ := h
  have hd : decide ((n : Int) ≤ 4611686018427387904) = true := by simp; omega
  go_enter Tryd.func28, Tryd.ntmps28
  go_wp2
  go_ret
  exact ⟨rfl, rfl⟩
theorem gen_no (n : Nat) (w : World) (h : ¬ isG n) : Calls Tryd.prog 28 #[.int .u64 (n : Int)] w fun e w' => e = .returned (.bool false) ∧ w = w' := by
  unfold isG at h
  by_cases h1 : 1 ≤ n
  · have h2 : ¬ n ≤ 4611686018427387904 := fun h2 => h ⟨h1, h2⟩
    have hd : decide ((n : Int) ≤ 4611686018427387904) = false := by simp; omega
    clear h
    go_enter Tryd.func28, Tryd.ntmps28
    go_wp2
    go_ret
    exact ⟨rfl, rfl⟩
  · clear h
    go_enter Tryd.func28, Tryd.ntmps28
    go_wp2
    go_ret
    exact ⟨rfl, rfl⟩
theorem rnum_yes (n : Nat) (w : World) (h : isG n) : Calls Tryd.prog 27 #[.int .u64 (n : Int)] w fun e w' => e = .returned (.bool true) ∧ w = w' := by
  obtain ⟨h1, h2⟩ := h
  have hd : decide ((n : Int) ≤ 4611686018427387904) = true := by simp; omega
  go_enter Tryd.func27, Tryd.ntmps27
  go_wp2
  go_ret
  exact ⟨rfl, rfl⟩
theorem rnum_no (n : Nat) (w : World) (h : ¬ isG n) : Calls Tryd.prog 27 #[.int .u64 (n : Int)] w fun e w' => e = .returned (.bool false) ∧ w = w' := by
  unfold isG at h
  by_cases h1 : 1 ≤ n
  · have h2 : ¬ n ≤ 4611686018427387904 := fun h2 => h ⟨h1, h2⟩
    have hd : decide ((n : Int) ≤ 4611686018427387904) = false := by simp; omega
    clear h
    go_enter Tryd.func27, Tryd.ntmps27
    go_wp2
    go_ret
    exact ⟨rfl, rfl⟩
  · clear h
    go_enter Tryd.func27, Tryd.ntmps27
    go_wp2
    go_ret
    exact ⟨rfl, rfl⟩

theorem info_u64 : (Tryd.prog.info? 22).map (fun i => (i.zero, i.size, i.bytes)) = some (some (.int .u64 0), 1, 8) := by kernel_rfl
theorem info_gp : (Tryd.prog.info? 25).map (·.size) = some 8 := by kernel_rfl
theorem index_gen (g : Nat → Nat) {k : Nat} (h : k < 6) (w : World) : (Instr.index 23 (.agg #[.int .u64 (g 0 : Int), .int .u64 (g 1 : Int), .int .u64 (g 2 : Int), .int .u64 (g 3 : Int), .int .u64 (g 4 : Int), .int .u64 (g 5 : Int)]) (.int .i64 (k : Int))).run Tryd.prog w = .ok (.int .u64 (g k : Int)) w := by
  have h1 : (0 : Int) ≤ k ∧ (k : Int) < 6 := by omega
  obtain ⟨i, hi, hz0, hz1, hz2⟩ := info_parts info_u64
  have e : (#[.int .u64 (g 0 : Int), .int .u64 (g 1 : Int), .int .u64 (g 2 : Int), .int .u64 (g 3 : Int), .int .u64 (g 4 : Int), .int .u64 (g 5 : Int)] : Array Value)[k]? = some (.int .u64 (g k : Int)) := by
    match k, h with
    | 0, _ => rfl
    | 1, _ => rfl
    | 2, _ => rfl
    | 3, _ => rfl
    | 4, _ => rfl
    | 5, _ => rfl
  generalize (#[.int .u64 (g 0 : Int), .int .u64 (g 1 : Int), .int .u64 (g 2 : Int), .int .u64 (g 3 : Int), .int .u64 (g 4 : Int), .int .u64 (g 5 : Int)] : Array Value) = G at e ⊢
  simp [Instr.index, run_underlying Tryd.underlying23, asIntOf, h1, go_sem, sizeOf, typeInfo, hi, hz1, isAgg, run_underlying Tryd.underlying22]
  rw [if_pos h, e]
  rfl
end Go.Proofs.YthclgehifomkhaaDoor.W
