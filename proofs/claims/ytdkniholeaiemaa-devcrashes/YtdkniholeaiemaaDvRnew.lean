/-
  The contract of the document's New. No conditions.
-/
import Derived.Test.YtdkniholeaiemaaDvRef
namespace Go.Proofs.Ytdkniholeaiemaa.W
open Go.RowKit Oc Dm Gt
set_option linter.unusedVariables false
/-- 64 noughts, as they are made -/
def z64 : Array Value := madeCells #[.int .u8 0] 64
theorem z64_eq : z64 = (zs.map ov).toArray := by
  rw [zs_cells]
  apply Array.ext_getElem?
  intro j
  unfold z64 madeCells
  rw [Array.getElem?_map]
  by_cases h : j < 64
  · simp [h, Nat.mod_one]
  · simp [h]
theorem make64 (w : World) : (Instr.makeSlice 52 (.int .i64 64) (.int .i64 64)).run Try.prog w = .ok (.slice (some ⟨w.heap.size, 0, none⟩) 64 64) (w.alloc (.cells z64 5)) := by
  obtain ⟨i, hi, hz0, hz1, hz2⟩ := info_parts bt.info
  have := run_make (P := Try.prog) w 52 5 i (.int .u8 0) Try.underlying52 hi hz0 .i64 .i64 64 64 (by omega) (Int.le_refl _) (by rw [hz2]; omega) (by omega)
  rw [hz1] at this
  exact this
theorem conv64 (w : World) : (convert 52 9 (.slice (some ⟨w.heap.size, 0, none⟩) 64 64)).run Try.prog (w.alloc (.cells z64 5)) = .ok (.string (bstr zs)) (w.alloc (.cells z64 5)) := by
  have := Oct.cells w 5 zs z64 z64_eq
  exact this.conv bt Try.underlying9 64
theorem madeS_rot (k i : Nat) : (madeS k i).rotten = false := by unfold madeS; split <;> rfl
theorem madeS_step (j : Nat) : ∀ i, (fun k => if k = j * 3 then tx zs else oc (madeS j) nilv k) i = oc (madeS (j + 1)) nilv i := by
  intro i
  have hm : i % 3 = 0 ∨ i % 3 = 1 ∨ i % 3 = 2 := by omega
  show (if i = j * 3 then tx zs else oc (madeS j) nilv i) = _
  by_cases h : i = j * 3
  · subst h
    rw [if_pos rfl, oc0]
    unfold madeS
    rw [if_pos (by omega)]
    rfl
  · rw [if_neg h]
    unfold oc
    rcases hm with h0 | h0 | h0
    · rw [if_pos h0, if_pos h0]
      unfold madeS
      by_cases h1 : i / 3 < j
      · rw [if_pos h1, if_pos (by omega)]
      · rw [if_neg h1, if_neg (by omega)]
    · rw [if_neg (by omega), if_pos h0, if_neg (by omega), if_pos h0]
    · have n0 : ¬ i % 3 = 0 := by omega
      have n1 : ¬ i % 3 = 1 := by omega
      rw [if_neg n0, if_neg n1, if_neg n0, if_neg n1, madeS_rot, madeS_rot]
/-- a device of the document's is told -/
def RNew (w : World) (q n : Nat) (e : Ending) (w' : World) : Prop := ∃ E gs, e = .returned (.pointer (some ⟨E, 0, none⟩)) ∧ w.heap.size ≤ E ∧ RvAt w' (Fresh w w') E q n (fun _ => sec0) 0 0 gs nilv ∧ Below w.heap.size w w'
set_option maxRecDepth 100000 in
set_option maxHeartbeats 4000000 in
theorem rnew_any (w : World) (n q : Nat) (hn : n ≤ 4096) : Calls Try.prog 30 #[.int .i64 (n : Int), .pointer (some ⟨q, 0, none⟩)] w (RNew w q n) := by
  obtain ⟨i0, hi0, hz0, hz1, hz2⟩ := info_parts one_info
  obtain ⟨hmk, hrow⟩ := made_row (w := w) (w' := w) (n := n) hi0 hz0 hz1 hz2 hn
  have HR := Lib.hid hrow
  have b1 := balloc w (.cells (madeCells #[.string ⟨#[]⟩, .slice none 0 0, .bool false] (n * 3)) 57)
  have BW := Lib.hid b1
  have ZW : Hid ((w.alloc (.cells (madeCells #[.string ⟨#[]⟩, .slice none 0 0, .bool false] (n * 3)) 57)).heap.size = w.heap.size + 1) := Lib.hid (by simp)
  generalize w.alloc (.cells (madeCells #[.string ⟨#[]⟩, .slice none 0 0, .bool false] (n * 3)) 57) = w1 at hmk HR BW ZW
  clear hrow b1 hi0 hz0 hz1 hz2
  go_enter Try.func30, Try.ntmps30
  go_wp2
  have HD := Lib.hid (heap_alloc_new w1 (.cells #[.pointer (some ⟨q, 0, none⟩), .slice (some ⟨w.heap.size, 0, none⟩) n n, .int .u64 0, .int .u64 0] 51 (0, 0)))
  have HR2 := Lib.hid (HR.out.alloc (.cells #[.pointer (some ⟨q, 0, none⟩), .slice (some ⟨w.heap.size, 0, none⟩) n n, .int .u64 0, .int .u64 0] 51 (0, 0)))
  have B2 := Lib.hid (BW.out.alloc BW.out.size (.cells #[.pointer (some ⟨q, 0, none⟩), .slice (some ⟨w.heap.size, 0, none⟩) n n, .int .u64 0, .int .u64 0] 51 (0, 0)))
  clear hmk
  go_loopw [6] (fun v wr' => ∃ j : Nat, j ≤ n ∧ v = .int .i64 j ∧ Hid (wr'.heap[w1.heap.size]? = some (.cells #[.pointer (some ⟨q, 0, none⟩), .slice (some ⟨w.heap.size, 0, none⟩) n n, .int .u64 0, .int .u64 0] 51 (0, 0))) ∧ Hid (wr'.rowIs w.heap.size 57 (n * 3) (oc (madeS j) nilv)) ∧ Hid (Below w.heap.size w wr')) (fun v _ => n - (intOf v).toNat)
  case atStart => exact ⟨0, Nat.zero_le _, rfl, HD, HR2, B2⟩
  case round =>
    obtain ⟨j, hj, rfl, HJ, RJ, BJ⟩ := hrel
    by_cases hlt : j < n
    · have hlt2 : (j : Int) < (n : Int) := by omega
      go_wp2_with fail
      have d1 : wr.cell? ⟨w1.heap.size, 1, none⟩ = some (.slice (some ⟨w.heap.size, 0, none⟩) n n) := by rw [cell_of_row wr _ _ _ _ (0, 0) HJ.out]; rfl
      refine gate (fun w' => w'.cell? ⟨w1.heap.size, 1, none⟩ = some (.slice (some ⟨w.heap.size, 0, none⟩) n n)) 9 [0, 1, 2, 3, 4] 5 (by kernel_rfl) (by kernel_rfl) (by kernel_rfl) rfl ?_ d1 ?_
      · intro d v c a w h
        cases d <;> exact h
      iterate 5
        refine yields_step ?_ rfl rfl ?_ ?_
        rotate_left
        · intro w' hS; go_simp; rfl
      have hmk := make64
      refine Gate.next (i := 5) (by kernel_rfl) rfl rfl (fun K hK => ?_)
      go_simp
      have b3 : Below wr.heap.size wr ((wr.alloc (.cells z64 5)).drew) := (balloc wr _).drew
      have H3 := Lib.hid ((b3.block _ (lt_of_heap HJ.out)).trans HJ.out)
      have R3 := Lib.hid (RJ.out.of_block (b3.block _ RJ.out.lt))
      have B3 := Lib.hid (bthen BJ.out b3)
      have d3 : ((wr.alloc (.cells z64 5)).drew).cell? ⟨w1.heap.size, 1, none⟩ = some (.slice (some ⟨w.heap.size, 0, none⟩) n n) := by rw [cell_of_row _ _ _ _ _ (0, 0) H3.out]; rfl
      have cv : (convert 52 9 (.slice (some ⟨wr.heap.size, 0, none⟩) 64 64)).run Try.prog ((wr.alloc (.cells z64 5)).drew) = .ok (.string (bstr zs)) ((wr.alloc (.cells z64 5)).drew) := (Oct.cells wr 5 zs z64 z64_eq).drew.conv bt Try.underlying9 64
      refine hK _ _ (fun _ => d3) ?_
      clear hK K hmk b3
      refine Gate.next (i := 6) (by kernel_rfl) rfl rfl (fun K hK => ?_)
      go_simp
      refine hK _ _ (fun _ => d3) ?_
      clear hK K cv
      refine Gate.next (i := 7) (by kernel_rfl) rfl rfl (fun K hK => ?_)
      go_simp
      refine hK _ _ (fun _ => d3) ?_
      clear hK K
      refine Gate.next (i := 8) (by kernel_rfl) rfl rfl (fun K hK => ?_)
      go_simp
      refine hK _ _ (fun _ => d3) ?_
      clear hK K
      have c4 := R3.out.cell (i := j * 3) (by omega)
      have f4 := R3.out.frozen (j * 3)
      refine gate_cell (j := 9) (w' := ((wr.alloc (.cells z64 5)).drew).setCell ⟨w.heap.size, j * 3, none⟩ (.string (bstr zs))) (p := .pointer (some ⟨w.heap.size, j * 3, none⟩)) (by kernel_rfl) (by kernel_rfl) rfl rfl (by go_simp) (by go_simp) ?_
      have H5 := Lib.hid ((heap_setCell_other ((wr.alloc (.cells z64 5)).drew) ⟨w.heap.size, j * 3, none⟩ w1.heap.size (.string (bstr zs)) (show w1.heap.size ≠ w.heap.size by have := ZW.out; omega)).trans H3.out)
      have R5 := Lib.hid ((R3.out.set (j * 3) (.string (bstr zs))).congr (fun i _ => madeS_step j i))
      have B5 := Lib.hid (B3.out.grown (grown_cell ((wr.alloc (.cells z64 5)).drew) w.heap.size (j * 3) (.string (bstr zs))) B3.out.size (fun k e => by injection e with e; omega))
      generalize ((wr.alloc (.cells z64 5)).drew).setCell ⟨w.heap.size, j * 3, none⟩ (.string (bstr zs)) = w5 at H5 R5 B5 ⊢
      clear c4 f4 d3 d1
      go_wp2
      go_roundw
      case rel => exact ⟨j + 1, by omega, rfl, H5, R5, B5⟩
      case measure => simp [intOf]; omega
    · have hlt2 : ¬ (j : Int) < (n : Int) := by omega
      have HE : Hid (j = n) := Lib.hid (by omega)
      clear hj hlt
      go_wp2
      go_ret
      have r5 := RJ.out
      rw [HE.out] at r5
      have hE := lt_of_heap HJ.out
      have hg := RJ.out.lt
      have hz := ZW.out
      refine ⟨w1.heap.size, w.heap.size, rfl, by omega, ?_, BJ.out⟩
      exact {
        head := HJ.out
        row := r5.congr (fun i hi => by
          unfold oc madeS
          rw [if_pos (show i / 3 < n by omega)])
        loose := fun i hi => ⟨none, 0, rfl, Nat.le_refl _, Nat.zero_le _, Rw.Sl.nil _ _, fun b off h => absurd h (by decide)⟩
        hn := hn
        hrd := by decide
        hwr := by decide
        inG := ⟨⟨by omega, hE⟩, ⟨Nat.le_refl _, hg⟩⟩
        bound := fun k x => x.2 }
end Go.Proofs.Ytdkniholeaiemaa.W
