/-
  What a bump makes of a page. No conditions.
-/
import Derived.Test.YtgdgehfapfgdfaaGreatDoorGbOpen
namespace Go.Proofs.YtgdgehfapfgdfaaGreatDoor.Tb
open Go.RowKit Oc Dm W Dw Sr
set_option linter.unusedVariables false
set_option maxRecDepth 100000

/-- the first j of them have gone up -/
def midG (g u : Nat → Nat) (j : Nat) : Nat → Nat := fun k => if k < j then g k + u k else g k
theorem midG_step (g u : Nat → Nat) (j : Nat) : up (midG g u j) j (midG g u j j + u j) = midG g u (j + 1) := by
  funext k
  unfold up midG
  by_cases h : k = j
  · subst h
    rw [if_pos rfl, if_neg (Nat.lt_irrefl _), if_pos (Nat.lt_succ_self _)]
  · rw [if_neg h]
    by_cases h2 : k < j
    · rw [if_pos h2, if_pos (by omega)]
    · rw [if_neg h2, if_neg (by omega)]
theorem index_ups (g : Nat → Nat) {k : Nat} (h : k < 6) (w : World) : (Instr.index 114 (.agg #[.int .u64 (g 0 : Int), .int .u64 (g 1 : Int), .int .u64 (g 2 : Int), .int .u64 (g 3 : Int), .int .u64 (g 4 : Int), .int .u64 (g 5 : Int)]) (.int .i64 (k : Int))).run Tryz.prog w = .ok (.int .u64 (g k : Int)) w := by
  have h1 : (0 : Int) ≤ k ∧ (k : Int) < 6 := by omega
  obtain ⟨i, hi, hz0, hz1, hz2⟩ := info_parts info_u64
  have e : (#[.int .u64 (g 0 : Int), .int .u64 (g 1 : Int), .int .u64 (g 2 : Int), .int .u64 (g 3 : Int), .int .u64 (g 4 : Int), .int .u64 (g 5 : Int)] : Array Value)[k]? = some (.int .u64 (g k : Int)) := by
    match k, h with
    | 0, _ => rfl
    | 1, _ => rfl
    | 2, _ => rfl
    | 3, _ => rfl
    | 4, _ => rfl
    | 5, _ => rfl
  generalize (#[.int .u64 (g 0 : Int), .int .u64 (g 1 : Int), .int .u64 (g 2 : Int), .int .u64 (g 3 : Int), .int .u64 (g 4 : Int), .int .u64 (g 5 : Int)] : Array Value) = G at e ⊢
  simp [Instr.index, run_underlying Tryz.underlying114, asIntOf, h1, go_sem, sizeOf, typeInfo, hi, hz1, isAgg, run_underlying Tryz.underlying30]
  rw [if_pos h, e]
  rfl
section
variable {w w' : World} {H F : Nat → Prop} {T D g cap ne np ga n k c mb bt bm N : Nat} {p : Pn.Pl} {L : List Gp} {l : List Int} {x : Gp}
set_option maxHeartbeats 2000000 in
theorem next_any (h : TbAt w H 81 T D g cap p L) (hu : UM w mb N np (marks l)) (hnp : np ≤ 4096) {j : Nat} (hj : j < np) (hh : hit l j = true) (hx : L[j]? = some x) (hm : MayBe x)
    (ct : w.cell? ⟨bt, 0, none⟩ = some (.pointer (some ⟨T, 0, none⟩))) (cm : w.cell? ⟨bm, 0, none⟩ = some (.map (some mb))) (y : Gp) (hy : upp l j x = y) :
    Calls Tryz.prog 50 #[.int .i64 (j : Int), .pointer (some ⟨bt, 0, none⟩), .pointer (some ⟨bm, 0, none⟩)] w fun e w' => e = .returned (.agg #[.int .i64 y.no, .int .u64 (y.v : Int), .int .u64 (y.g 0 : Int), .int .u64 (y.g 1 : Int), .int .u64 (y.g 2 : Int), .int .u64 (y.g 3 : Int), .int .u64 (y.g 4 : Int), .int .u64 (y.g 5 : Int)]) ∧ Below w.heap.size w w' := by
  have HH := Lib.hid h
  have HU := Lib.hid hu
  have HX := Lib.hid hx
  have HB1 : Hid (bt < w.heap.size ∧ bm < w.heap.size) := ⟨World.block_lt_of_cell? w ⟨bt, 0, none⟩ ct, World.block_lt_of_cell? w ⟨bm, 0, none⟩ cm⟩
  have CM := Lib.hid cm
  obtain ⟨u, hu2⟩ : ∃ u, ((marks l) j).getD u0 = u := ⟨_, rfl⟩
  have HV : Hid (uv (((marks l) j).getD u0) = .agg #[.int .u64 (u 0 : Int), .int .u64 (u 1 : Int), .int .u64 (u 2 : Int), .int .u64 (u 3 : Int), .int .u64 (u 4 : Int), .int .u64 (u 5 : Int)]) := by show _ = _; rw [hu2]; rfl
  have hu3 : ∀ i, i < 6 → u i = add1 l (6 * j + i) ∧ u i ≤ 1 := fun i hi => by
    rw [← hu2]
    unfold marks
    rw [if_pos hh]
    show (if i < 6 then add1 l (6 * j + i) else 0) = add1 l (6 * j + i) ∧ (if i < 6 then add1 l (6 * j + i) else 0) ≤ 1
    rw [if_pos hi]
    refine ⟨rfl, ?_⟩
    unfold add1
    split <;> omega
  have HU3 := Lib.hid hu3
  have HY : Hid (((.agg #[.int .i64 y.no, .int .u64 (y.v : Int), .int .u64 (y.g 0 : Int), .int .u64 (y.g 1 : Int), .int .u64 (y.g 2 : Int), .int .u64 (y.g 3 : Int), .int .u64 (y.g 4 : Int), .int .u64 (y.g 5 : Int)]) : Value) = .agg (gc x.no (x.v + 1) (midG x.g u 6))) := by
    show _ = _
    subst hy
    unfold gc midG upp
    simp only [show (0:Nat) < 6 from by decide, show (1:Nat) < 6 from by decide, show (2:Nat) < 6 from by decide, show (3:Nat) < 6 from by decide, show (4:Nat) < 6 from by decide, show (5:Nat) < 6 from by decide, if_true]
    rw [(hu3 0 (by decide)).1, (hu3 1 (by decide)).1, (hu3 2 (by decide)).1, (hu3 3 (by decide)).1, (hu3 4 (by decide)).1, (hu3 5 (by decide)).1]
  have HM := Lib.hid hm
  have hv2 : x.v < 9000000000000000000 := by have := hm.2.1.2; omega
  obtain ⟨c0, c14, cc, fr⟩ := h.cells
  have hlen : L.length ≤ 1000000 ∨ True := .inr trivial
  have hjl : j < L.length := (List.getElem?_eq_some_iff.1 hx).1
  clear h hu hx hu2 hu3 hm cm hy cc fr hh
  have ha := balloc w (.cells #[.int .i64 0, .int .u64 0, .int .u64 0, .int .u64 0, .int .u64 0, .int .u64 0, .int .u64 0, .int .u64 0] 33)
  have ct1 : (w.alloc (.cells #[.int .i64 0, .int .u64 0, .int .u64 0, .int .u64 0, .int .u64 0, .int .u64 0, .int .u64 0, .int .u64 0] 33)).cell? ⟨bt, 0, none⟩ = some (.pointer (some ⟨T, 0, none⟩)) := (ha.cell (p := ⟨bt, 0, none⟩) HB1.out.1).trans ct
  have c141 : (w.alloc (.cells #[.int .i64 0, .int .u64 0, .int .u64 0, .int .u64 0, .int .u64 0, .int .u64 0, .int .u64 0, .int .u64 0] 33)).cell? ⟨T, 14, none⟩ = some (.slice (some ⟨g, 0, none⟩) L.length cap) := (ha.cell (p := ⟨T, 14, none⟩) HH.out.lt.1).trans c14
  have hne1 : bm ≠ w.heap.size + 1 := by have := HB1.out.2; omega
  clear ct c14 c0 ha
  go_enter Tryz.func50, Tryz.ntmps50
  go_wp2_with (first
    | ((with_reducible apply L_ld); exact rfl; exact (HH.out.alloc _).gload HX.out rfl)
    | ((with_reducible apply W.L_storeRow (N := 8) info_gp); exact rfl; exact rfl; exact heap_at_next w _ _; exact rfl; exact rfl; (simp [Value.oneCell']); intro w4 h4 g4; have H4 := Lib.hid h4; have B4 : Hid (Below w.heap.size w w4) := Lib.hid (below_up (bthen (balloc w (.cells #[.int .i64 0, .int .u64 0, .int .u64 0, .int .u64 0, .int .u64 0, .int .u64 0, .int .u64 0, .int .u64 0] 33)) (balloc _ (.cells #[.int .i64 0, .int .u64 0, .int .u64 0, .int .u64 0, .int .u64 0, .int .u64 0, .int .u64 0, .int .u64 0] 33))) g4 (Nat.le_succ _)); have R4 := Lib.hid (kept_by (heap_alloc2_old w (.cells #[.int .i64 0, .int .u64 0, .int .u64 0, .int .u64 0, .int .u64 0, .int .u64 0, .int .u64 0, .int .u64 0] 33) (.cells #[.int .i64 0, .int .u64 0, .int .u64 0, .int .u64 0, .int .u64 0, .int .u64 0, .int .u64 0, .int .u64 0] 33)) g4 (by omega)); obtain ⟨x0, x1, x2, x3, x4, x5, x6, x7⟩ := gp_cells h4; have f1 := frozen_of_row w4 (w.heap.size + 1) 1 _ _ h4; have cm4 : w4.cell? ⟨bm, 0, none⟩ = some (.map (some mb)) := (B4.out.cell (p := ⟨bm, 0, none⟩) HB1.out.2).trans CM.out; clear h4 g4 x0 x2 x3 x4 x5 x6 x7)
    | ((with_reducible refine wpList_look_um (i := j) rfl _ _ rfl rfl rfl rfl (HU.out.below (below_up B4.out (grown_set _ _ _ _) (Nat.le_succ _))) hj hnp HV.out ?_)))
  have H5 : Hid ((w4.setCell ⟨w.heap.size + 1, 1, none⟩ (.int .u64 ((x.v : Int) + 1))).heap[w.heap.size + 1]? = some (.cells (gc x.no (x.v + 1) (midG x.g u 0)) 33 (0, 0))) := by
    show _ = _
    rw [heap_setCell_same _ _ _ _ _ _ H4.out]
    rfl
  have B5 : Hid (Below w.heap.size w (w4.setCell ⟨w.heap.size + 1, 1, none⟩ (.int .u64 ((x.v : Int) + 1)))) := below_up B4.out (grown_set _ _ _ _) (Nat.le_succ _)
  have R5 : Hid ((w4.setCell ⟨w.heap.size + 1, 1, none⟩ (.int .u64 ((x.v : Int) + 1))).heap[w.heap.size]? = some (.cells #[.int .i64 0, .int .u64 0, .int .u64 0, .int .u64 0, .int .u64 0, .int .u64 0, .int .u64 0, .int .u64 0] 33 (0, 0))) := (heap_setCell_other _ _ _ _ (by show w.heap.size ≠ w.heap.size + 1; omega)).trans R4.out
  generalize w4.setCell ⟨w.heap.size + 1, 1, none⟩ (.int .u64 ((x.v : Int) + 1)) = w5 at H5 B5 R5 ⊢
  clear H4 B4 R4 x1 f1 cm4
  go_loopw [22] (fun q22 wr => ∃ k : Nat, k ≤ 6 ∧ q22 = .int .i64 (k : Int) ∧ Hid (wr.heap[w.heap.size + 1]? = some (.cells (gc x.no (x.v + 1) (midG x.g u k)) 33 (0, 0))) ∧ Hid (wr.heap[w.heap.size]? = some (.cells #[.int .i64 0, .int .u64 0, .int .u64 0, .int .u64 0, .int .u64 0, .int .u64 0, .int .u64 0, .int .u64 0] 33 (0, 0))) ∧ Hid (Below w.heap.size w wr)) (fun q22 _ => 6 - (intOf q22).toNat)
  case atStart => exact ⟨0, by omega, rfl, H5, R5, B5⟩
  case round =>
    obtain ⟨k, hk, rfl, HK, RK, BK⟩ := hrel
    by_cases hlt : k < 6
    · have hlt2 : (k : Int) < 6 := by omega
      obtain ⟨c1, f1⟩ := gc_cell HK.out hlt
      have hx := index_ups u hlt wr
      have hb1 : midG x.g u k k ≤ 4611686018427387904 := by unfold midG; rw [if_neg (Nat.lt_irrefl _)]; exact (HM.out.2.2 k hlt).2
      have hb2 : u k ≤ 1 := (HU3.out k hlt).2
      have HN : Hid ((wr.setCell ⟨w.heap.size + 1, 2 + k, none⟩ (.int .u64 ((midG x.g u k k : Int) + (u k : Int)))).heap[w.heap.size + 1]? = some (.cells (gc x.no (x.v + 1) (midG x.g u (k + 1))) 33 (0, 0))) := by
        show _ = _
        rw [← midG_step]
        exact gc_set HK.out hlt _
      obtain ⟨gk, hgk⟩ : ∃ gk, midG x.g u k k = gk := ⟨_, rfl⟩
      obtain ⟨uk, huk⟩ : ∃ uk, u k = uk := ⟨_, rfl⟩
      rw [hgk] at c1 hb1 HN
      rw [huk] at hx hb2 HN
      clear hgk huk
      go_wp2
      go_roundw
      case rel => exact ⟨k + 1, by omega, by go_num, HN, (heap_setCell_other _ _ _ _ (by show w.heap.size ≠ w.heap.size + 1; omega)).trans RK.out, below_up BK.out (grown_set _ _ _ _) (Nat.le_succ _)⟩
      case measure => simp [intOf]; omega
    · have hlt2 : ¬ (k : Int) < 6 := by omega
      have hk6 : k = 6 := by omega
      have HL : Hid (wr.heap[w.heap.size + 1]? = some (.cells (gc x.no (x.v + 1) (midG x.g u 6)) 33 (0, 0))) := by
        have e := HK.out
        rw [hk6] at e
        exact e
      clear hk6
      go_wp2_with (first
        | ((with_reducible apply L_loadGp); exact rfl; exact HL.out; exact rfl)
        | ((with_reducible apply W.L_storeRow (N := 8) info_gp); exact rfl; exact rfl; exact RK.out; exact rfl; exact rfl; (simp [Value.oneCell', gc]); intro w6 h6 g6; have H6 := Lib.hid h6; have G6 := Lib.hid g6; clear h6 g6))
      refine bodyPost_ret (results_cell_row rfl _ _ _ _ _ _ _ rfl H6.out Tryz.underlying33 rfl info_gp) rfl ?_
      rw [HY.out]
      exact ⟨rfl, below_up BK.out G6.out (Nat.le_refl _)⟩
end
end Go.Proofs.YtgdgehfapfgdfaaGreatDoor.Tb
