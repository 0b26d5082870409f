/-
  The document's table: Format, Get, named, Same, All. No conditions.
-/
import Derived.Test.YtgdgehfapfgdfaaGreatDoorGbRef
import Derived.Deep.RegionHeld
import Derived.Deep.DrawnRows
namespace Go.Proofs.YtgdgehfapfgdfaaGreatDoor.Tb
open Go.RowKit Oc Dm W Dw Sr
set_option linter.unusedVariables false
set_option maxRecDepth 100000
attribute [local go_sem ↓] Go.wp_at_zero Go.wp_at_succ

theorem plan_cells {w : World} {b : Nat} {T : TypeId} {p : Pn.Pl} (h : w.heap[b]? = some (.cells #[.int .i64 p.a0, .int .i64 p.a1, .int .i64 p.a2, .int .i64 p.a3, .int .i64 p.a4, .int .i64 p.a5, .int .i64 p.a6, .int .i64 p.a7, .int .i64 p.a8, .int .i64 p.a9, .int .i64 p.a10, .int .i64 p.a11, .int .i64 p.a12] T (0, 0))) : w.cell? ⟨b, 0, none⟩ = some (.int .i64 p.a0) ∧ w.cell? ⟨b, 1, none⟩ = some (.int .i64 p.a1) ∧ w.cell? ⟨b, 2, none⟩ = some (.int .i64 p.a2) ∧ w.cell? ⟨b, 3, none⟩ = some (.int .i64 p.a3) ∧ w.cell? ⟨b, 4, none⟩ = some (.int .i64 p.a4) ∧ w.cell? ⟨b, 5, none⟩ = some (.int .i64 p.a5) ∧ w.cell? ⟨b, 6, none⟩ = some (.int .i64 p.a6) ∧ w.cell? ⟨b, 7, none⟩ = some (.int .i64 p.a7) ∧ w.cell? ⟨b, 8, none⟩ = some (.int .i64 p.a8) ∧ w.cell? ⟨b, 9, none⟩ = some (.int .i64 p.a9) ∧ w.cell? ⟨b, 10, none⟩ = some (.int .i64 p.a10) ∧ w.cell? ⟨b, 11, none⟩ = some (.int .i64 p.a11) ∧ w.cell? ⟨b, 12, none⟩ = some (.int .i64 p.a12) := by
  refine ⟨?_, ?_, ?_, ?_, ?_, ?_, ?_, ?_, ?_, ?_, ?_, ?_, ?_⟩ <;> rw [cell_of_row _ _ _ _ _ _ h] <;> rfl
section
variable {w w' w1 w0 : World} {G H : Nat → Prop} {E q n N N' ne np ga T g cap : Nat} {m m' : Vs} {p : Pn.Pl} {x : Gp} {L : List Gp}
set_option maxHeartbeats 2000000 in
theorem rformat_any (h : RD w G E q n N m) (hp : Pln p ne np ga n) (hN : N + np + 1 ≤ 1000000) (r : Int × Vs) (hr : fmt ga np m = r) :
    Calls Tryz.prog 28 #[.pointer (some ⟨E, 0, none⟩), (.agg #[.int .i64 p.a0, .int .i64 p.a1, .int .i64 p.a2, .int .i64 p.a3, .int .i64 p.a4, .int .i64 p.a5, .int .i64 p.a6, .int .i64 p.a7, .int .i64 p.a8, .int .i64 p.a9, .int .i64 p.a10, .int .i64 p.a11, .int .i64 p.a12])] w fun e w' => e = .returned (.int .i64 r.1) ∧ RD w' (Ext G w w') E q n (N + np + 1) r.2 ∧ Chg (Al G q) w w' := by
  have H := Lib.hid h
  have HP := Lib.hid hp
  have HR : Hid (puts (fjobs ga np) m = r) := hr
  have HB : Hid (∀ k, Al G q k → k < w.heap.size) := h.bound
  have HN := Lib.hid hN
  have hnp : np ≤ 4096 := by have := hp.hn; have := hp.hn2; omega
  clear h hp hr
  go_enter Tryz.func28, Tryz.ntmps28
  go_wp2
  have B2 := Lib.hid (balloc w (.cells #[.int .i64 p.a0, .int .i64 p.a1, .int .i64 p.a2, .int .i64 p.a3, .int .i64 p.a4, .int .i64 p.a5, .int .i64 p.a6, .int .i64 p.a7, .int .i64 p.a8, .int .i64 p.a9, .int .i64 p.a10, .int .i64 p.a11, .int .i64 p.a12] 42))
  have Y2 := Lib.hid (heap_alloc_new w (.cells #[.int .i64 p.a0, .int .i64 p.a1, .int .i64 p.a2, .int .i64 p.a3, .int .i64 p.a4, .int .i64 p.a5, .int .i64 p.a6, .int .i64 p.a7, .int .i64 p.a8, .int .i64 p.a9, .int .i64 p.a10, .int .i64 p.a11, .int .i64 p.a12] 42))
  generalize w.alloc (.cells #[.int .i64 p.a0, .int .i64 p.a1, .int .i64 p.a2, .int .i64 p.a3, .int .i64 p.a4, .int .i64 p.a5, .int .i64 p.a6, .int .i64 p.a7, .int .i64 p.a8, .int .i64 p.a9, .int .i64 p.a10, .int .i64 p.a11, .int .i64 p.a12] 42) = w2 at B2 Y2 ⊢
  have YN : Hid (¬ Al G q w.heap.size) := fun x => by have := HB.out _ x; omega
  have YL : Hid (w.heap.size < w2.heap.size) := lt_of_heap Y2.out
  go_loopw [5] (fun q5 wr => ∃ j : Nat, j ≤ np ∧ q5 = .int .i64 (j : Int) ∧ ∃ mj, Hid (RDJ w2 G E q n (N + j) mj wr) ∧ Hid (puts ((fjobs ga np).drop j) mj = r)) (fun q5 _ => np - (intOf q5).toNat)
  case atStart => exact ⟨0, by omega, rfl, m, RDJ.start (H.out.below B2.out), HR⟩
  case round =>
    obtain ⟨j, hj, rfl, mj, PJ, RJ⟩ := hrel
    have YJ := Lib.hid ((PJ.out.chg.block _ YL.out YN.out).trans Y2.out)
    obtain ⟨y0, y1, y2, y3, y4, y5, y6, y7, y8, y9, y10, y11, y12⟩ := plan_cells YJ.out
    by_cases hlt : j < np
    · have hlt2 : decide ((j : Int) < p.a2) = true := by rw [HP.out.h2]; simp; omega
      obtain ⟨fq, hfq⟩ : ∃ fq, fresh j = fq := ⟨_, rfl⟩
      have FR : Hid (∀ w', Calls Tryz.prog 68 #[.int .i64 (j : Int)] w' fun e w'' => e = .returned (.agg #[.int .i64 fq.no, .int .u64 (fq.v : Int), .int .u64 (fq.g 0 : Int), .int .u64 (fq.g 1 : Int), .int .u64 (fq.g 2 : Int), .int .u64 (fq.g 3 : Int), .int .u64 (fq.g 4 : Int), .int .u64 (fq.g 5 : Int)]) ∧ Below w'.heap.size w' w'') := fun w' => by rw [← hfq]; exact rfresh_any _ _
      have RJ2 := Lib.hid RJ.out
      rw [fjobs_at hlt, hfq] at RJ2
      have FM : Hid (MayBe fq ∧ fq.no = (j : Int)) := by subst hfq; exact ⟨fresh_may (by omega), rfl⟩
      obtain ⟨v, m', hv⟩ : ∃ v m', wr1 mj (spot ga fq) (sect fq) = (v, m') := ⟨_, _, rfl⟩
      have KW : Hid (∀ w', Below wr.heap.size wr w' → Calls Tryz.prog 67 #[.pointer (some ⟨E, 0, none⟩), (.agg #[.int .i64 p.a0, .int .i64 p.a1, .int .i64 p.a2, .int .i64 p.a3, .int .i64 p.a4, .int .i64 p.a5, .int .i64 p.a6, .int .i64 p.a7, .int .i64 p.a8, .int .i64 p.a9, .int .i64 p.a10, .int .i64 p.a11, .int .i64 p.a12]), (.agg #[.int .i64 fq.no, .int .u64 (fq.v : Int), .int .u64 (fq.g 0 : Int), .int .u64 (fq.g 1 : Int), .int .u64 (fq.g 2 : Int), .int .u64 (fq.g 3 : Int), .int .u64 (fq.g 4 : Int), .int .u64 (fq.g 5 : Int)])] w' fun e w'' => e = .returned (.int .i64 v) ∧ RDJ w2 G E q n (N + (j + 1)) m' w'') := fun w' hb => by
        have := (PJ.out.below hb).write HP.out (by have := HN.out; omega) hlt FM.out.2 FM.out.1
        rw [hv] at this
        exact this
      have HV : Hid (wr1 mj (spot ga fq) (sect fq) = (v, m')) := hv
      clear hfq hv
      go_wp2_with fail
      go_region_held (fun w' => w'.cell? ⟨w.heap.size, 0, none⟩ = some (.int .i64 p.a0) ∧ w'.cell? ⟨w.heap.size, 1, none⟩ = some (.int .i64 p.a1) ∧ w'.cell? ⟨w.heap.size, 2, none⟩ = some (.int .i64 p.a2) ∧ w'.cell? ⟨w.heap.size, 3, none⟩ = some (.int .i64 p.a3) ∧ w'.cell? ⟨w.heap.size, 4, none⟩ = some (.int .i64 p.a4) ∧ w'.cell? ⟨w.heap.size, 5, none⟩ = some (.int .i64 p.a5) ∧ w'.cell? ⟨w.heap.size, 6, none⟩ = some (.int .i64 p.a6) ∧ w'.cell? ⟨w.heap.size, 7, none⟩ = some (.int .i64 p.a7) ∧ w'.cell? ⟨w.heap.size, 8, none⟩ = some (.int .i64 p.a8) ∧ w'.cell? ⟨w.heap.size, 9, none⟩ = some (.int .i64 p.a9) ∧ w'.cell? ⟨w.heap.size, 10, none⟩ = some (.int .i64 p.a10) ∧ w'.cell? ⟨w.heap.size, 11, none⟩ = some (.int .i64 p.a11) ∧ w'.cell? ⟨w.heap.size, 12, none⟩ = some (.int .i64 p.a12))
        (first | go_keep | exact plan_cells Z4.out | exact plan_cells Z3.out)
        (first
          | (go_at_call 68; (with_reducible refine (FR.out _).mono ?_); rintro e w3 ⟨rfl, b3⟩; have B3 : Hid (Below wr.heap.size wr w3) := below_of_drew b3; have Z3 := Lib.hid (kept_below YJ.out B3.out); clear b3)
          | (go_at_call 67; (with_reducible refine (KW.out _ B3.out).mono ?_); rintro e w4 ⟨rfl, p4⟩; have P4 := Lib.hid p4; have Z4 := Lib.hid ((p4.chg.block _ YL.out YN.out).trans Y2.out); clear p4))
      all_goals
        clear y0 y1 y2 y3 y4 y5 y6 y7 y8 y9 y10 y11 y12
        by_cases hv0 : v = 0
        · have RK : Hid (puts ((fjobs ga np).drop (j + 1)) m' = r) := by
            have h1 := RJ2.out
            rw [puts_ok (by show (wr1 mj (spot ga fq) (sect fq)).1 = 0; rw [HV.out]; exact hv0)] at h1
            have e : (wr1 mj (job ga fq).1 (job ga fq).2) = (v, m') := HV.out
            rw [e] at h1
            exact h1
          go_wp2
          go_roundw
          case rel => exact ⟨j + 1, by omega, by go_num, m', P4, RK⟩
          case measure => simp [intOf]; omega
        · have RK : Hid (r = (v, m')) := by
            have h1 := RJ2.out
            rw [puts_no (by show ¬ (wr1 mj (spot ga fq) (sect fq)).1 = 0; rw [HV.out]; exact hv0)] at h1
            exact h1.symm.trans HV.out
          have PE := Lib.hid ((P4.out.more (N' := N + np + 1) (by omega) HN.out).end_ H.out B2.out)
          go_wp2
          go_ret
          rw [RK.out]
          exact ⟨rfl, PE.out⟩
    · have hlt2 : decide ((j : Int) < p.a2) = false := by rw [HP.out.h2]; simp; omega
      have hjn : j = np := by omega
      have RK : Hid (fl1 mj = r) := by
        have h1 := RJ.out
        rw [hjn, List.drop_of_length_le (by simp [fjobs])] at h1
        exact h1
      clear hjn
      go_wp2_with fail
      refine (PJ.out.flush (by have := HN.out; omega)).mono ?_; rintro e w4 ⟨rfl, p4⟩
      rw [RK.out] at p4
      have PE := Lib.hid ((p4.more (N' := N + np + 1) (by have := HN.out; omega) HN.out).end_ H.out B2.out)
      clear p4
      go_wp2
      go_ret
      exact ⟨by rw [RK.out]; rfl, PE.out⟩
theorem rget_no (h : TbAt w H 148 T E g cap p L) (hp : Pln p ne np ga n) (x : Int) (hx : ¬ (0 ≤ x ∧ x < (ne : Int))) : Calls Tryz.prog 39 #[.pointer (some ⟨T, 0, none⟩), .int .i64 x] w fun e w' => e = .returned (.tuple #[.int .u64 0, .bool false]) ∧ w = w' := by
  have c2 : w.cell? ⟨T, 2, none⟩ = some (.int .i64 (ne : Int)) := by
    have := h.cells.2.2.1 1 (.int .i64 p.a1) rfl
    rwa [hp.h1] at this
  clear h hp
  by_cases h0 : x < 0
  · clear hx
    go_enter Tryz.func39, Tryz.ntmps39
    go_wp2
    go_ret2
    exact ⟨rfl, rfl⟩
  · have h1 : decide ((ne : Int) ≤ x) = true := by simp; omega
    clear hx
    go_enter Tryz.func39, Tryz.ntmps39
    go_wp2
    go_ret2
    exact ⟨rfl, rfl⟩
theorem rget_yes (h : TbAt w H 148 T E g cap p L) (hp : Pln p ne np ga n) (hl : L.length = np) (e : Nat) (he : e < ne) : Calls Tryz.prog 39 #[.pointer (some ⟨T, 0, none⟩), .int .i64 (e : Int)] w fun r w' => r = .returned (.tuple #[.int .u64 (gen L e : Int), .bool true]) ∧ w = w' := by
  have c2 : w.cell? ⟨T, 2, none⟩ = some (.int .i64 (ne : Int)) := by
    have := h.cells.2.2.1 1 (.int .i64 p.a1) rfl
    rwa [hp.h1] at this
  have c14 := h.cells.2.1
  have hj : e / 6 < L.length := by have := hp.he1; omega
  have hn : L.length ≤ 4096 := by have := hp.hn; have := hp.hn2; omega
  obtain ⟨y, hq⟩ : ∃ y, L[e / 6]? = some y := ⟨_, List.getElem?_eq_getElem hj⟩
  have hgen : gen L e = y.g (e % 6) := by unfold gen; rw [List.getD_eq_getElem?_getD, hq]; rfl
  rw [hgen]
  obtain ⟨j, hj2⟩ : ∃ j, e / 6 = j := ⟨_, rfl⟩
  obtain ⟨k, hk2⟩ : ∃ k, e % 6 = k := ⟨_, rfl⟩
  have hk6 : k < 6 := by omega
  have d1 : (e : Int) / 6 = (j : Int) := by omega
  have d2 : (e : Int) % 6 = (k : Int) := by omega
  rw [hj2] at hj hq
  rw [hk2]
  obtain ⟨cg, fg⟩ := h.pgen hq hk6
  have h1 : ¬ (ne : Int) ≤ (e : Int) := by omega
  have h0 : ¬ (e : Int) < 0 := by omega
  have hbd : (e : Int) ≤ 100000 := by have := hp.he1; omega
  clear h hp hgen hj2 hk2 he hl hq
  go_enter Tryz.func39, Tryz.ntmps39
  go_wp2
  go_ret2
  exact ⟨rfl, rfl⟩
/-- is one of them that number? -/
theorem named_any {A : Option Addr} {k c : Nat} {ls : List Int} (hf : Fi w A k ls) (hk : k ≤ 1000000000) (e : Nat) (he : e ≤ 1000000) : Calls Tryz.prog 84 #[.slice A k c, .int .i64 (e : Int)] w fun r w' => r = .returned (.bool (named ls e)) ∧ w = w' := by
  have HF := Lib.hid hf
  have HN := Lib.hid (fi_len hf)
  clear hf
  go_enter Tryz.func84, Tryz.ntmps84
  go_wp2
  go_loop [5] (fun q5 => ∃ j : Nat, j ≤ k ∧ q5 = .int .i64 (j : Int) ∧ Hid (∀ i x, i < j → ls[i]? = some x → x ≠ (e : Int))) (fun q5 => k - (intOf q5).toNat)
  case atStart => exact ⟨0, by omega, rfl, fun i x hi => absurd hi (Nat.not_lt_zero _)⟩
  case round =>
    obtain ⟨j, hj, rfl, HJ⟩ := hrel
    by_cases hlt : j < k
    · have hlt2 : (j : Int) < (k : Int) := by omega
      obtain ⟨x, hx⟩ : ∃ x, ls[j]? = some x := ⟨_, List.getElem?_eq_getElem (by rw [HN.out]; exact hlt)⟩
      obtain ⟨b, off, rfl, cx⟩ := fi_at HF.out hx
      have HX := Lib.hid hx
      clear hx
      by_cases hxe : x = (e : Int)
      · have R : Hid (named ls e = true) := named_iff.2 (by rw [← hxe]; exact List.mem_of_getElem? HX.out)
        have hd : (x == (e : Int)) = true := by simp [hxe]
        clear hxe
        go_wp2
        go_ret
        exact ⟨by rw [R.out]; rfl, rfl⟩
      · have hd : (x == (e : Int)) = false := by simp [hxe]
        have HE := Lib.hid hxe
        clear hxe
        go_wp2
        go_round
        case rel => exact ⟨j + 1, by omega, by go_num, fun i y hi hy => by
          by_cases h3 : i = j
          · subst h3
            have e1 := HX.out
            rw [hy] at e1
            injection e1 with e1
            subst e1
            exact HE.out
          · exact HJ.out i y (by omega) hy⟩
        case measure => simp [intOf]; omega
    · have hlt2 : ¬ (j : Int) < (k : Int) := by omega
      have R : Hid (named ls e = false) := by
        show _ = _
        rw [← Bool.not_eq_true, named_iff]
        intro hm
        obtain ⟨i, hi⟩ := List.mem_iff_getElem?.1 hm
        have := (List.getElem?_eq_some_iff.1 hi).1
        exact HJ.out i _ (by have := HN.out; omega) hi rfl
      go_wp2
      go_ret
      exact ⟨by rw [R.out]; rfl, rfl⟩
end
/-- two rows that are the same -/
theorem rsame_any {w : World} {A1 A2 : Option Addr} {k c1 c2 : Nat} {vs : List Int} (h1 : Rw.Sl w A1 k (vs.map (Value.int .u64))) (h2 : Rw.Sl w A2 k (vs.map (Value.int .u64))) (hk : k ≤ 1000000) :
    Calls Tryz.prog 41 #[.slice A1 k c1, .slice A2 k c2] w fun e w' => e = .returned (.bool true) ∧ Below w.heap.size w w' := by
  have H1 := Lib.hid h1
  have H2 := Lib.hid h2
  have HN : Hid (vs.length = k) := by have := Rw.Sl.len h1; rwa [List.length_map] at this
  clear h1 h2
  go_enter Tryz.func41, Tryz.ntmps41
  go_wp2
  go_loopw [5] (fun q5 wr => ∃ j : Nat, j ≤ k ∧ q5 = .int .i64 (j : Int) ∧ Hid (Below w.heap.size w wr)) (fun q5 _ => k - (intOf q5).toNat)
  case atStart => exact ⟨0, by omega, rfl, Below.refl _ _⟩
  case round =>
    obtain ⟨j, hj, rfl, BJ⟩ := hrel
    by_cases hlt : j < k
    · have hlt2 : (j : Int) < (k : Int) := by omega
      obtain ⟨x, hx⟩ : ∃ x, vs[j]? = some x := ⟨_, List.getElem?_eq_getElem (by rw [HN.out]; exact hlt)⟩
      obtain ⟨b1, o1, rfl, cx1⟩ := Rw.Sl.at_ (Rw.Sl.below H1.out BJ.out) (k := j) (u := .int .u64 x) (by rw [List.getElem?_map, hx]; rfl)
      obtain ⟨b2, o2, rfl, cx2⟩ := Rw.Sl.at_ (Rw.Sl.below H2.out BJ.out) (k := j) (u := .int .u64 x) (by rw [List.getElem?_map, hx]; rfl)
      clear hx
      go_wp2_with fail
      go_quiet (fail)
      go_wp2
      go_roundw
      case rel => exact ⟨j + 1, by omega, by go_num, below_drewN BJ.out nq⟩
      case measure => simp [intOf]; omega
    · have hlt2 : ¬ (j : Int) < (k : Int) := by omega
      go_wp2
      go_ret
      exact ⟨rfl, BJ.out⟩
end Go.Proofs.YtgdgehfapfgdfaaGreatDoor.Tb
