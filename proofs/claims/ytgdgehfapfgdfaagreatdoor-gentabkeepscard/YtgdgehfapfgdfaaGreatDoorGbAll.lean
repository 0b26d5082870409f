/-
  All generations of a table; which pages some extents stand on. No conditions.
-/
import Derived.Test.YtgdgehfapfgdfaaGreatDoorGbAsk2
namespace Go.Proofs.YtgdgehfapfgdfaaGreatDoor.Tb
open Go.RowKit Oc Dm W Dw Sr
set_option linter.unusedVariables false
set_option maxRecDepth 100000

theorem u64row : Rw.ElTy Tryz.prog 56 30 (.int .u64 0) 8 := ⟨Tryz.underlying56, by kernel_rfl, rfl, by decide⟩
/-- the first j of them told -/
def partV (L : List Gp) (ne j : Nat) : List Value := (List.range ne).map fun e => .int .u64 (if e < j then (gen L e : Int) else 0)
def gensV (L : List Gp) (ne : Nat) : List Value := (List.range ne).map fun e => .int .u64 (gen L e : Int)
theorem partV_zero (L : List Gp) (ne : Nat) : List.replicate ne (Value.int .u64 0) = partV L ne 0 := by
  unfold partV
  apply List.ext_getElem?
  intro i
  by_cases h : i < ne <;> simp [h]
theorem partV_len (L : List Gp) (ne j : Nat) : (partV L ne j).length = ne := by simp [partV]
theorem partV_all (L : List Gp) (ne : Nat) : partV L ne ne = gensV L ne := by
  unfold partV gensV
  refine List.map_congr_left fun e he => ?_
  rw [if_pos (List.mem_range.1 he)]
theorem partV_set (L : List Gp) (ne j : Nat) : (partV L ne j).set j (.int .u64 (gen L j : Int)) = partV L ne (j + 1) := by
  unfold partV
  apply List.ext_getElem?
  intro i
  rw [List.getElem?_set]
  by_cases h : j = i
  · subst h
    rw [if_pos rfl]
    by_cases h2 : j < ne
    · simp [h2]
    · simp [h2]
  · rw [if_neg h]
    by_cases h2 : i < ne
    · simp [h2]
      congr 1
      exact propext ⟨fun h => by omega, fun h => by omega⟩
    · simp [h2]
theorem partV_at (L : List Gp) (ne j : Nat) (h : j < ne) : (partV L ne j)[j]? = some (.int .u64 0) := by
  unfold partV
  simp [h]
theorem field_1 (p : Pn.Pl) (w : World) : (Instr.field 42 (.agg #[.int .i64 p.a0, .int .i64 p.a1, .int .i64 p.a2, .int .i64 p.a3, .int .i64 p.a4, .int .i64 p.a5, .int .i64 p.a6, .int .i64 p.a7, .int .i64 p.a8, .int .i64 p.a9, .int .i64 p.a10, .int .i64 p.a11, .int .i64 p.a12]) 1).run Tryz.prog w = .ok (.int .i64 p.a1) w := by kernel_rfl
theorem field_2 (p : Pn.Pl) (w : World) : (Instr.field 42 (.agg #[.int .i64 p.a0, .int .i64 p.a1, .int .i64 p.a2, .int .i64 p.a3, .int .i64 p.a4, .int .i64 p.a5, .int .i64 p.a6, .int .i64 p.a7, .int .i64 p.a8, .int .i64 p.a9, .int .i64 p.a10, .int .i64 p.a11, .int .i64 p.a12]) 2).run Tryz.prog w = .ok (.int .i64 p.a2) w := by kernel_rfl
theorem field_4 (p : Pn.Pl) (w : World) : (Instr.field 42 (.agg #[.int .i64 p.a0, .int .i64 p.a1, .int .i64 p.a2, .int .i64 p.a3, .int .i64 p.a4, .int .i64 p.a5, .int .i64 p.a6, .int .i64 p.a7, .int .i64 p.a8, .int .i64 p.a9, .int .i64 p.a10, .int .i64 p.a11, .int .i64 p.a12]) 4).run Tryz.prog w = .ok (.int .i64 p.a4) w := by kernel_rfl
theorem all_nil (w : World) : Calls Tryz.prog 13 #[.pointer none] w fun e w' => e = .returned (.slice none 0 0) ∧ w = w' := by
  go_enter Tryz.func13, Tryz.ntmps13
  go_wp2_with fail
  refine (tmade_nil _).mono ?_; rintro e w' ⟨rfl, rfl⟩
  go_wp2
  go_ret
  exact ⟨rfl, rfl⟩
theorem all_odd (w : World) (T : Nat) (c0 : w.cell? ⟨T, 0, none⟩ = some (.pointer none)) : Calls Tryz.prog 13 #[.pointer (some ⟨T, 0, none⟩)] w fun e w' => e = .returned (.slice none 0 0) ∧ w = w' := by
  have C0 := Lib.hid c0
  clear c0
  go_enter Tryz.func13, Tryz.ntmps13
  go_wp2_with fail
  refine (tmade_odd _ _ C0.out).mono ?_; rintro e w' ⟨rfl, rfl⟩
  go_wp2
  go_ret
  exact ⟨rfl, rfl⟩
section
variable {w w' : World} {H F : Nat → Prop} {T D g cap ne np ga n k c : Nat} {p : Pn.Pl} {L : List Gp} {A : Option Addr} {ls : List Int}
theorem all_any (h : TbAt w H 81 T D g cap p L) (hp : Pln p ne np ga n) (hl : L.length = np) :
    Calls Tryz.prog 13 #[.pointer (some ⟨T, 0, none⟩)] w fun e w' => ∃ g', e = .returned (.slice (some ⟨g', 0, none⟩) ne ne) ∧ Rw.OwnV w' 30 w.heap.size (.slice (some ⟨g', 0, none⟩) ne ne) (gensV L ne) ∧ Below w.heap.size w w' := by
  have HH := Lib.hid h
  have HP := Lib.hid hp
  have HL := Lib.hid hl
  obtain ⟨c0, c14, cm, fr⟩ := h.cells
  have hne : ne ≤ 100000 := by have := hp.he1; have := hp.hn; have := hp.hn2; omega
  have h1 := Lib.hid hp.h1
  clear h hp hl cm c14
  go_enter Tryz.func13, Tryz.ntmps13
  go_wp2_with fail
  refine (tmade_any HH.out).mono ?_; rintro e w' ⟨rfl, rfl⟩
  go_wp2_with ((with_reducible apply L_ld); exact rfl; exact HH.out.chart)
  refine (Pn.plan_any p _).mono ?_; rintro e w1 ⟨rfl, b1⟩
  have B1 := Lib.hid b1
  have hf1 := field_1 p w1
  clear b1 c0 fr
  go_wp2_with (at_make; refine Rw.wpList_make_row rfl _ _ _ rfl u64row p.a1 p.a1 ne rfl rfl h1.out h1.out (by omega) ?_; intro w2 o2 b2; rw [partV_zero L] at o2; have O2 := Lib.hid (o2.more B1.out.size); have B2 := Lib.hid (bthen B1.out b2); clear o2 b2)
  generalize w1.heap.size = g' at O2 ⊢
  go_loopw [18] (fun q wr => ∃ j : Nat, j ≤ ne ∧ q = .int .i64 (j : Int) ∧ Hid (Rw.OwnV wr 30 w.heap.size (.slice (some ⟨g', 0, none⟩) ne ne) (partV L ne j)) ∧ Hid (Below w.heap.size w wr)) (fun q _ => ne - (intOf q).toNat)
  case atStart => exact ⟨0, by omega, rfl, O2, B2⟩
  case round =>
    obtain ⟨j, hj, rfl, OJ, BJ⟩ := hrel
    by_cases hlt : j < ne
    · have hlt2 : (j : Int) < (ne : Int) := by omega
      go_wp2_with fail
      refine (get_yes (HH.out.below BJ.out) HP.out HL.out j hlt).mono ?_; rintro r w3 ⟨rfl, b3⟩
      have O3 := Lib.hid (OJ.out.below b3)
      have B3 := Lib.hid (bthen BJ.out b3)
      obtain ⟨cj, fj⟩ := O3.out.cell (partV_len L ne j) (partV_at L ne j hlt)
      clear b3
      obtain ⟨o4, g4⟩ := O3.out.set (j := j) (partV_len L ne j) (.int .u64 (gen L j : Int))
      rw [partV_set] at o4
      have O4 := Lib.hid o4
      have B4 := Lib.hid (B3.out.grown g4 B3.out.size (fun q e => by injection e with e; subst e; exact (O3.out.ge _ rfl).1))
      clear o4 g4
      go_wp2
      go_roundw
      case rel => exact ⟨j + 1, by omega, by go_num, O4, B4⟩
      case measure => simp [intOf]; omega
    · have hlt2 : ¬ (j : Int) < (ne : Int) := by omega
      have e : j = ne := by omega
      have O5 : Hid (Rw.OwnV wr 30 w.heap.size (.slice (some ⟨g', 0, none⟩) ne ne) (gensV L ne)) := by
        rw [← partV_all, ← e]
        rw [← e] at OJ
        exact OJ.out
      go_wp2
      go_ret
      exact ⟨g', rfl, O5.out, BJ.out⟩
end

/-! which pages -/
/-- what a map of marks has, of extents that there are -/
def marks (l : List Int) : Nat → Option (Nat → Nat) := fun i => if hit l i = true then some (fun k => if k < 6 then add1 l (6 * i + k) else 0) else none
theorem named_snoc (l : List Int) (x : Int) (e : Nat) : named (l ++ [x]) e = (named l e || x == (e : Int)) := by simp [named]
theorem add1_no {l : List Int} {i k : Nat} (h : ¬ hit l i = true) (hk : k < 6) : add1 l (6 * i + k) = 0 := by
  unfold add1
  rw [if_neg]
  intro h2
  exact h (hit_iff.2 ⟨k, hk, named_iff.1 h2⟩)
theorem marks_snoc (l : List Int) (e : Nat) : marks (l ++ [(e : Int)]) = Dm.upd (marks l) (e / 6) (some (up (((marks l) (e / 6)).getD u0) (e % 6) 1)) := by
  funext i
  by_cases hi : i = e / 6
  · subst hi
    rw [Dm.upd_same]
    unfold marks
    have h1 : hit (l ++ [(e : Int)]) (e / 6) = true := hit_iff.2 ⟨e % 6, by omega, by rw [show 6 * (e / 6) + e % 6 = e by omega]; simp⟩
    rw [if_pos h1]
    congr 1
    funext k
    unfold up
    by_cases hk : k < 6
    · rw [if_pos hk]
      by_cases h2 : k = e % 6
      · rw [if_pos h2]
        unfold add1
        rw [if_pos]
        rw [named_snoc, h2, show 6 * (e / 6) + e % 6 = e by omega]
        simp
      · rw [if_neg h2]
        have h3 : add1 (l ++ [(e : Int)]) (6 * (e / 6) + k) = add1 l (6 * (e / 6) + k) := by
          unfold add1
          rw [named_snoc]
          have : ((e : Int) == ((6 * (e / 6) + k : Nat) : Int)) = false := by simp; omega
          rw [this, Bool.or_false]
        rw [h3]
        by_cases h4 : hit l (e / 6) = true
        · rw [if_pos h4]; simp [hk]
        · rw [if_neg h4, add1_no h4 hk]; rfl
    · rw [if_neg hk, if_neg (by omega)]
      by_cases h4 : hit l (e / 6) = true
      · rw [if_pos h4]; simp [hk]
      · rw [if_neg h4]; rfl
  · rw [Dm.upd_other _ _ hi]
    unfold marks
    have h1 : ∀ k, k < 6 → named (l ++ [(e : Int)]) (6 * i + k) = named l (6 * i + k) := fun k hk => by
      rw [named_snoc]
      have : ((e : Int) == ((6 * i + k : Nat) : Int)) = false := by simp; omega
      rw [this, Bool.or_false]
    have h2 : hit (l ++ [(e : Int)]) i = hit l i := by
      rw [Bool.eq_iff_iff, hit_iff, hit_iff]
      constructor
      · rintro ⟨k, hk, h⟩; exact ⟨k, hk, named_iff.1 (by rw [← h1 k hk]; exact named_iff.2 h)⟩
      · rintro ⟨k, hk, h⟩; exact ⟨k, hk, List.mem_append_left _ h⟩
    rw [h2]
    split
    · congr 1
      funext k
      by_cases hk : k < 6
      · rw [if_pos hk, if_pos hk]
        unfold add1
        rw [h1 k hk]
      · rw [if_neg hk, if_neg hk]
    · rfl
theorem inside_snoc_yes (l : List Int) (ne : Nat) (e : Nat) (h : e < ne) : inside (l ++ [(e : Int)]) ne = inside l ne ++ [(e : Int)] := by
  unfold inside
  rw [List.filter_append]
  congr 1
  simp [h]
theorem inside_snoc_no (l : List Int) (ne : Nat) (x : Int) (h : ¬ (0 ≤ x ∧ x < (ne : Int))) : inside (l ++ [x]) ne = inside l ne := by
  unfold inside
  rw [List.filter_append]
  have : [x].filter (fun x => decide (0 ≤ x) && decide (x < (ne : Int))) = [] := by
    rw [List.filter_eq_nil_iff]
    intro y hy
    rw [List.mem_singleton] at hy
    subst hy
    simp
    omega
  rw [this, List.append_nil]
theorem marks_nil : marks [] = fun _ => none := by
  funext i
  unfold marks hit
  simp [named]
theorem info_ups : (Tryz.prog.info? 114).map (·.size) = some 6 := by kernel_rfl
theorem L_loadUps {ops : Array Oper} {rest : List Oper} {a : Act} {w : World} {Q : Exit → Act → World → Prop} {dst : Option Tmp} {ty : TypeId} {pos : String} {af : Array Edge} {x : Operand} {g : Nat} {t : TypeId} {cs : Array Value}
    (hx : a.eval x = .pointer (some ⟨g, 0, none⟩)) (hg : w.heap[g]? = some (.cells cs t (0, 0))) (hc : cs.size = 6)
    (hK : wpList Tryz.prog ops Q rest (a.put dst (.agg cs)) w) : wpList Tryz.prog ops Q (⟨dst, .load 114 x, ty, pos, af, none⟩ :: rest) a w :=
  wpList_load_row rfl 114 x rfl g hx t cs (0, 0) _ hg Tryz.underlying114 rfl (by rw [hc]; exact info_ups) hK
theorem take_snoc {ls : List Int} {j : Nat} {x : Int} (h : ls[j]? = some x) : ls.take (j + 1) = ls.take j ++ [x] := by
  obtain ⟨hj, e⟩ := List.getElem?_eq_some_iff.1 h
  rw [List.take_succ_eq_append_getElem hj, e]
section
variable {w w' : World} {H F : Nat → Prop} {T D g cap ne np ga n k c : Nat} {p : Pn.Pl} {L : List Gp} {A : Option Addr} {ls : List Int}
set_option maxHeartbeats 1000000 in
theorem gather_any (h : TbAt w H 81 T D g cap p L) (hp : Pln p ne np ga n) (hf : Fi w A k ls) (hk : k ≤ 1000000000) :
    Calls Tryz.prog 46 #[.pointer (some ⟨T, 0, none⟩), .slice A k c] w fun e w' => ∃ mb, e = .returned (.map (some mb)) ∧ w.heap.size ≤ mb ∧ UM w' mb k np (marks (inside ls ne)) ∧ Below w.heap.size w w' := by
  have HH := Lib.hid h
  have HF := Lib.hid hf
  have HP := Lib.hid hp
  have HN := Lib.hid (fi_len hf)
  clear h hf hp
  have hmm := @run_makeMap Tryz.prog
  go_enter Tryz.func46, Tryz.ntmps46
  go_wp2
  clear hmm
  go_loopw [15] (fun q wr => ∃ j : Nat, j ≤ k ∧ q = .int .i64 (j : Int) ∧ Hid (UM wr w.heap.size j np (marks (inside (ls.take j) ne))) ∧ Hid (Below w.heap.size w wr)) (fun q _ => k - (intOf q).toNat)
  case atStart => exact ⟨0, by omega, rfl, by show UM _ _ _ _ _; rw [List.take_zero, show inside [] ne = [] from rfl, marks_nil]; exact UM.made w np, balloc _ _⟩
  case round =>
    obtain ⟨j, hj, rfl, UJ, BJ⟩ := hrel
    by_cases hlt : j < k
    · have hlt2 : (j : Int) < (k : Int) := by omega
      obtain ⟨x, hx⟩ : ∃ x, ls[j]? = some x := ⟨_, List.getElem?_eq_getElem (by rw [HN.out]; exact hlt)⟩
      obtain ⟨b, off, rfl, cx⟩ := fi_at (Rw.Sl.below HF.out BJ.out) hx
      have HX := Lib.hid hx
      have HJ := Lib.hid (HH.out.below BJ.out)
      obtain ⟨c0, c14, cm, fr⟩ := HJ.out.cells
      clear hx cm c14
      by_cases hin : 0 ≤ x ∧ x < (ne : Int)
      · obtain ⟨e, rfl⟩ := Int.eq_ofNat_of_zero_le hin.1
        have he : e < ne := by omega
        have HE : Hid ((e : Int) < p.a1) := by show _ < _; rw [HP.out.h1]; omega
        have HT : Hid (marks (inside (ls.take (j + 1)) ne) = Dm.upd (marks (inside (ls.take j) ne)) (e / 6) (some (up (((marks (inside (ls.take j) ne)) (e / 6)).getD u0) (e % 6) 1))) := by
          show _ = _
          rw [take_snoc HX.out, inside_snoc_yes _ _ _ he, marks_snoc]
        have hbd : (e : Int) ≤ 9223372036854775807 := by have := HP.out.he1; have := HP.out.hn; have := HP.out.hn2; omega
        have HB := Lib.hid hbd
        obtain ⟨i, hi⟩ : ∃ i, e / 6 = i := ⟨_, rfl⟩
        obtain ⟨q, hq⟩ : ∃ q, e % 6 = q := ⟨_, rfl⟩
        have hq6 : q < 6 := by omega
        have D1 : Hid ((e : Int) / 6 = (i : Int) ∧ (e : Int) % 6 = (q : Int)) := by show _ ∧ _; omega
        have hin' : i < np := by have := HP.out.he1; omega
        have hnp : np ≤ 4096 := by have := HP.out.hn; have := HP.out.hn2; omega
        rw [hi, hq] at HT
        generalize marks (inside (ls.take j) ne) = f at UJ HT
        obtain ⟨u, hu⟩ : ∃ u, (f i).getD u0 = u := ⟨_, rfl⟩
        rw [hu] at HT
        have HU : Hid (uv ((f i).getD u0) = .agg (W.ga u)) := by show _ = _; rw [hu]; rfl
        clear hin hbd hi hq hu
        go_wp2_with ((with_reducible apply L_ld); exact rfl; exact HJ.out.chart)
        refine (Pn.page_yes p _ _ (by omega) HE.out HB.out).mono ?_; rintro r w1 ⟨rfl, b1⟩
        have B1 := Lib.hid b1
        have U1 := Lib.hid (UJ.out.below b1)
        clear b1 c0 fr cx
        obtain ⟨d1, d2⟩ := D1.out
        rw [d1, d2]
        clear d1 d2
        go_wp2_with (first
          | ((with_reducible refine wpList_look_um (i := i) rfl _ _ rfl rfl rfl rfl U1.out hin' hnp HU.out ?_))
          | ((with_reducible apply W.L_storeRow (N := 6) info_ups); exact rfl; exact rfl; exact heap_alloc_new _ _; exact rfl; exact rfl; (simp [Value.oneCell', W.ga]); intro w2 h2 g2; obtain ⟨c1, f1⟩ := ga_cell h2 hq6; have H3 : Hid ((w2.setCell ⟨w1.heap.size, q, none⟩ (.int .u64 1)).heap[w1.heap.size]? = some (.cells (W.ga (up u q 1)) 114 (0, 0))) := Lib.hid (ga_set h2 hq6 1); have B3 : Hid (Below w1.heap.size w1 (w2.setCell ⟨w1.heap.size, q, none⟩ (.int .u64 1))) := Lib.hid (below_up (below_up (balloc w1 _) g2 (Nat.le_refl _)) (grown_set _ _ _ _) (Nat.le_refl _)); have U3 := Lib.hid (U1.out.below B3.out); clear h2 g2)
          | ((with_reducible apply L_loadUps); exact rfl; exact H3.out; exact rfl)
          | ((with_reducible refine wpList_put_um (i := i) (u := up u q 1) rfl _ _ _ rfl rfl rfl rfl rfl U3.out hin' hnp (by unfold maxLen; omega) ?_); intro w4 u4' g4 s4; have U4 := Lib.hid u4'; have B4 := Lib.hid ((bthen (bthen BJ.out B1.out) B3.out).grown g4 (bthen (bthen BJ.out B1.out) B3.out).size (fun r e => by injection e with e; omega)); clear u4' g4 s4 c1 f1))
        go_roundw
        case rel => exact ⟨j + 1, by omega, by go_num, by show UM _ _ _ _ _; rw [HT.out]; exact U4.out, B4⟩
        case measure => simp [intOf]; omega
      · have HE : Hid (¬ (0 ≤ x ∧ x < p.a1)) := by show ¬ _; rw [HP.out.h1]; exact hin
        have HT : Hid (inside (ls.take (j + 1)) ne = inside (ls.take j) ne) := by
          show _ = _
          rw [take_snoc HX.out, inside_snoc_no _ _ _ hin]
        clear hin
        go_wp2_with ((with_reducible apply L_ld); exact rfl; exact HJ.out.chart)
        refine (Pn.page_no p _ _ HE.out).mono ?_; rintro r w1 ⟨rfl, b1⟩
        have B1 := Lib.hid (bthen BJ.out b1)
        have U1 := Lib.hid (UJ.out.below b1)
        clear b1 c0 fr cx
        go_wp2
        go_roundw
        case rel => exact ⟨j + 1, by omega, by go_num, by show UM _ _ _ _ _; rw [HT.out]; exact U1.out.more (Nat.le_succ _), B1⟩
        case measure => simp [intOf]; omega
    · have hlt2 : ¬ (j : Int) < (k : Int) := by omega
      have hjk : j = k := by omega
      have U5 : Hid (UM wr w.heap.size k np (marks (inside ls ne))) := by
        have := UJ.out
        rw [hjk, List.take_of_length_le (by rw [HN.out]; exact Nat.le_refl _)] at this
        exact this
      clear hjk
      go_wp2
      go_ret
      exact ⟨_, rfl, Nat.le_refl _, U5.out, BJ.out⟩
/-- how many pages -/
theorem keys_hits (l : List Int) (np : Nat) : keysOf (marks l) np = hits l np := by
  unfold keysOf hits
  congr 1
  funext i
  unfold marks
  cases h : hit l i <;> simp
theorem pages_nil (w : World) (u : Value) : Calls Tryz.prog 26 #[.pointer none, u] w fun e w' => e = .returned (.int .i64 0) ∧ w = w' := by
  go_enter Tryz.func26, Tryz.ntmps26
  go_wp2_with fail
  refine (tmade_nil _).mono ?_; rintro e w' ⟨rfl, rfl⟩
  go_wp2
  go_ret
  exact ⟨rfl, rfl⟩
theorem pages_odd (w : World) (T : Nat) (c0 : w.cell? ⟨T, 0, none⟩ = some (.pointer none)) (u : Value) : Calls Tryz.prog 26 #[.pointer (some ⟨T, 0, none⟩), u] w fun e w' => e = .returned (.int .i64 0) ∧ w = w' := by
  have C0 := Lib.hid c0
  clear c0
  go_enter Tryz.func26, Tryz.ntmps26
  go_wp2_with fail
  refine (tmade_odd _ _ C0.out).mono ?_; rintro e w' ⟨rfl, rfl⟩
  go_wp2
  go_ret
  exact ⟨rfl, rfl⟩
theorem UM.len {m N : Nat} {f : Nat → Option (Nat → Nat)} (h : UM w m N n f) (ty : TypeId) : (Builtin.len_ #[107] ty #[.map (some m)]).run Tryz.prog w = .ok (.int .i64 ((keysOf f n).length : Int)) w := by
  obtain ⟨D, h1, h2⟩ := h
  rw [← UM.size h1 h2]
  exact h1.len Tryz.underlying107 ty
theorem wpList_len_um {ops : Array Oper} {rest : List Oper} {o : Oper} {a : Act} {Q : Exit → Act → World → Prop} {m N : Nat} {f : Nat → Option (Nat → Nat)} (hgd : o.guard = none) (x : Operand) (ho : o.op = Op.call { callee := Callee.builtin Builtin.len, args := #[x], argTypes := #[107] }) (hx : a.eval x = .map (some m)) (h : UM w m N n f) {v : Int} (hv : ((keysOf f n).length : Int) = v)
    (hK : wpList Tryz.prog ops Q rest (a.put o.dst (.int .i64 v)) w) : wpList Tryz.prog ops Q (o :: rest) a w := by
  refine wpList_plain hgd fun K hK' => ?_
  have hrun := h.len o.type
  rw [hv] at hrun
  unfold Oper.wp
  simp [execOp, ho, resolve, invoke, builtin, hx, hrun, Result.andThen]
  exact hK' _ _ hK
theorem pages_any (h : TbAt w H 81 T D g cap p L) (hp : Pln p ne np ga n) (hf : Fi w A k ls) (hk : k ≤ 1000000000) :
    Calls Tryz.prog 26 #[.pointer (some ⟨T, 0, none⟩), .slice A k c] w fun e w' => e = .returned (.int .i64 ((hits (inside ls ne) np).length : Int)) ∧ Below w.heap.size w w' := by
  have HH := Lib.hid h
  have G := Lib.hid (gather_any (c := c) h hp hf hk)
  clear h hp hf
  go_enter Tryz.func26, Tryz.ntmps26
  go_wp2_with fail
  refine (tmade_any HH.out).mono ?_; rintro e w' ⟨rfl, rfl⟩
  go_wp2_with fail
  refine G.out.mono ?_; rintro e w1 ⟨mb, rfl, _, u1, b1⟩
  have U1 := Lib.hid u1
  have B1 := Lib.hid b1
  clear u1 b1
  go_wp2_with ((with_reducible refine wpList_len_um rfl _ rfl rfl U1.out rfl ?_))
  go_ret
  exact ⟨by rw [← keys_hits]; rfl, B1.out⟩
end
end Go.Proofs.YtgdgehfapfgdfaaGreatDoor.Tb
