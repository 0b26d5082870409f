/-
  replace: the pages written, then taken over. No conditions.
-/
import Derived.Test.YtgdgehfapfgdfaaGreatDoorGbNext
import Derived.Deep.RegionHeld
import Derived.Deep.DrawnRows
namespace Go.Proofs.YtgdgehfapfgdfaaGreatDoor.Tb
open Go.RowKit Oc Dm W Dw Sr Gt
set_option linter.unusedVariables false
set_option maxRecDepth 100000
attribute [local go_sem ↓] Go.wp_at_zero Go.wp_at_succ

/-- the first j marked pages are taken over -/
def tookL (l : List Int) (L : List Gp) : List Nat → List Gp
  | [] => L
  | i :: is => tookL l (L.set i (upp l i (L.getD i zp))) is
theorem tookL_len (l : List Int) : ∀ (is : List Nat) (L : List Gp), (tookL l L is).length = L.length
  | [], _ => rfl
  | i :: is, L => by rw [tookL, tookL_len l is, List.length_set]
theorem tookL_at (l : List Int) : ∀ (is : List Nat) (L : List Gp), is.Nodup → ∀ j, (tookL l L is)[j]? = (L[j]?).map fun p => if j ∈ is then upp l j p else p
  | [], L, _, j => by simp [tookL]
  | i :: is, L, hn, j => by
    rw [List.nodup_cons] at hn
    rw [tookL, tookL_at l is _ hn.2, List.getElem?_set]
    by_cases h : i = j
    · subst h
      rw [if_pos rfl]
      by_cases h2 : i < L.length
      · rw [if_pos h2]
        have e : L.getD i zp = L[i] := by simp [List.getD, h2]
        rw [Option.map_some, if_neg hn.1, List.getElem?_eq_getElem h2, Option.map_some, if_pos (List.mem_cons_self ..), e]
      · rw [if_neg h2, List.getElem?_eq_none (by omega)]; rfl
    · rw [if_neg h]
      cases L[j]? with
      | none => rfl
      | some p =>
        rw [Option.map_some, Option.map_some]
        congr 1
        by_cases h3 : j ∈ is
        · rw [if_pos h3, if_pos (List.mem_cons_of_mem _ h3)]
        · rw [if_neg h3, if_neg (fun h4 => (List.mem_cons.1 h4).elim (fun e => h e.symm) h3)]
theorem hits_nodup (l : List Int) (np : Nat) : (hits l np).Nodup := List.Pairwise.filter _ List.nodup_range
theorem mem_hits {l : List Int} {np j : Nat} : j ∈ hits l np ↔ j < np ∧ hit l j = true := by unfold hits; rw [List.mem_filter, List.mem_range]
theorem took_nexts (l : List Int) (L : List Gp) : tookL l L (hits l L.length) = nexts l L := by
  apply List.ext_getElem?
  intro j
  rw [tookL_at l _ _ (hits_nodup _ _), nexts_at]
  cases hj : L[j]? with
  | none => rfl
  | some p =>
    have := (List.getElem?_eq_some_iff.1 hj).1
    rw [Option.map_some, Option.map_some]
    congr 1
    by_cases h : hit l j = true
    · rw [if_pos h, if_pos (mem_hits.2 ⟨this, h⟩)]
    · rw [if_neg h, if_neg (fun h2 => h (mem_hits.1 h2).2)]
/-- taken over but for those that come -/
theorem tookL_other (l : List Int) (is : List Nat) (L : List Gp) (hn : is.Nodup) {j : Nat} (hj : j ∉ is) : (tookL l L is)[j]? = L[j]? := by
  rw [tookL_at l is L hn]
  cases L[j]? with
  | none => rfl
  | some p => rw [Option.map_some, if_neg hj]
theorem tookL_snoc (l : List Int) : ∀ (is : List Nat) (L : List Gp) (i : Nat), tookL l L (is ++ [i]) = (tookL l L is).set i (upp l i ((tookL l L is).getD i zp))
  | [], L, i => rfl
  | k :: is, L, i => by rw [List.cons_append, tookL, tookL_snoc l is, tookL]
theorem below_drew1 (w : World) : Below w.heap.size w w.drew := ⟨rfl, rfl, rfl, Nat.le_refl _, fun _ _ => rfl⟩
/-- the store of a whole page -/
theorem TbAt.put {w : World} {H : Nat → Prop} {TT : TypeId} {T D g cap : Nat} {p : Pn.Pl} {L : List Gp} (h : TbAt w H TT T D g cap p L) {i : Nat} {x : Gp} (hi : i < L.length) {off : Nat} (ho : off = i * 8) :
    ∃ w', (Instr.storeAt 33 (.pointer (some ⟨g, off, none⟩)) (.agg #[.int .i64 x.no, .int .u64 (x.v : Int), .int .u64 (x.g 0 : Int), .int .u64 (x.g 1 : Int), .int .u64 (x.g 2 : Int), .int .u64 (x.g 3 : Int), .int .u64 (x.g 4 : Int), .int .u64 (x.g 5 : Int)])).run Tryz.prog w = .ok () w' ∧ TbAt w' H TT T D g cap p (L.set i x) ∧ w.grownBy w' (some g) ∧ w'.heap.size = w.heap.size := by
  obtain ⟨w', h1, h2, h3, h4⟩ := h.row.store (P := Tryz.prog) (ty := 33) (c := gcs (L.getD i zp)) (c' := gcs x) (i := i) (by rw [List.length_map]) (by rw [List.getElem?_map, List.getElem?_eq_getElem hi]; simp [List.getD, hi]) info_gp rfl (gcs_one x) ho
  refine ⟨w', h1, ⟨?_, ?_, h.apart, h.inH, by rw [List.length_set]; exact h.hcap⟩, h3, h4⟩
  · rw [List.length_set]
    exact (h3.block T h.lt.1 (fun e => by injection e with e; exact h.apart e)).trans h.head
  · rw [List.length_set, List.map_set]
    exact h2
section
variable {w w' : World} {H F : Nat → Prop} {T D q g cap ne np ga n k c mb bt bm N M : Nat} {m : Vs} {p : Pn.Pl} {L : List Gp} {l : List Int} {A : Option Addr}
/-- what replace leans on -/
structure RIn (w : World) (H F : Nat → Prop) (T D q g cap np mb bt bm M k : Nat) (p : Pn.Pl) (L : List Gp) (l : List Int) (A : Option Addr) : Prop where
  tb : TbAt w H 81 T D g cap p L
  um : UM w mb M np (marks l)
  ct : w.cell? ⟨bt, 0, none⟩ = some (.pointer (some ⟨T, 0, none⟩))
  cm : w.cell? ⟨bm, 0, none⟩ = some (.map (some mb))
  nums : Fi w A k ((hits l np).map fun (i : Nat) => (i : Int))
  hH : ∀ b, H b → ¬ Al F q b
  hb : ¬ Al F q mb ∧ ¬ Al F q bt ∧ ¬ Al F q bm
  hA : ∀ b off, 0 < k → A = some ⟨b, off, none⟩ → ¬ Al F q b
  hbH : ¬ H mb ∧ ¬ H bt ∧ ¬ H bm
  hAH : ∀ b off, 0 < k → A = some ⟨b, off, none⟩ → ¬ H b
theorem RIn.kept (h : RIn w H F T D q g cap np mb bt bm M k p L l A) (hc : Chg (Al F q) w w') : RIn w' H F T D q g cap np mb bt bm M k p L l A :=
  ⟨h.tb.kept hc h.hH, h.um.heap (hc.block _ h.um.lt h.hb.1), (World.cell?_of_block (a := ⟨bt, 0, none⟩) (hc.block bt (World.block_lt_of_cell? w ⟨bt, 0, none⟩ h.ct) h.hb.2.1)).trans h.ct,
   (World.cell?_of_block (a := ⟨bm, 0, none⟩) (hc.block bm (World.block_lt_of_cell? w ⟨bm, 0, none⟩ h.cm) h.hb.2.2)).trans h.cm, Rw.Sl.heap h.nums (fun b off hk e => hc.block b (Rw.Sl.lt h.nums hk e) (h.hA b off hk e)), h.hH, h.hb, h.hA, h.hbH, h.hAH⟩
/-- behind a turn of the row of pages -/
theorem RIn.turn (h : RIn w H F T D q g cap np mb bt bm M k p L l A) (hc : Chg (fun b => b = g) w w') : UM w' mb M np (marks l) ∧ w'.cell? ⟨bt, 0, none⟩ = some (.pointer (some ⟨T, 0, none⟩)) ∧ w'.cell? ⟨bm, 0, none⟩ = some (.map (some mb)) ∧ Fi w' A k ((hits l np).map fun (i : Nat) => (i : Int)) := by
  have hg := h.tb.inH.2
  exact ⟨h.um.heap (hc.block _ h.um.lt (fun e => h.hbH.1 (e ▸ hg))), (World.cell?_of_block (a := ⟨bt, 0, none⟩) (hc.block bt (World.block_lt_of_cell? w ⟨bt, 0, none⟩ h.ct) (fun e => h.hbH.2.1 (e ▸ hg)))).trans h.ct,
   (World.cell?_of_block (a := ⟨bm, 0, none⟩) (hc.block bm (World.block_lt_of_cell? w ⟨bm, 0, none⟩ h.cm) (fun e => h.hbH.2.2 (e ▸ hg)))).trans h.cm, Rw.Sl.heap h.nums (fun b off hk e => hc.block b (Rw.Sl.lt h.nums hk e) (fun e2 => h.hAH b off hk e (e2 ▸ hg)))⟩
theorem RIn.below (h : RIn w H F T D q g cap np mb bt bm M k p L l A) (hb : Below w.heap.size w w') : RIn w' H F T D q g cap np mb bt bm M k p L l A := h.kept (Chg.of_below hb)
theorem table_cells (h : TbAt w H 81 T D g cap p L) : w.cell? ⟨T, 0, none⟩ = some (.pointer (some ⟨D, 0, none⟩)) ∧ w.cell? ⟨T, 1, none⟩ = some (.int .i64 p.a0) ∧ w.cell? ⟨T, 2, none⟩ = some (.int .i64 p.a1) ∧ w.cell? ⟨T, 3, none⟩ = some (.int .i64 p.a2) ∧ w.cell? ⟨T, 4, none⟩ = some (.int .i64 p.a3) ∧ w.cell? ⟨T, 5, none⟩ = some (.int .i64 p.a4) ∧ w.cell? ⟨T, 6, none⟩ = some (.int .i64 p.a5) ∧ w.cell? ⟨T, 7, none⟩ = some (.int .i64 p.a6) ∧ w.cell? ⟨T, 8, none⟩ = some (.int .i64 p.a7) ∧ w.cell? ⟨T, 9, none⟩ = some (.int .i64 p.a8) ∧ w.cell? ⟨T, 10, none⟩ = some (.int .i64 p.a9) ∧ w.cell? ⟨T, 11, none⟩ = some (.int .i64 p.a10) ∧ w.cell? ⟨T, 12, none⟩ = some (.int .i64 p.a11) ∧ w.cell? ⟨T, 13, none⟩ = some (.int .i64 p.a12) := by
  refine ⟨?_, ?_, ?_, ?_, ?_, ?_, ?_, ?_, ?_, ?_, ?_, ?_, ?_, ?_⟩ <;> rw [cell_of_row _ _ _ _ _ _ h.head] <;> rfl
def bjobs (ga : Nat) (l : List Int) (L : List Gp) : List (Nat × List UInt8) := (hits l L.length).map fun j => job ga (upp l j (L.getD j zp))
set_option maxHeartbeats 4000000 in
theorem replace_any (h : PD w F D q n N m) (he : Env w) (hE : ∀ k, Al F q k → 0 < k) (hp : Pln p ne np ga n) (hl : Pages L np) (hR : RIn w H F T D q g cap np mb bt bm M k p L l A) (hk : k = (hits l np).length) (hm : ∀ j, j ∈ hits l np → MayBe (upp l j (L.getD j zp))) (hN : N + np + 1 ≤ 1000000) (r : Int × Vs) (hr : puts (jobs ga l L) m = r) (L2 : List Gp) (hL2 : L2 = if r.1 = 0 then nexts l L else L) :
    Calls Tryz.prog 47 #[.pointer (some ⟨T, 0, none⟩), .slice A k c, .func (.func 50) #[] #[.pointer (some ⟨bt, 0, none⟩), .pointer (some ⟨bm, 0, none⟩)]] w fun e w' => e = .returned (.int .i64 r.1) ∧ PD w' (Ext F w w') D q n (N + np + 1) r.2 ∧ TbAt w' H 81 T D g cap p L2 ∧ Chg (fun b => Al F q b ∨ H b) w w' := by
  have HD := Lib.hid h
  have HE := Lib.hid he
  have HG := Lib.hid hE
  have HP := Lib.hid hp
  have HL := Lib.hid hl
  have HR := Lib.hid hR
  have HM := Lib.hid hm
  have HN := Lib.hid hN
  have HK := Lib.hid hk
  have H2 := Lib.hid hL2
  clear hL2
  have hnp : np ≤ 4096 := by have := hp.hn; have := hp.hn2; omega
  have hkn : k ≤ np := by rw [hk]; unfold hits; exact Nat.le_trans (List.length_filter_le _ _) (by simp)
  have HJ : Hid (∀ j, (h : j < k) → ∃ i x, (hits l np)[j]? = some i ∧ i < np ∧ hit l i = true ∧ L[i]? = some x ∧ MayBe x ∧ x.no = (i : Int) ∧ L.getD i zp = x ∧ (jobs ga l L).drop j = job ga (upp l i x) :: (jobs ga l L).drop (j + 1) ∧ MayBe (upp l i x)) := fun j hj => by
    have hj2 : j < (hits l np).length := by rw [← HK.out]; exact hj
    obtain ⟨i, hi⟩ : ∃ i, (hits l np)[j]? = some i := ⟨_, List.getElem?_eq_getElem hj2⟩
    obtain ⟨h1, h2⟩ := mem_hits.1 (List.mem_of_getElem? hi)
    have h3 : i < L.length := by have := HL.out.1; omega
    have h4 : L[i]? = some L[i] := List.getElem?_eq_getElem h3
    obtain ⟨h5, h6⟩ := HL.out.2 i _ h4
    have h7 : L.getD i zp = L[i] := by simp [List.getD, h3]
    refine ⟨i, L[i], hi, h1, h2, h4, h5, h6, h7, ?_, by rw [← h7]; exact HM.out i (mem_hits.2 ⟨h1, h2⟩)⟩
    unfold jobs
    rw [HL.out.1, List.drop_eq_getElem_cons (by simpa using hj2), List.getElem_map]
    have e : (hits l np)[j] = i := by
      obtain ⟨_, e⟩ := List.getElem?_eq_some_iff.1 hi
      exact e
    rw [e, h7]
  clear h he hE hp hl hR hm hk
  go_enter Tryz.func47, Tryz.ntmps47
  go_wp2
  go_loopw [15] (fun q15 wr => ∃ j : Nat, j ≤ k ∧ q15 = .int .i64 (j : Int) ∧ ∃ mj, Hid (PDJ w F D q n (N + j) mj wr) ∧ Hid (puts ((jobs ga l L).drop j) mj = r)) (fun q15 _ => k - (intOf q15).toNat)
  case atStart => exact ⟨0, by omega, rfl, m, PDJ.start HD.out, hr⟩
  case round =>
    obtain ⟨j, hj, rfl, mj, PJ, RJ⟩ := hrel
    have KJ := Lib.hid (HR.out.kept PJ.out.chg)
    by_cases hlt : j < k
    · have hlt2 : (j : Int) < (k : Int) := by omega
      obtain ⟨i, x, hi1, hi2, hi3, hi4, hi5, hi6, hi7, hi8, hi9⟩ := HJ.out j hlt
      obtain ⟨b, off, rfl, cx⟩ := fi_at KJ.out.nums (j := j) (x := (i : Int)) (by rw [List.getElem?_map, hi1]; rfl)
      obtain ⟨y, hy⟩ : ∃ y, upp l i x = y := ⟨_, rfl⟩
      have HY := Lib.hid hy
      rw [hy] at hi8 hi9
      have RJ2 := Lib.hid RJ.out
      rw [hi8] at RJ2
      have FM : Hid (MayBe y ∧ y.no = (i : Int)) := ⟨hi9, by rw [← hy]; exact hi6⟩
      have FR : Hid (∀ w', Below wr.heap.size wr w' → Calls Tryz.prog 50 #[.int .i64 (i : Int), .pointer (some ⟨bt, 0, none⟩), .pointer (some ⟨bm, 0, none⟩)] w' fun e w'' => e = .returned (.agg #[.int .i64 y.no, .int .u64 (y.v : Int), .int .u64 (y.g 0 : Int), .int .u64 (y.g 1 : Int), .int .u64 (y.g 2 : Int), .int .u64 (y.g 3 : Int), .int .u64 (y.g 4 : Int), .int .u64 (y.g 5 : Int)]) ∧ Below w'.heap.size w' w'') := fun w' hb =>
        next_any (KJ.out.below hb).tb (KJ.out.below hb).um hnp hi2 hi3 hi4 hi5 (KJ.out.below hb).ct (KJ.out.below hb).cm y hy
      obtain ⟨v, m', hv⟩ : ∃ v m', wr1 mj (spot ga y) (sect y) = (v, m') := ⟨_, _, rfl⟩
      have KW : Hid (∀ w', Below wr.heap.size wr w' → Calls Tryz.prog 64 #[(.agg #[.pointer (some ⟨D, 0, none⟩), .int .i64 p.a0, .int .i64 p.a1, .int .i64 p.a2, .int .i64 p.a3, .int .i64 p.a4, .int .i64 p.a5, .int .i64 p.a6, .int .i64 p.a7, .int .i64 p.a8, .int .i64 p.a9, .int .i64 p.a10, .int .i64 p.a11, .int .i64 p.a12]), (.agg #[.int .i64 y.no, .int .u64 (y.v : Int), .int .u64 (y.g 0 : Int), .int .u64 (y.g 1 : Int), .int .u64 (y.g 2 : Int), .int .u64 (y.g 3 : Int), .int .u64 (y.g 4 : Int), .int .u64 (y.g 5 : Int)])] w' fun e w'' => e = .returned (.int .i64 v) ∧ PDJ w F D q n (N + (j + 1)) m' w'') := fun w' hb => by
        have := (PJ.out.below hb).write HE.out HG.out HP.out (by have := HN.out; omega) hi2 FM.out.2 FM.out.1
        rw [hv] at this
        exact this
      have HV : Hid (wr1 mj (spot ga y) (sect y) = (v, m')) := hv
      obtain ⟨y0, y1, y2, y3, y4, y5, y6, y7, y8, y9, y10, y11, y12, y13⟩ := table_cells KJ.out.tb
      clear hi1 hi3 hi4 hi5 hi6 hi7 hi8 hi9 hy hv
      go_wp2_with fail
      go_region_held (fun w' => w'.cell? ⟨T, 0, none⟩ = some (.pointer (some ⟨D, 0, none⟩)) ∧ w'.cell? ⟨T, 1, none⟩ = some (.int .i64 p.a0) ∧ w'.cell? ⟨T, 2, none⟩ = some (.int .i64 p.a1) ∧ w'.cell? ⟨T, 3, none⟩ = some (.int .i64 p.a2) ∧ w'.cell? ⟨T, 4, none⟩ = some (.int .i64 p.a3) ∧ w'.cell? ⟨T, 5, none⟩ = some (.int .i64 p.a4) ∧ w'.cell? ⟨T, 6, none⟩ = some (.int .i64 p.a5) ∧ w'.cell? ⟨T, 7, none⟩ = some (.int .i64 p.a6) ∧ w'.cell? ⟨T, 8, none⟩ = some (.int .i64 p.a7) ∧ w'.cell? ⟨T, 9, none⟩ = some (.int .i64 p.a8) ∧ w'.cell? ⟨T, 10, none⟩ = some (.int .i64 p.a9) ∧ w'.cell? ⟨T, 11, none⟩ = some (.int .i64 p.a10) ∧ w'.cell? ⟨T, 12, none⟩ = some (.int .i64 p.a11) ∧ w'.cell? ⟨T, 13, none⟩ = some (.int .i64 p.a12))
        (first | go_keep | exact table_cells Z4.out | exact table_cells Z3.out)
        (first
          | (go_at_call 50; (with_reducible refine (FR.out _ (below_drew1 _)).mono ?_); rintro e w3 ⟨rfl, b3⟩; have B3 : Hid (Below wr.heap.size wr w3) := below_of_drew b3; have Z3 := Lib.hid (KJ.out.tb.below B3.out); clear b3)
          | (go_at_call 64; (with_reducible refine (KW.out _ B3.out).mono ?_); rintro e w4 ⟨rfl, p4⟩; have P4 := Lib.hid p4; have Z4 := Lib.hid (HR.out.kept p4.chg).tb; clear p4))
      all_goals
        clear y0 y1 y2 y3 y4 y5 y6 y7 y8 y9 y10 y11 y12 y13 cx
        by_cases hv0 : v = 0
        · have RK : Hid (puts ((jobs ga l L).drop (j + 1)) m' = r) := by
            have h1 := RJ2.out
            rw [puts_ok (by show (wr1 mj (spot ga y) (sect y)).1 = 0; rw [HV.out]; exact hv0)] at h1
            have e : (wr1 mj (job ga y).1 (job ga y).2) = (v, m') := HV.out
            rw [e] at h1
            exact h1
          go_wp2
          go_roundw
          case rel => exact ⟨j + 1, by omega, by go_num, m', P4, RK⟩
          case measure => simp [intOf]; omega
        · have RK : Hid (r = (v, m')) := by
            have h1 := RJ2.out
            rw [puts_no (by show ¬ (wr1 mj (spot ga y) (sect y)).1 = 0; rw [HV.out]; exact hv0)] at h1
            exact h1.symm.trans HV.out
          have PE := Lib.hid ((P4.out.more (N' := N + np + 1) (by omega) HN.out).end_ HD.out (Below.refl _ _))
          go_wp2
          go_ret
          rw [RK.out]
          refine ⟨rfl, PE.out.1, ?_, PE.out.2.mono (fun _ _ x => .inl x)⟩
          rw [H2.out, RK.out, if_neg hv0]
          exact Z4.out
    · have hlt2 : ¬ (j : Int) < (k : Int) := by omega
      have hjn : j = k := by omega
      obtain ⟨v, m', hr2⟩ : ∃ v m', r = (v, m') := ⟨_, _, rfl⟩
      have RK : Hid (fl1 mj = (v, m')) := by
        have h1 := RJ.out
        rw [hjn, List.drop_of_length_le (by unfold jobs; rw [List.length_map, HL.out.1, HK.out]; exact Nat.le_refl _), hr2] at h1
        exact h1
      have R2 := Lib.hid hr2
      obtain ⟨c0, c14, cc, fr⟩ := KJ.out.tb.cells
      clear hjn hr2 cc fr c14
      go_wp2_with fail
      refine (PJ.out.flush (by have := HN.out; omega)).mono ?_; rintro e w5 ⟨rfl, p5⟩
      rw [RK.out] at p5
      have PE := Lib.hid ((p5.more (N' := N + np + 1) (by omega) HN.out).end_ HD.out (Below.refl _ _))
      have K5 := Lib.hid (HR.out.kept p5.chg)
      rw [show (fl1 mj).1 = v by rw [RK.out]]
      clear p5 c0
      by_cases hv0 : v = 0
      · subst hv0
        have T5 := Lib.hid K5.out.tb
        go_wp2
        go_loopw [42] (fun q42 wr => ∃ j : Nat, j ≤ k ∧ q42 = .int .i64 (j : Int) ∧ Hid (TbAt wr H 81 T D g cap p (tookL l L ((hits l np).take j))) ∧ Hid (Chg (fun b => b = g) w5 wr)) (fun q42 _ => k - (intOf q42).toNat)
        case atStart => exact ⟨0, by omega, rfl, T5, Chg.refl _ _⟩
        case round =>
          obtain ⟨j, hj, rfl, TJ, CJ⟩ := hrel
          have QJ := Lib.hid (K5.out.turn CJ.out)
          by_cases hlt : j < k
          · have hlt2 : (j : Int) < (k : Int) := by omega
            obtain ⟨i, x, hi1, hi2, hi3, hi4, hi5, hi6, hi7, hi8, hi9⟩ := HJ.out j hlt
            obtain ⟨b, off, rfl, cx⟩ := fi_at QJ.out.2.2.2 (j := j) (x := (i : Int)) (by rw [List.getElem?_map, hi1]; rfl)
            obtain ⟨y, hy⟩ : ∃ y, upp l i x = y := ⟨_, rfl⟩
            have hnot : i ∉ (hits l np).take j := fun hm => by
              obtain ⟨s, hs⟩ := List.mem_iff_getElem?.1 hm
              rw [List.getElem?_take] at hs
              split at hs
              · rename_i hsj
                have hnd := hits_nodup l np
                have e1 := (List.getElem?_eq_some_iff.1 hs)
                have e2 := (List.getElem?_eq_some_iff.1 hi1)
                have := (List.getElem_inj hnd).1 (e1.2.trans e2.2.symm)
                omega
              · cases hs
            have hLi : (tookL l L ((hits l np).take j))[i]? = some x := (tookL_other l _ L ((hits_nodup l np).take) hnot).trans hi4
            have hnx : tookL l L ((hits l np).take (j + 1)) = (tookL l L ((hits l np).take j)).set i y := by
              obtain ⟨hj2, e⟩ := List.getElem?_eq_some_iff.1 hi1
              rw [List.take_succ_eq_append_getElem hj2, e, tookL_snoc]
              congr 1
              rw [List.getD_eq_getElem?_getD, hLi, ← hy]; rfl
            have HNX := Lib.hid hnx
            have hil : i < (tookL l L ((hits l np).take j)).length := (List.getElem?_eq_some_iff.1 hLi).1
            have HLj : Hid ((tookL l L ((hits l np).take j)).length = L.length) := tookL_len _ _ _
            generalize tookL l L ((hits l np).take j) = Lj at TJ HNX hLi hil HLj
            have FR : Hid (∀ w', Below wr.heap.size wr w' → Calls Tryz.prog 50 #[.int .i64 (i : Int), .pointer (some ⟨bt, 0, none⟩), .pointer (some ⟨bm, 0, none⟩)] w' fun e w'' => e = .returned (.agg #[.int .i64 y.no, .int .u64 (y.v : Int), .int .u64 (y.g 0 : Int), .int .u64 (y.g 1 : Int), .int .u64 (y.g 2 : Int), .int .u64 (y.g 3 : Int), .int .u64 (y.g 4 : Int), .int .u64 (y.g 5 : Int)]) ∧ Below w'.heap.size w' w'') := fun w' hb =>
              next_any (TJ.out.below hb) (QJ.out.1.below hb) hnp hi2 hi3 hLi hi5 ((hb.cell (p := ⟨bt, 0, none⟩) (World.block_lt_of_cell? wr ⟨bt, 0, none⟩ QJ.out.2.1)).trans QJ.out.2.1) ((hb.cell (p := ⟨bm, 0, none⟩) (World.block_lt_of_cell? wr ⟨bm, 0, none⟩ QJ.out.2.2.1)).trans QJ.out.2.2.1) y hy
            obtain ⟨c0, c14, cc, fr⟩ := TJ.out.cells
            have hlen : Lj.length ≤ 100000 := by rw [HLj.out, HL.out.1]; omega
            clear hi1 hi3 hi4 hi5 hi6 hi7 hi8 hi9 hy hnot hLi hnx cc fr c0
            go_wp2_with fail
            refine gate (fun w' => w'.cell? ⟨T, 14, none⟩ = some (.slice (some ⟨g, 0, none⟩) Lj.length cap)) 9 [0, 1, 2, 3, 4, 5, 6] 3 (by kernel_rfl) (by kernel_rfl) (by kernel_rfl) rfl ?_ c14 ?_
            · intro d v c a w h
              cases d <;> exact h
            iterate 7
              refine yields_step ?_ rfl rfl ?_ ?_
              rotate_left
              · intro w' hS; go_simp; rfl
            refine Gate.next (i := 7) (by kernel_rfl) rfl rfl (fun K hK => ?_)
            go_simp
            refine (FR.out _ (below_drew1 _)).mono ?_; rintro e w6 ⟨rfl, b6⟩
            have B6 : Hid (Below wr.heap.size wr w6) := below_of_drew b6
            have T6 := Lib.hid (TJ.out.below B6.out)
            clear b6 cx
            refine hK _ _ (fun _ => T6.out.cells.2.1) ?_
            clear hK K
            refine Gate.next (i := 8) (by kernel_rfl) rfl rfl (fun K hK => ?_)
            go_simp
            refine hK _ _ (fun _ => T6.out.cells.2.1) ?_
            clear hK K
            obtain ⟨w7, hrun, t7, g7, s7⟩ := T6.out.put (x := y) hil (off := i * 8) rfl
            refine gate_cell (j := 9) (w' := w7) (p := .pointer (some ⟨g, i * 8, none⟩)) (by kernel_rfl) (by kernel_rfl) rfl rfl (by go_simp) hrun ?_
            rw [← HNX.out] at t7
            have T7 := Lib.hid t7
            have C7 := Lib.hid ((CJ.out.trans (Chg.of_below (F := fun b => b = g) B6.out) (fun _ _ x => x)).trans (Chg.of_grown (F := fun b => b = g) g7 (fun k e _ => by injection e with e; exact e.symm)) (fun _ _ x => x))
            clear hrun t7 g7 s7
            go_wp2
            go_roundw
            case rel => exact ⟨j + 1, by omega, by go_num, T7, C7⟩
            case measure => simp [intOf]; omega
          · have hlt2 : ¬ (j : Int) < (k : Int) := by omega
            have hjk : j = k := by omega
            have TN : Hid (TbAt wr H 81 T D g cap p (nexts l L)) := by
              have e := TJ.out
              rw [hjk, HK.out, List.take_length, ← HL.out.1, took_nexts] at e
              exact e
            clear hjk
            go_wp2
            go_ret
            have hg : H g := TN.out.inH.2
            have hng : ¬ Al F q g := K5.out.hH g hg
            have hgw := HR.out.tb.lt.2
            have hqw := HD.out.pw.lt
            rw [R2.out]
            refine ⟨rfl, ?_, by rw [H2.out, R2.out, if_pos rfl]; exact TN.out, ?_⟩
            · refine (PE.out.1.kept CJ.out (fun b x e => ?_)).wide (fun b x => x.imp id (fun y => ⟨y.1, Nat.lt_of_lt_of_le y.2 CJ.out.size⟩)) (ext_bound (fun b x => HD.out.bound b (.inl x)) (Nat.le_trans PE.out.2.size CJ.out.size)) (fun x => x.elim HD.out.np (fun y => by omega))
              subst e
              exact x.elim (fun y => y.elim (fun z => hng (.inl z)) (fun z => by have := z.1; omega)) (fun y => hng (.inr y))
            · exact (PE.out.2.mono (fun _ _ x => .inl x)).trans CJ.out (fun b _ e => .inr (e ▸ hg))
      · go_wp2
        go_ret
        rw [R2.out]
        refine ⟨rfl, PE.out.1, ?_, PE.out.2.mono (fun _ _ x => .inl x)⟩
        rw [H2.out, R2.out, if_neg hv0]
        exact K5.out.tb
end
end Go.Proofs.YtgdgehfapfgdfaaGreatDoor.Tb
