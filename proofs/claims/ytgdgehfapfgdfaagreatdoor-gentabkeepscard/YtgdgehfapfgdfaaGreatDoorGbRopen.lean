/-
  The document's Open. No conditions.
-/
import Derived.Test.YtgdgehfapfgdfaaGreatDoorGbRnext
import Derived.Deep.RegionHeld
import Derived.Deep.DrawnRows
namespace Go.Proofs.YtgdgehfapfgdfaaGreatDoor.Tb
open Go.RowKit Oc Dm W Dw Sr Gt
set_option linter.unusedVariables false
set_option maxRecDepth 100000
attribute [local go_sem ↓] Go.wp_at_zero Go.wp_at_succ

theorem wp_append_S2 {P : Program} {e k B : Nat} {c : List Value} {l : List (List Value)} {wr : World} {o : Oper} {a : Act} {K : Act → World → Prop} {Q : Exit → Act → World → Prop} (s x : Operand) (t : TypeId) (ho : o.op = .call { callee := .builtin .append, args := #[s, x], argTypes := #[t, t] }) {bytes : Nat} (hT : ElK P t e k bytes)
    {v : Value} (hs : a.eval s = v) (hown : OwnS wr e k B v l) (hB : B ≤ wr.heap.size) (cp : Nat) {cs : Array Value} {T : TypeId} (hx : a.eval x = .slice (some ⟨wr.heap.size, 0, none⟩) 1 cp) (hcs : cs.toList = c) (hc : c.length = k) (h1 : ∀ u ∈ c, u.oneCell' = true) (hl : l.length + 1 ≤ 1000000)
    (hK : ∀ v' w', OwnS w' e k B v' (l ++ [c]) → wr.grownBy w' v.ownBlock → K (a.put o.dst v') w') : Oper.wp P o a (wr.alloc (.cells cs T)) K Q := by
  obtain ⟨v', w', hrun, h2, h3, h4⟩ := run_append_S (P := P) (w := wr.alloc (.cells cs T)) (ty := o.type) (us := [c]) (m := 1) (ad := ⟨wr.heap.size, 0, none⟩) cp hT (hown.alloc _) (Fits.one hc h1) rfl (fun j u hu => by
    rw [Go.WideShapes.add_plain, Nat.zero_add, cell_of_row _ _ _ _ _ _ (heap_alloc_new wr (.cells cs T))]
    rw [List.flatten_cons, List.flatten_nil, List.append_nil, ← hcs] at hu
    simpa using hu) hl (Nat.le_trans hB (by simp))
  unfold Oper.wp execOp
  simp only [ho, resolve, invoke, builtin, Sem.run_bind, Sem.run_pure, Result.andThen_ok, List.map_toArray, List.map_cons, List.map_nil, hs, hx, hrun]
  have g0 : wr.grownBy (wr.alloc (.cells cs T)) v.ownBlock := World.grownBy_alloc wr _ _
  exact hK v' w' h2 (g0.trans h3)
theorem run_load_gp {w : World} {b : Nat} {T : TypeId} {cs : Array Value} (hg : w.heap[b]? = some (.cells cs T (0, 0))) (hc : cs.size = 8) : (Instr.loadAt 33 (.pointer (some ⟨b, 0, none⟩))).run Tryz.prog w = .ok (.agg cs) w := by
  simp only [Instr.loadAt, Instr.sureAddr, Sem.run_bind, Sem.run_pure, Result.andThen_ok, run_loadVar_row w b T 33 cs (0, 0) _ hg Tryz.underlying33 rfl (by rw [hc]; exact info_gp)]
theorem exec_ld {P : Program} {o : Oper} {ev : Operand → Value} {ty : TypeId} {x : Operand} {p r : Value} {w : World} (ho : o.op = .load ty x) (hx : ev x = p) (hrun : (Instr.loadAt ty p).run P w = .ok r w) : (execOp ev o).run P w = .ok (.value r) w := by
  unfold execOp
  simp only [ho, hx, Sem.run_bind, hrun, Result.andThen_ok, Sem.run_pure]
theorem rd1_S (m : Vs) (i : Nat) : (rd1 m i).2.2.S = m.S := by
  unfold rd1
  split
  · rfl
  · split <;> rfl
theorem rd1_len {m : Vs} {i : Nat} (h : (m.S i).stands.length = 64) (h0 : (rd1 m i).1 = 0) : (rd1 m i).2.1.length = 64 := by
  unfold rd1 at h0 ⊢
  split at h0
  · cases h0
  · split at h0
    · cases h0
    · rename_i h1 h2
      rw [if_neg h1, if_neg h2]
      exact h
theorem on1_S (ga : Nat) (m : Vs) (i : Nat) : (on1 ga m i).2.2.S = m.S := by
  unfold on1
  split
  · exact rd1_S _ _
  · split
    · rw [rd1_S, rd1_S]
    · split <;> rw [rd1_S, rd1_S]
theorem PD.stand {w : World} {F : Nat → Prop} {D p n N : Nat} {m : Vs} (h : PD w F D p n N m) {i : Nat} (hi : i < n) : (m.S i).stands.length = 64 := by
  obtain ⟨fx, a, b, g, x⟩ := h.dv
  exact (x.sec hi).2.2
theorem undrew {w w' : World} {R : Option Nat} (h : w.drew.grownBy w' R) : w.grownBy w' R := ⟨h.os, h.tape, h.output, h.size, h.block⟩
theorem rd_row {F : Nat → Prop} {w w1 w2 : World} {R : Option Nat} {D q n N : Nat} {m : Vs} (hF : ∀ k, F k → k < w.heap.size) (hq : q < w.heap.size) (h : RD w1 F D q n N m) (hg : w1.grownBy w2 R) (hb : ∀ b, R = some b → w.heap.size ≤ b) : RD w2 F D q n N m :=
  h.kept (F := fun k => some k = R) (Chg.of_grown hg (fun k e _ => e.symm)) (fun k x e => by have := hb k e.symm; exact x.elim (fun y => by have := hF k y; omega) (fun y => by omega))
section
variable {w w' w1 : World} {G : Nat → Prop} {E q n N ne np ga : Nat} {m : Vs} {p : Pn.Pl}
set_option maxHeartbeats 4000000 in
theorem ropen_any (h : RD w G E q n N m) (hp : Pln p ne np ga n) (hz : ∀ i, i < n → (m.S i).stands.length = 64) (r : Int × List Gp × Vs) (hr : opn ga np 0 m [] = r) :
    Calls Tryz.prog 69 #[.pointer (some ⟨E, 0, none⟩), (.agg #[.int .i64 p.a0, .int .i64 p.a1, .int .i64 p.a2, .int .i64 p.a3, .int .i64 p.a4, .int .i64 p.a5, .int .i64 p.a6, .int .i64 p.a7, .int .i64 p.a8, .int .i64 p.a9, .int .i64 p.a10, .int .i64 p.a11, .int .i64 p.a12])] w fun e w' => Opened w 148 p E np r e w' ∧ RD w' G E q n N r.2.2 ∧ Chg G w w' := by
  have H := Lib.hid h
  have HP := Lib.hid hp
  have HZ := Lib.hid hz
  have HR := Lib.hid hr
  have HB : Hid (∀ k, G k → k < w.heap.size) := fun k x => h.bound k (.inl x)
  have HQ : Hid (q < w.heap.size) := h.bound q (.inr rfl)
  have hnp : np ≤ 4096 := by have := hp.hn; have := hp.hn2; omega
  clear h hp hz hr
  go_enter Tryz.func69, Tryz.ntmps69
  have hga : ga ≤ 4096 := by have := HP.out.hn; have := HP.out.hn2; omega
  go_wp2
  have B2 := Lib.hid (bthen (balloc w (.cells #[.int .i64 p.a0, .int .i64 p.a1, .int .i64 p.a2, .int .i64 p.a3, .int .i64 p.a4, .int .i64 p.a5, .int .i64 p.a6, .int .i64 p.a7, .int .i64 p.a8, .int .i64 p.a9, .int .i64 p.a10, .int .i64 p.a11, .int .i64 p.a12] 42)) (balloc _ (.cells #[.pointer (some ⟨E, 0, none⟩), .int .i64 p.a0, .int .i64 p.a1, .int .i64 p.a2, .int .i64 p.a3, .int .i64 p.a4, .int .i64 p.a5, .int .i64 p.a6, .int .i64 p.a7, .int .i64 p.a8, .int .i64 p.a9, .int .i64 p.a10, .int .i64 p.a11, .int .i64 p.a12, .slice none 0 0] 148)))
  have Y2 := Lib.hid (heap_alloc2_old w (.cells #[.int .i64 p.a0, .int .i64 p.a1, .int .i64 p.a2, .int .i64 p.a3, .int .i64 p.a4, .int .i64 p.a5, .int .i64 p.a6, .int .i64 p.a7, .int .i64 p.a8, .int .i64 p.a9, .int .i64 p.a10, .int .i64 p.a11, .int .i64 p.a12] 42) (.cells #[.pointer (some ⟨E, 0, none⟩), .int .i64 p.a0, .int .i64 p.a1, .int .i64 p.a2, .int .i64 p.a3, .int .i64 p.a4, .int .i64 p.a5, .int .i64 p.a6, .int .i64 p.a7, .int .i64 p.a8, .int .i64 p.a9, .int .i64 p.a10, .int .i64 p.a11, .int .i64 p.a12, .slice none 0 0] 148))
  have T2 := Lib.hid (heap_at_next w (.cells #[.int .i64 p.a0, .int .i64 p.a1, .int .i64 p.a2, .int .i64 p.a3, .int .i64 p.a4, .int .i64 p.a5, .int .i64 p.a6, .int .i64 p.a7, .int .i64 p.a8, .int .i64 p.a9, .int .i64 p.a10, .int .i64 p.a11, .int .i64 p.a12] 42) (.cells #[.pointer (some ⟨E, 0, none⟩), .int .i64 p.a0, .int .i64 p.a1, .int .i64 p.a2, .int .i64 p.a3, .int .i64 p.a4, .int .i64 p.a5, .int .i64 p.a6, .int .i64 p.a7, .int .i64 p.a8, .int .i64 p.a9, .int .i64 p.a10, .int .i64 p.a11, .int .i64 p.a12, .slice none 0 0] 148))
  generalize (w.alloc (.cells #[.int .i64 p.a0, .int .i64 p.a1, .int .i64 p.a2, .int .i64 p.a3, .int .i64 p.a4, .int .i64 p.a5, .int .i64 p.a6, .int .i64 p.a7, .int .i64 p.a8, .int .i64 p.a9, .int .i64 p.a10, .int .i64 p.a11, .int .i64 p.a12] 42)).alloc (.cells #[.pointer (some ⟨E, 0, none⟩), .int .i64 p.a0, .int .i64 p.a1, .int .i64 p.a2, .int .i64 p.a3, .int .i64 p.a4, .int .i64 p.a5, .int .i64 p.a6, .int .i64 p.a7, .int .i64 p.a8, .int .i64 p.a9, .int .i64 p.a10, .int .i64 p.a11, .int .i64 p.a12, .slice none 0 0] 148) = w2 at B2 Y2 T2 ⊢
  have TL : Hid (w.heap.size + 1 < w2.heap.size) := lt_of_heap T2.out
  have P2 := Lib.hid (H.out.below B2.out)
  go_loopw [7] (fun q7 wr => ∃ j : Nat, j ≤ np ∧ q7 = .int .i64 (j : Int) ∧ ∃ mj L v, Hid (RD wr G E q n N mj) ∧ Hid (Chg (fun k => G k ∨ k = w.heap.size + 1) w2 wr) ∧ Hid (wr.heap[w.heap.size + 1]? = some (.cells #[.pointer (some ⟨E, 0, none⟩), .int .i64 p.a0, .int .i64 p.a1, .int .i64 p.a2, .int .i64 p.a3, .int .i64 p.a4, .int .i64 p.a5, .int .i64 p.a6, .int .i64 p.a7, .int .i64 p.a8, .int .i64 p.a9, .int .i64 p.a10, .int .i64 p.a11, .int .i64 p.a12, v] 148 (0, 0))) ∧ Hid (OwnS wr 33 8 w2.heap.size v (L.map gcs)) ∧ Hid (L.length = j) ∧ Hid (mj.S = m.S) ∧ Hid (opn ga (np - j) j mj L = r)) (fun q7 _ => np - (intOf q7).toNat)
  case atStart => exact ⟨0, by omega, rfl, m, [], _, P2, Chg.refl _ _, T2, OwnS.nil _ _ _ _, rfl, rfl, HR⟩
  case round =>
    obtain ⟨j, hj, rfl, mj, L, v, PJ, CJ, TJ, OJ, LJ, SJ, RJ⟩ := hrel
    have YJ := Lib.hid ((CJ.out.block w.heap.size (by have := TL.out; omega) (fun x => x.elim (fun y => by have := HB.out _ y; omega) (fun y => by omega))).trans Y2.out)
    have y2 : wr.cell? ⟨w.heap.size, 2, none⟩ = some (.int .i64 (np : Int)) := by rw [cell_of_row _ _ 2 _ _ _ YJ.out, ← HP.out.h2]; rfl
    have y3 : wr.cell? ⟨w.heap.size, 3, none⟩ = some (.int .i64 (ga : Int)) := by rw [cell_of_row _ _ 3 _ _ _ YJ.out, ← HP.out.h3]; rfl
    by_cases hlt : j < np
    · have hlt2 : (j : Int) < (np : Int) := by omega
      obtain ⟨v0, x, m', hv⟩ : ∃ v0 x m', on1 ga mj j = (v0, x, m') := ⟨_, _, _, rfl⟩
      have HV := Lib.hid hv
      have RJ2 := Lib.hid RJ.out
      rw [show np - j = (np - (j + 1)) + 1 by omega] at RJ2
      have SM : Hid (m'.S = m.S) := by
        have := on1_S ga mj j
        rw [hv] at this
        exact this.trans SJ.out
      have n1 : ga + 2 * j < n := by have := HP.out.hn; omega
      have n2 : ga + 2 * j + 1 < n := by have := HP.out.hn; omega
      obtain ⟨v1, xs1, m1, hr1⟩ : ∃ v1 xs1 m1, rd1 mj (ga + 2 * j) = (v1, xs1, m1) := ⟨_, _, _, rfl⟩
      obtain ⟨v2, xs2, m2, hr2⟩ : ∃ v2 xs2 m2, rd1 m1 (ga + 2 * j + 1) = (v2, xs2, m2) := ⟨_, _, _, rfl⟩
      have L1 : Hid (v1 = 0 → xs1.length = 64) := fun e => by
        have := rd1_len (m := mj) (i := ga + 2 * j) (by rw [SJ.out]; exact HZ.out _ n1) (by rw [hr1]; exact e)
        rwa [hr1] at this
      have L2 : Hid (v2 = 0 → xs2.length = 64) := fun e => by
        have hS : m1.S = mj.S := by have := rd1_S mj (ga + 2 * j); rwa [hr1] at this
        have := rd1_len (m := m1) (i := ga + 2 * j + 1) (by rw [hS, SJ.out]; exact HZ.out _ n2) (by rw [hr2]; exact e)
        rwa [hr2] at this
      have R1 := Lib.hid (PJ.out.read (ga + 2 * j) n1)
      rw [hr1, show ((ga + 2 * j : Nat) : Int) = (ga : Int) + 2 * (j : Int) by omega] at R1
      have R2 : Hid (∀ w', RD w' G E q n N m1 → Calls Tryz.prog 101 #[.pointer (some ⟨E, 0, none⟩), .int .i64 ((ga : Int) + 2 * (j : Int) + 1)] w' fun e w'' => ∃ B, e = .returned (.tuple #[.string B, .int .i64 v2]) ∧ tx xs2 = .string B ∧ RD w'' G E q n N m2 ∧ Chg G w' w'') := fun w' hh => by
        have := hh.read (ga + 2 * j + 1) n2
        rw [hr2, show ((ga + 2 * j + 1 : Nat) : Int) = (ga : Int) + 2 * (j : Int) + 1 by omega] at this
        exact this
      unfold on1 at hv
      rw [hr1] at hv
      dsimp only at hv
      rw [hr2] at hv
      dsimp only at hv
      clear hr1 hr2 n1 n2
      go_wp2_with fail
      refine R1.out.mono ?_; rintro e w3 ⟨B1, rfl, hB1, p3, c3⟩
      have P3 := Lib.hid p3
      have X1 := Lib.hid hB1
      have C3 := Lib.hid (CJ.out.trans c3 (fun _ _ y => .inl y))
      have T3 := Lib.hid ((c3.block (w.heap.size + 1) (lt_of_heap TJ.out) (fun y => by have := HB.out _ y; omega)).trans TJ.out)
      have O3 := Lib.hid (OJ.out.keep (w' := w3) (fun g hg => c3.block g (OJ.out.ge g hg).2 (fun y => by have := HB.out g y; have := (OJ.out.ge g hg).1; have := TL.out; omega)))
      have Y3 := Lib.hid ((c3.block w.heap.size (lt_of_heap YJ.out) (fun y => by have := HB.out _ y; omega)).trans YJ.out)
      clear p3 hB1 c3 y2 y3
      have y3 : w3.cell? ⟨w.heap.size, 3, none⟩ = some (.int .i64 (ga : Int)) := by rw [cell_of_row _ _ 3 _ _ _ Y3.out, ← HP.out.h3]; rfl
      by_cases h1 : v1 = 0
      · rw [if_neg (fun y => y h1)] at hv
        have M1 : Hid (xs1.length = 64) := L1.out h1
        clear L1
        subst h1
        go_wp2_with fail
        refine (R2.out _ P3.out).mono ?_; rintro e w4 ⟨B2', rfl, hB2, p4, c4⟩
        have P4 := Lib.hid p4
        have X2 := Lib.hid hB2
        have C4 := Lib.hid (C3.out.trans c4 (fun _ _ y => .inl y))
        have T4 := Lib.hid ((c4.block (w.heap.size + 1) (lt_of_heap T3.out) (fun y => by have := HB.out _ y; omega)).trans T3.out)
        have O4 := Lib.hid (O3.out.keep (w' := w4) (fun g hg => c4.block g (O3.out.ge g hg).2 (fun y => by have := HB.out g y; have := (O3.out.ge g hg).1; have := TL.out; omega)))
        clear p4 hB2 c4 y3
        by_cases h2 : v2 = 0
        · rw [if_neg (fun y => y h2)] at hv
          have M2 : Hid (xs2.length = 64) := L2.out h2
          clear L2
          subst h2
          obtain ⟨cA, wA, hcA, hA1, oA, bA⟩ := bytes_of w4 xs1 B1 X1.out M1.out
          obtain ⟨cB, wB, hcB, hB1, oB, bB⟩ := bytes_of wA xs2 B2' X2.out M2.out
          obtain ⟨x', kk, ok, hpk⟩ : ∃ x' kk ok, pk xs1 xs2 (j : Int) = (x', kk, ok) := ⟨_, _, _, rfl⟩
          have NW := Lib.hid (pk_way xs1 xs2 (j : Int))
          rw [hpk] at NW hv
          dsimp only at NW hv
          have K := Lib.hid (rnewer_any (some ⟨w4.heap.size, 0, none⟩) (some ⟨wA.heap.size, 0, none⟩) 64 cA 64 cB xs1 xs2 (j : Int) _ _ _ _ x' kk ok wB (by omega) hA1 (by omega) hB1 (oA.below bB) oB (gd_way _ _) (gd_way _ _) NW.out)
          have BB := Lib.hid (bthen bA bB)
          clear hpk bA bB hA1 hB1 oA oB
          go_wp2_with fail
          refine K.out.mono ?_; rintro e w5 ⟨rfl, b5⟩
          have B5 := Lib.hid (bthen BB.out b5)
          have P5 := Lib.hid (P4.out.below B5.out)
          have T5 := Lib.hid (kept_below T4.out B5.out)
          have O5 := Lib.hid (O4.out.below B5.out)
          have C5 := Lib.hid (C4.out.trans (Chg.of_below (F := fun k => G k ∨ k = w.heap.size + 1) B5.out) (fun _ _ y => y))
          have HL5 : Hid (w2.heap.size ≤ w5.heap.size) := C5.out.size
          clear b5 hcA hcB
          cases ok
          · rw [if_neg (by decide)] at hv
            have RK : Hid (r = (120, L, m2)) := by
              have e := RJ2.out
              rw [opn_no (by rw [HV.out]; cases hv; exact (by decide : ¬ (120 : Int) = 0)), HV.out] at e
              cases hv
              exact e.symm
            clear hv
            go_wp2_with ((with_reducible apply W.L_storeRow (N := 8) info_gp); exact rfl; exact rfl; exact heap_alloc_new _ _; exact rfl; exact rfl; (simp [Value.oneCell']); intro w6 h6 g6; have G6 := Lib.hid ((World.grownBy_alloc w5 _ (some w5.heap.size)).trans g6); clear h6 g6)
            go_ret2
            have hb : ∀ b, some w5.heap.size = some b → w2.heap.size ≤ b := fun b e => by injection e with e; have := HL5.out; omega
            rw [RK.out]
            exact ⟨.inr ⟨(by decide : ¬ (120 : Int) = 0), rfl⟩, rd_row HB.out HQ.out P5.out G6.out (fun b e => Nat.le_trans B2.out.size (hb b e)), (Chg.of_below (F := G) B2.out).trans (chg_row C5.out G6.out hb) (fun k hk y => y.elim id (fun z => by omega))⟩
          · rw [if_pos rfl] at hv
            have EX : Hid (v0 = 0 ∧ x = x' ∧ m' = m2) := by cases hv; exact ⟨rfl, rfl, rfl⟩
            have RK : Hid (opn ga (np - (j + 1)) (j + 1) m2 (L ++ [x']) = r) := by
              have e := RJ2.out
              rw [opn_ok (by rw [HV.out]; exact EX.out.1), HV.out] at e
              rw [EX.out.2.1, EX.out.2.2] at e
              exact e
            have SM2 : Hid (m2.S = m.S) := by rw [← EX.out.2.2]; exact SM.out
            clear hv
            go_wp2_with ((with_reducible apply W.L_storeRow (N := 8) info_gp); exact rfl; exact rfl; exact heap_alloc_new _ _; exact rfl; exact rfl; (simp [Value.oneCell']); intro w6 h6 g6; have H6 := Lib.hid h6; have G6 := Lib.hid ((World.grownBy_alloc w5 _ (some w5.heap.size)).trans g6); clear h6 g6)
            have hb : ∀ b, some w5.heap.size = some b → w2.heap.size ≤ b := fun b e => by injection e with e; have := HL5.out; omega
            have P6 := Lib.hid (rd_row HB.out HQ.out P5.out G6.out (fun b e => Nat.le_trans B2.out.size (hb b e)))
            have C6 := Lib.hid (chg_row C5.out G6.out hb)
            have T6 := Lib.hid ((G6.out.block (w.heap.size + 1) (lt_of_heap T5.out) (fun e => by have := hb _ e.symm; have := TL.out; omega)).trans T5.out)
            have O6 := Lib.hid (O5.out.keep (w' := w6) (fun g hg => G6.out.block g (O5.out.ge g hg).2 (fun e => by injection e with e; have := (O5.out.ge g hg).2; omega)))
            have HL6 : Hid (w2.heap.size ≤ w6.heap.size ∧ w5.heap.size < w6.heap.size) := by show _ ∧ _; have := C6.out.size; have := lt_of_heap H6.out; omega
            have c14 : w6.cell? ⟨w.heap.size + 1, 14, none⟩ = some v := cell_of_row _ _ 14 _ _ _ T6.out
            clear hb
            refine gate (fun w' => w'.cell? ⟨w.heap.size + 1, 14, none⟩ = some v ∧ w'.heap[w5.heap.size]? = some (.cells (gcs x').toArray 33 (0, 0))) 10 [0, 1, 2, 3, 4, 5] 5 (by kernel_rfl) (by kernel_rfl) (by kernel_rfl) rfl ?_ ⟨c14, H6.out⟩ ?_
            · intro d v c a w h
              cases d <;> exact h
            iterate 5
              refine yields_step ?_ rfl rfl ?_ ?_
              rotate_left
              · intro w' hS; obtain ⟨hS1, hS2⟩ := hS; go_simp; rfl
            refine yields_step (.agg #[.int .i64 x'.no, .int .u64 (x'.v : Int), .int .u64 (x'.g 0 : Int), .int .u64 (x'.g 1 : Int), .int .u64 (x'.g 2 : Int), .int .u64 (x'.g 3 : Int), .int .u64 (x'.g 4 : Int), .int .u64 (x'.g 5 : Int)]) rfl rfl ?_ ?_
            · intro w' hS; exact exec_ld rfl (by go_simp) (run_load_gp hS.2 rfl)
            refine Gate.next (i := 6) (by kernel_rfl) rfl rfl (fun K hK => ?_)
            go_simp
            have bS : Below w6.heap.size w6 ((w6.alloc (.cells (gcs x').toArray 33)).drew) := (balloc w6 _).drew
            have HV5 : Hid (∀ b, v.ownBlock = some b → w2.heap.size ≤ b ∧ b < w5.heap.size) := O5.out.ge
            have KS : Hid (∀ y, Chg (fun k => some k = v.ownBlock) w6 y → y.cell? ⟨w.heap.size + 1, 14, none⟩ = some v ∧ y.heap[w.heap.size + 1]? = some (.cells #[.pointer (some ⟨E, 0, none⟩), .int .i64 p.a0, .int .i64 p.a1, .int .i64 p.a2, .int .i64 p.a3, .int .i64 p.a4, .int .i64 p.a5, .int .i64 p.a6, .int .i64 p.a7, .int .i64 p.a8, .int .i64 p.a9, .int .i64 p.a10, .int .i64 p.a11, .int .i64 p.a12, v] 148 (0, 0)) ∧ y.heap[w5.heap.size]? = some (.cells (gcs x').toArray 33 (0, 0))) := fun y hy => by
              have e1 := (hy.block (w.heap.size + 1) (lt_of_heap T6.out) (fun e => by have := (HV5.out _ e.symm).1; have := TL.out; omega)).trans T6.out
              have e2 := (hy.block w5.heap.size (lt_of_heap H6.out) (fun e => by have := (HV5.out _ e.symm).2; omega)).trans H6.out
              exact ⟨cell_of_row _ _ 14 _ _ _ e1, e1, e2⟩
            have K6 := KS.out _ (Chg.of_below bS)
            refine hK _ _ (fun _ => ⟨K6.1, K6.2.2⟩) ?_
            clear hK K K6 bS
            refine Gate.next (i := 7) (by kernel_rfl) rfl rfl (fun K hK => ?_)
            refine wp_append_S2 (wr := w6.drew) (v := v) (.tmp 68) (.tmp 70) 79 rfl gp_elk rfl O6.out.drew HL6.out.1 1 rfl (c := gcs x') rfl rfl (gcs_one x') (by rw [List.length_map, LJ.out]; omega) ?_
            intro v7 w7 o7 g7
            replace g7 := undrew g7
            have c7 : Chg (fun k => some k = v.ownBlock) w6 w7 := Chg.of_grown g7 (fun k e _ => e.symm)
            have K7 := Lib.hid (KS.out _ c7)
            have P7 := Lib.hid (rd_row HB.out HQ.out P6.out g7 (fun b e => by have := (HV5.out b e).1; have := B2.out.size; omega))
            have C7 := Lib.hid (chg_row C6.out g7 (fun b e => (HV5.out b e).1))
            obtain ⟨gg, cc, rfl, hg1, hg2, hg3, hg4⟩ := o7.here (n := j + 1) (by rw [List.length_append, List.length_map, LJ.out]; rfl) (by omega)
            have O7 := Lib.hid o7
            have HG7 := Lib.hid (show w2.heap.size ≤ gg ∧ gg < w7.heap.size from ⟨hg1, hg4⟩)
            refine hK _ _ (fun _ => ⟨K7.out.1, K7.out.2.2⟩) ?_
            clear hK K o7 g7 c7 hg1 hg2 hg3 hg4 KS c14
            refine Gate.next (i := 8) (by kernel_rfl) rfl rfl (fun K hK => ?_)
            go_simp
            refine hK _ _ (fun _ => ⟨K7.out.1, K7.out.2.2⟩) ?_
            clear hK K
            refine Gate.next (i := 9) (by kernel_rfl) rfl rfl (fun K hK => ?_)
            go_simp
            refine hK _ _ (fun _ => ⟨K7.out.1, K7.out.2.2⟩) ?_
            clear hK K
            refine Gate.next (i := 10) (by kernel_rfl) rfl rfl (fun K hK => ?_)
            have k7 := K7.out.1
            have f7 := frozen_of_row w7 (w.heap.size + 1) 14 _ _ K7.out.2.1
            go_simp
            refine hK _ _ (fun h => absurd rfl h) ?_
            clear hK K k7 f7
            refine Gate.done (by kernel_rfl) ?_
            have g8 := grown_set w7 (w.heap.size + 1) 14 (.slice (some ⟨gg, 0, none⟩) (j + 1) cc)
            have T8 : Hid ((w7.setCell ⟨w.heap.size + 1, 14, none⟩ (.slice (some ⟨gg, 0, none⟩) (j + 1) cc)).heap[w.heap.size + 1]? = some (.cells #[.pointer (some ⟨E, 0, none⟩), .int .i64 p.a0, .int .i64 p.a1, .int .i64 p.a2, .int .i64 p.a3, .int .i64 p.a4, .int .i64 p.a5, .int .i64 p.a6, .int .i64 p.a7, .int .i64 p.a8, .int .i64 p.a9, .int .i64 p.a10, .int .i64 p.a11, .int .i64 p.a12, .slice (some ⟨gg, 0, none⟩) (j + 1) cc] 148 (0, 0))) := by
              show _ = _
              rw [heap_setCell_same _ _ _ _ _ _ K7.out.2.1]
              rfl
            have P8 := Lib.hid (rd_row HB.out HQ.out P7.out g8 (fun b e => by injection e with e; omega))
            have C8 : Hid (Chg (fun k => G k ∨ k = w.heap.size + 1) w2 (w7.setCell ⟨w.heap.size + 1, 14, none⟩ (.slice (some ⟨gg, 0, none⟩) (j + 1) cc))) := C7.out.trans (Chg.of_grown (F := fun k => k = w.heap.size + 1) g8 (fun k e _ => by injection e with e; exact e.symm)) (fun k _ e => .inr e)
            have O8 := Lib.hid (O7.out.keep (w' := w7.setCell ⟨w.heap.size + 1, 14, none⟩ (.slice (some ⟨gg, 0, none⟩) (j + 1) cc)) (fun b e => g8.block b (O7.out.ge b e).2 (fun e2 => by injection e2 with e2; have := (O7.out.ge b e).1; have := TL.out; omega)))
            clear g8
            generalize w7.setCell ⟨w.heap.size + 1, 14, none⟩ (.slice (some ⟨gg, 0, none⟩) (j + 1) cc) = w8 at T8 P8 C8 O8 ⊢
            go_wp2
            go_roundw
            case rel => exact ⟨j + 1, by omega, by go_num, m2, L ++ [x'], .slice (some ⟨gg, 0, none⟩) (j + 1) cc, P8, C8, T8, by show OwnS _ _ _ _ _ _; rw [List.map_append]; exact O8.out, by show _ = _; rw [List.length_append, LJ.out]; rfl, SM2, RK⟩
            case measure => simp [intOf]; omega
        · rw [if_pos h2] at hv
          have RK : Hid (r = (v2, L, m2)) := by
            have e := RJ2.out
            rw [opn_no (by rw [HV.out]; cases hv; exact h2), HV.out] at e
            cases hv
            exact e.symm
          go_wp2
          go_ret2
          rw [RK.out]
          exact ⟨.inr ⟨h2, rfl⟩, P4.out, (Chg.of_below (F := G) B2.out).trans C4.out (fun k hk y => y.elim id (fun z => by omega))⟩
      · rw [if_pos h1] at hv
        have RK : Hid (r = (v1, L, m1)) := by
          have e := RJ2.out
          rw [opn_no (by rw [HV.out]; cases hv; exact h1), HV.out] at e
          cases hv
          exact e.symm
        clear y3
        go_wp2
        go_ret2
        rw [RK.out]
        exact ⟨.inr ⟨h1, rfl⟩, P3.out, (Chg.of_below (F := G) B2.out).trans C3.out (fun k hk y => y.elim id (fun z => by omega))⟩
    · have hlt2 : ¬ (j : Int) < (np : Int) := by omega
      have hjn : j = np := by omega
      have RK : Hid (r = (0, L, mj)) := by
        have e := RJ.out
        rw [hjn, Nat.sub_self] at e
        exact e.symm
      have LN : Hid (L.length = np) := by show _ = _; rw [LJ.out]; exact hjn
      obtain ⟨g, cap, rfl, hg1, hg2, hg3, hg4⟩ := OJ.out.here (n := np) (by rw [List.length_map]; exact LN.out) (by have := HP.out.hp; omega)
      have HG := Lib.hid (show w2.heap.size ≤ g ∧ np ≤ cap ∧ cap ≤ maxLen ∧ g < wr.heap.size from ⟨hg1, hg2, hg3, hg4⟩)
      clear hjn hg1 hg2 hg3 hg4 y3
      go_wp2
      go_ret2
      obtain ⟨hg1, hg2, hg3, hg4⟩ := HG.out
      rw [RK.out]
      refine ⟨.inl ⟨rfl, w.heap.size + 1, g, cap, rfl, ⟨?_, ?_, ?_, ?_, ?_⟩, LN.out⟩, PJ.out, (Chg.of_below (F := G) B2.out).trans CJ.out (fun k hk y => y.elim id (fun z => by omega))⟩
      · rw [LN.out]; exact TJ.out
      · rw [LN.out]; exact OJ.out.more (Nat.zero_le _)
      · have := TL.out; omega
      · have := TL.out; show (_ ∧ _) ∧ _ ∧ _; omega
      · rw [LN.out]; exact ⟨hg2, hg3⟩
end
end Go.Proofs.YtgdgehfapfgdfaaGreatDoor.Tb
