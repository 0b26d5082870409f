/-
  Format where no table may be; Open. No conditions.
-/
import Derived.Test.YtgdgehfapfgdfaaGreatDoorGbFmt
namespace Go.Proofs.YtgdgehfapfgdfaaGreatDoor.Tb
open Go.RowKit Oc Dm W Dw Sr
set_option linter.unusedVariables false
set_option maxRecDepth 100000

theorem L_loadPlace {ops : Array Oper} {rest : List Oper} {a : Act} {w : World} {Q : Exit → Act → World → Prop} {dst : Option Tmp} {ty : TypeId} {pos : String} {af : Array Edge} {x : Operand} {g : Nat} {t : TypeId} {cs : Array Value}
    (hx : a.eval x = .pointer (some ⟨g, 0, none⟩)) (hg : w.heap[g]? = some (.cells cs t (0, 0))) (hc : cs.size = 14)
    (hK : wpList Tryz.prog ops Q rest (a.put dst (.agg cs)) w) : wpList Tryz.prog ops Q (⟨dst, .load 78 x, ty, pos, af, none⟩ :: rest) a w :=
  wpList_load_row rfl 78 x rfl g hx t cs (0, 0) _ hg Tryz.underlying78 rfl (by rw [hc]; exact info_place) hK
theorem chg_row {F : Nat → Prop} {w w1 w2 : World} {R : Option Nat} (h : Chg F w w1) (hg : w1.grownBy w2 R) (hb : ∀ b, R = some b → w.heap.size ≤ b) : Chg F w w2 :=
  h.trans (G := fun k => some k = R) (Chg.of_grown hg (fun k e _ => e.symm)) (fun k hk e => by have := hb k e.symm; omega)
theorem pd_row {F : Nat → Prop} {w w1 w2 : World} {R : Option Nat} {D q n N : Nat} {m : Vs} (hF : ∀ k, F k → k < w.heap.size) (hq : q < w.heap.size) (h : PD w1 F D q n N m) (hg : w1.grownBy w2 R) (hb : ∀ b, R = some b → w.heap.size ≤ b) : PD w2 F D q n N m :=
  h.kept (G := fun k => some k = R) (Chg.of_grown hg (fun k e _ => e.symm)) (fun k x e => by have := hb k e.symm; exact x.elim (fun y => by have := hF k y; omega) (fun y => by omega))
section
variable {w w' w1 : World} {F : Nat → Prop} {D q n N ne np ga : Nat} {m : Vs} {p : Pn.Pl}
theorem format_nil (p : Pn.Pl) (w : World) : Calls Tryz.prog 24 #[.pointer none, (.agg #[.int .i64 p.a0, .int .i64 p.a1, .int .i64 p.a2, .int .i64 p.a3, .int .i64 p.a4, .int .i64 p.a5, .int .i64 p.a6, .int .i64 p.a7, .int .i64 p.a8, .int .i64 p.a9, .int .i64 p.a10, .int .i64 p.a11, .int .i64 p.a12])] w fun e w' => e = .returned (.int .i64 2) ∧ Below w.heap.size w w' := by
  go_enter Tryz.func24, Tryz.ntmps24
  go_wp2_with fail
  refine (check_nil p _).mono ?_; rintro e w1 ⟨rfl, b1⟩
  have B1 := Lib.hid (bthen (bthen (balloc w _) (balloc _ _)) b1)
  clear b1
  go_wp2
  go_ret
  exact ⟨rfl, B1.out⟩
theorem format_no (h : PD w F D q n N m) (h4 : p.a4 = 0 ∨ ¬ p.a4 = (n : Int)) : Calls Tryz.prog 24 #[.pointer (some ⟨D, 0, none⟩), (.agg #[.int .i64 p.a0, .int .i64 p.a1, .int .i64 p.a2, .int .i64 p.a3, .int .i64 p.a4, .int .i64 p.a5, .int .i64 p.a6, .int .i64 p.a7, .int .i64 p.a8, .int .i64 p.a9, .int .i64 p.a10, .int .i64 p.a11, .int .i64 p.a12])] w fun e w' => e = .returned (.int .i64 1) ∧ Below w.heap.size w w' := by
  have H := Lib.hid h
  have H4 := Lib.hid h4
  clear h h4
  go_enter Tryz.func24, Tryz.ntmps24
  go_wp2_with fail
  refine (check_no (H.out.below (bthen (balloc w (.cells #[.int .i64 p.a0, .int .i64 p.a1, .int .i64 p.a2, .int .i64 p.a3, .int .i64 p.a4, .int .i64 p.a5, .int .i64 p.a6, .int .i64 p.a7, .int .i64 p.a8, .int .i64 p.a9, .int .i64 p.a10, .int .i64 p.a11, .int .i64 p.a12] 46)) (balloc _ (.cells #[.pointer (some ⟨D, 0, none⟩), .int .i64 p.a0, .int .i64 p.a1, .int .i64 p.a2, .int .i64 p.a3, .int .i64 p.a4, .int .i64 p.a5, .int .i64 p.a6, .int .i64 p.a7, .int .i64 p.a8, .int .i64 p.a9, .int .i64 p.a10, .int .i64 p.a11, .int .i64 p.a12] 78)))) H4.out).mono ?_; rintro e w1 ⟨rfl, b1⟩
  have B1 := Lib.hid (bthen (bthen (balloc w _) (balloc _ _)) b1)
  clear b1
  go_wp2
  go_ret
  exact ⟨rfl, B1.out⟩
theorem open_nil (p : Pn.Pl) (w : World) : Calls Tryz.prog 19 #[.pointer none, (.agg #[.int .i64 p.a0, .int .i64 p.a1, .int .i64 p.a2, .int .i64 p.a3, .int .i64 p.a4, .int .i64 p.a5, .int .i64 p.a6, .int .i64 p.a7, .int .i64 p.a8, .int .i64 p.a9, .int .i64 p.a10, .int .i64 p.a11, .int .i64 p.a12])] w fun e w' => e = .returned (.tuple #[.pointer none, .int .i64 2]) ∧ Below w.heap.size w w' := by
  go_enter Tryz.func19, Tryz.ntmps19
  go_wp2_with fail
  refine (check_nil p _).mono ?_; rintro e w1 ⟨rfl, b1⟩
  have B1 := Lib.hid (bthen (bthen (balloc w _) (balloc _ _)) b1)
  clear b1
  go_wp2
  go_ret2
  exact ⟨rfl, B1.out⟩
theorem open_no (h : PD w F D q n N m) (h4 : p.a4 = 0 ∨ ¬ p.a4 = (n : Int)) : Calls Tryz.prog 19 #[.pointer (some ⟨D, 0, none⟩), (.agg #[.int .i64 p.a0, .int .i64 p.a1, .int .i64 p.a2, .int .i64 p.a3, .int .i64 p.a4, .int .i64 p.a5, .int .i64 p.a6, .int .i64 p.a7, .int .i64 p.a8, .int .i64 p.a9, .int .i64 p.a10, .int .i64 p.a11, .int .i64 p.a12])] w fun e w' => e = .returned (.tuple #[.pointer none, .int .i64 1]) ∧ Below w.heap.size w w' := by
  have H := Lib.hid h
  have H4 := Lib.hid h4
  clear h h4
  go_enter Tryz.func19, Tryz.ntmps19
  go_wp2_with fail
  refine (check_no (H.out.below (bthen (balloc w (.cells #[.int .i64 p.a0, .int .i64 p.a1, .int .i64 p.a2, .int .i64 p.a3, .int .i64 p.a4, .int .i64 p.a5, .int .i64 p.a6, .int .i64 p.a7, .int .i64 p.a8, .int .i64 p.a9, .int .i64 p.a10, .int .i64 p.a11, .int .i64 p.a12] 46)) (balloc _ (.cells #[.pointer (some ⟨D, 0, none⟩), .int .i64 p.a0, .int .i64 p.a1, .int .i64 p.a2, .int .i64 p.a3, .int .i64 p.a4, .int .i64 p.a5, .int .i64 p.a6, .int .i64 p.a7, .int .i64 p.a8, .int .i64 p.a9, .int .i64 p.a10, .int .i64 p.a11, .int .i64 p.a12] 78)))) H4.out).mono ?_; rintro e w1 ⟨rfl, b1⟩
  have B1 := Lib.hid (bthen (bthen (balloc w _) (balloc _ _)) b1)
  clear b1
  go_wp2
  go_ret2
  exact ⟨rfl, B1.out⟩
/-- what Open leaves: r is the error, the pages, the device -/
def Opened (w : World) (TT : TypeId) (p : Pn.Pl) (D np : Nat) (r : Int × List Gp × Vs) (e : Ending) (w' : World) : Prop :=
  (r.1 = 0 ∧ ∃ T g cap, e = .returned (.tuple #[.pointer (some ⟨T, 0, none⟩), .int .i64 0]) ∧ TbAt w' (fun b => w.heap.size ≤ b ∧ b < w'.heap.size) TT T D g cap p r.2.1 ∧ r.2.1.length = np) ∨ (¬ r.1 = 0 ∧ e = .returned (.tuple #[.pointer none, .int .i64 r.1]))
set_option maxHeartbeats 2000000 in
theorem open_yes (h : PD w F D q n N m) (he : Env w) (hE : ∀ k, F k → 0 < k) (hp : Pln p ne np ga n) (r : Int × List Gp × Vs) (hr : opn ga np 0 m [] = r) :
    Calls Tryz.prog 19 #[.pointer (some ⟨D, 0, none⟩), (.agg #[.int .i64 p.a0, .int .i64 p.a1, .int .i64 p.a2, .int .i64 p.a3, .int .i64 p.a4, .int .i64 p.a5, .int .i64 p.a6, .int .i64 p.a7, .int .i64 p.a8, .int .i64 p.a9, .int .i64 p.a10, .int .i64 p.a11, .int .i64 p.a12])] w fun e w' => Opened w 81 p D np r e w' ∧ PD w' F D q n N r.2.2 ∧ Chg F w w' := by
  have H := Lib.hid h
  have HE := Lib.hid he
  have HG := Lib.hid hE
  have HP := Lib.hid hp
  have HR := Lib.hid hr
  have HB : Hid (∀ k, F k → k < w.heap.size) := fun k x => h.bound k (.inl x)
  have HQ : Hid (q < w.heap.size) := h.pw.lt
  have hnp : np ≤ 4096 := by have := hp.hn; have := hp.hn2; omega
  clear h he hE hp hr
  go_enter Tryz.func19, Tryz.ntmps19
  go_wp2_with fail
  refine (check_yes (H.out.below (bthen (balloc w (.cells #[.int .i64 p.a0, .int .i64 p.a1, .int .i64 p.a2, .int .i64 p.a3, .int .i64 p.a4, .int .i64 p.a5, .int .i64 p.a6, .int .i64 p.a7, .int .i64 p.a8, .int .i64 p.a9, .int .i64 p.a10, .int .i64 p.a11, .int .i64 p.a12] 46)) (balloc _ (.cells #[.pointer (some ⟨D, 0, none⟩), .int .i64 p.a0, .int .i64 p.a1, .int .i64 p.a2, .int .i64 p.a3, .int .i64 p.a4, .int .i64 p.a5, .int .i64 p.a6, .int .i64 p.a7, .int .i64 p.a8, .int .i64 p.a9, .int .i64 p.a10, .int .i64 p.a11, .int .i64 p.a12] 78)))) HP.out.h4 (by have := HP.out.hn; have := HP.out.hp; omega)).mono ?_; rintro e w1 ⟨rfl, b1⟩
  have B1 := Lib.hid (bthen (bthen (balloc w (.cells #[.int .i64 p.a0, .int .i64 p.a1, .int .i64 p.a2, .int .i64 p.a3, .int .i64 p.a4, .int .i64 p.a5, .int .i64 p.a6, .int .i64 p.a7, .int .i64 p.a8, .int .i64 p.a9, .int .i64 p.a10, .int .i64 p.a11, .int .i64 p.a12] 46)) (balloc _ (.cells #[.pointer (some ⟨D, 0, none⟩), .int .i64 p.a0, .int .i64 p.a1, .int .i64 p.a2, .int .i64 p.a3, .int .i64 p.a4, .int .i64 p.a5, .int .i64 p.a6, .int .i64 p.a7, .int .i64 p.a8, .int .i64 p.a9, .int .i64 p.a10, .int .i64 p.a11, .int .i64 p.a12] 78))) b1)
  have X1 := Lib.hid (kept_below (heap_alloc2_old w (.cells #[.int .i64 p.a0, .int .i64 p.a1, .int .i64 p.a2, .int .i64 p.a3, .int .i64 p.a4, .int .i64 p.a5, .int .i64 p.a6, .int .i64 p.a7, .int .i64 p.a8, .int .i64 p.a9, .int .i64 p.a10, .int .i64 p.a11, .int .i64 p.a12] 46) (.cells #[.pointer (some ⟨D, 0, none⟩), .int .i64 p.a0, .int .i64 p.a1, .int .i64 p.a2, .int .i64 p.a3, .int .i64 p.a4, .int .i64 p.a5, .int .i64 p.a6, .int .i64 p.a7, .int .i64 p.a8, .int .i64 p.a9, .int .i64 p.a10, .int .i64 p.a11, .int .i64 p.a12] 78)) b1)
  have Y1 := Lib.hid (kept_below (heap_at_next w (.cells #[.int .i64 p.a0, .int .i64 p.a1, .int .i64 p.a2, .int .i64 p.a3, .int .i64 p.a4, .int .i64 p.a5, .int .i64 p.a6, .int .i64 p.a7, .int .i64 p.a8, .int .i64 p.a9, .int .i64 p.a10, .int .i64 p.a11, .int .i64 p.a12] 46) (.cells #[.pointer (some ⟨D, 0, none⟩), .int .i64 p.a0, .int .i64 p.a1, .int .i64 p.a2, .int .i64 p.a3, .int .i64 p.a4, .int .i64 p.a5, .int .i64 p.a6, .int .i64 p.a7, .int .i64 p.a8, .int .i64 p.a9, .int .i64 p.a10, .int .i64 p.a11, .int .i64 p.a12] 78)) b1)
  clear b1
  go_wp2_with ((with_reducible apply Pn.L_loadMap); exact rfl; exact X1.out; exact rfl)
  refine (Pn.plan_any p _).mono ?_; rintro e w2 ⟨rfl, b2⟩
  have hf2 : (Instr.field 42 (.agg #[.int .i64 p.a0, .int .i64 p.a1, .int .i64 p.a2, .int .i64 p.a3, .int .i64 p.a4, .int .i64 p.a5, .int .i64 p.a6, .int .i64 p.a7, .int .i64 p.a8, .int .i64 p.a9, .int .i64 p.a10, .int .i64 p.a11, .int .i64 p.a12]) 2).run Tryz.prog w2 = .ok (.int .i64 (np : Int)) w2 := by rw [field_2, HP.out.h2]
  have B2 := Lib.hid (bthen B1.out b2)
  have Y2 := Lib.hid (kept_below Y1.out b2)
  have P2 := Lib.hid (H.out.below (bthen B1.out b2))
  clear b2 X1 Y1 B1
  go_wp2
  clear hf2
  have YL : Hid (w.heap.size + 1 < w2.heap.size) := lt_of_heap Y2.out
  have E2 := Lib.hid (HE.out.below B2.out)
  have F2 : Hid (∀ k, F k → k < w2.heap.size) := fun k x => Nat.lt_of_lt_of_le (HB.out k x) B2.out.size
  go_loopw [8, 23] (fun v q23 wr => ∃ j : Nat, j ≤ np ∧ q23 = .int .i64 (j : Int) ∧ ∃ mj L, Hid (PD wr F D q n N mj) ∧ Hid (Chg F w2 wr) ∧ Hid (OwnS wr 33 8 w2.heap.size v (L.map gcs)) ∧ Hid (L.length = j) ∧ Hid (opn ga (np - j) j mj L = r)) (fun _ q23 _ => np - (intOf q23).toNat)
  case atStart => exact ⟨0, by omega, rfl, m, [], P2, Chg.refl _ _, OwnS.nil _ _ _ _, rfl, HR⟩
  case round =>
    obtain ⟨j, hj, rfl, mj, L, PJ, CJ, OJ, LJ, RJ⟩ := hrel
    have YJ := Lib.hid ((CJ.out.block _ YL.out (fun x => by have := HB.out _ x; omega)).trans Y2.out)
    have EJ := Lib.hid (env_chg E2.out CJ.out HG.out)
    by_cases hlt : j < np
    · have hlt2 : (j : Int) < (np : Int) := by omega
      obtain ⟨v1, x, m', hv⟩ : ∃ v1 x m', on1 ga mj j = (v1, x, m') := ⟨_, _, _, rfl⟩
      have HV := Lib.hid hv
      have RJ2 := Lib.hid RJ.out
      rw [show np - j = (np - (j + 1)) + 1 by omega] at RJ2
      clear hv
      go_wp2_with ((with_reducible apply L_loadPlace); exact rfl; exact YJ.out; exact rfl)
      refine (newest_any PJ.out EJ.out HG.out HP.out hlt (v1, x, m') HV.out).mono ?_; rintro e w3 ⟨rfl, p3, c3⟩
      have P3 := Lib.hid p3
      have C3 := Lib.hid (CJ.out.trans c3 (fun _ _ x => x))
      have O3 := Lib.hid (OJ.out.keep (w' := w3) (fun g hg => c3.block g (OJ.out.ge g hg).2 (fun x => by have := HB.out g x; have := (OJ.out.ge g hg).1; have := B2.out.size; omega)))
      have HL3 : Hid (w2.heap.size ≤ w3.heap.size) := C3.out.size
      clear p3 c3
      by_cases h1 : v1 = 0
      · have RK : Hid (opn ga (np - (j + 1)) (j + 1) m' (L ++ [x]) = r) := by
          have e := RJ2.out
          rw [opn_ok (by rw [HV.out]; exact h1), HV.out] at e
          exact e
        subst h1
        go_wp2_with (first
          | ((with_reducible apply W.L_storeRow (N := 8) info_gp); exact rfl; exact rfl; exact heap_alloc_new _ _; exact rfl; exact rfl; (simp [Value.oneCell']); intro w4 h4 g4; have H4 := Lib.hid h4; have G4 := Lib.hid ((World.grownBy_alloc w3 _ (some w3.heap.size)).trans g4); clear h4 g4)
          | ((with_reducible apply L_loadGp); exact rfl; exact H4.out; exact rfl)
          | (at_builtin; refine wpList_append_S2 rfl _ _ _ rfl gp_elk rfl (O3.out.keep (w' := w4) (fun g hg => G4.out.block g (O3.out.ge g hg).2 (fun e => by injection e with e; have := (O3.out.ge g hg).2; omega))) (Nat.le_trans HL3.out G4.out.size) _ rfl (c := gcs x) rfl rfl (gcs_one x) (by rw [List.length_map, LJ.out]; have := HP.out.hn; have := HP.out.hn2; omega) ?_; intro v5 w5 o5 g5; have O5 := Lib.hid o5; have G5 := Lib.hid g5; clear o5 g5))
        have C5 := Lib.hid (chg_row (chg_row C3.out G4.out (fun b e => by injection e with e; have := HL3.out; omega)) G5.out (fun b e => (O3.out.ge b e).1))
        have P5 := Lib.hid (pd_row HB.out HQ.out (pd_row HB.out HQ.out P3.out G4.out (fun b e => by injection e with e; have := HL3.out; have := B2.out.size; omega)) G5.out (fun b e => by have := (O3.out.ge b e).1; have := B2.out.size; omega))
        go_roundw
        case rel => exact ⟨j + 1, by omega, by go_num, m', L ++ [x], P5, C5, by show OwnS _ _ _ _ _ _; rw [List.map_append]; exact O5.out, by show _ = _; rw [List.length_append, LJ.out]; rfl, RK⟩
        case measure => simp [intOf]; omega
      · have RK : Hid (r = (v1, L, m')) := by
          have e := RJ2.out
          rw [opn_no (by rw [HV.out]; exact h1), HV.out] at e
          exact e.symm
        go_wp2_with ((with_reducible apply W.L_storeRow (N := 8) info_gp); exact rfl; exact rfl; exact heap_alloc_new _ _; exact rfl; exact rfl; (simp [Value.oneCell']); intro w4 h4 g4; have G4 := Lib.hid ((World.grownBy_alloc w3 _ (some w3.heap.size)).trans g4); clear h4 g4)
        go_ret2
        have hb : ∀ b, some w3.heap.size = some b → w2.heap.size ≤ b := fun b e => by injection e with e; have := HL3.out; omega
        rw [RK.out]
        exact ⟨.inr ⟨h1, rfl⟩, pd_row HB.out HQ.out P3.out G4.out (fun b e => Nat.le_trans B2.out.size (hb b e)), (Chg.of_below (F := F) B2.out).trans (chg_row C3.out G4.out hb) (fun _ _ x => x)⟩
    · have hlt2 : ¬ (j : Int) < (np : Int) := by omega
      have hjn : j = np := by omega
      have RK : Hid (r = (0, L, mj)) := by
        have e := RJ.out
        rw [hjn, Nat.sub_self] at e
        exact e.symm
      have LN : Hid (L.length = np) := by show _ = _; rw [LJ.out]; exact hjn
      obtain ⟨g, cap, rfl, hg1, hg2, hg3, hg4⟩ := OJ.out.here (n := np) (by rw [List.length_map]; exact LN.out) (by have := HP.out.hp; omega)
      clear hjn
      go_wp2_with ((with_reducible apply L_loadPlace); exact rfl; exact YJ.out; exact rfl)
      go_ret2
      have ba := balloc wr (.cells #[.pointer (some ⟨D, 0, none⟩), .int .i64 p.a0, .int .i64 p.a1, .int .i64 p.a2, .int .i64 p.a3, .int .i64 p.a4, .int .i64 p.a5, .int .i64 p.a6, .int .i64 p.a7, .int .i64 p.a8, .int .i64 p.a9, .int .i64 p.a10, .int .i64 p.a11, .int .i64 p.a12, .slice (some ⟨g, 0, none⟩) np cap] 81)
      rw [RK.out]
      refine ⟨.inl ⟨rfl, wr.heap.size, g, cap, rfl, ⟨?_, ?_, by omega, ?_, ?_⟩, LN.out⟩, PJ.out.below ba, (Chg.of_below (F := F) B2.out).trans (CJ.out.trans (Chg.of_below (F := F) ba) (fun _ _ x => x)) (fun _ _ x => x)⟩
      · rw [LN.out]; exact heap_alloc_new wr _
      · rw [LN.out]; exact (OJ.out.alloc _).more (Nat.zero_le _)
      · have := CJ.out.size; have := B2.out.size; simp; omega
      · rw [LN.out]; exact ⟨hg2, hg3⟩
end
end Go.Proofs.YtgdgehfapfgdfaaGreatDoor.Tb
