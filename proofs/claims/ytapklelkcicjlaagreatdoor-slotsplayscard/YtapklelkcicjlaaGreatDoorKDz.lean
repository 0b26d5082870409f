/-
  Elder texts, one behind the other: DvRwrite, DvRcrash, DvKeeps. No conditions.
-/
import Derived.Test.YtapklelkcicjlaaGreatDoorKDr
import Derived.Test.YtapklelkcicjlaaGreatDoorKRow
/-! The document's devices: Write. No conditions. -/
namespace Go.Proofs.YtapklelkcicjlaaGreatDoor.Dw
set_option maxRecDepth 100000
open Go.RowKit Oc Dm Gt
set_option linter.unusedVariables false
set_option maxRecDepth 100000
theorem strt : Rw.ElTy Tryz.prog 149 9 (.string ⟨#[]⟩) 16 := ⟨Tryz.underlying149, by kernel_rfl, rfl, by decide⟩
theorem tx_one (xs : List (List UInt8)) : ∀ u ∈ xs.map tx, u.oneCell' = true := by
  intro u hu
  obtain ⟨x, _, rfl⟩ := List.mem_map.1 hu
  rfl
theorem wp_append_row {P : Program} {w : World} {o : Oper} {a : Act} {K : Act → World → Prop} {Q : Exit → Act → World → Prop} (s x : Operand) (t : TypeId)
    (ho : o.op = .call { callee := .builtin .append, args := #[s, x], argTypes := #[t, t] }) {e : TypeId} {z : Value} {bytes : Nat} (hT : Rw.ElTy P t e z bytes) {w0 : World} {v : Value} {xs : List Value} (hs : a.eval s = v) (hown : Rw.OwnV w e w0.heap.size v xs) (hb : Below w0.heap.size w0 w)
    {A : Option Addr} {m : Nat} (c : Nat) {ys : List Value} (hx : a.eval x = .slice A m c) (hr : Rw.Sl w A m ys) (h1 : ∀ u ∈ ys, u.oneCell' = true) (hl : xs.length + m ≤ 1000000000000)
    (h : ∀ v' w', Rw.OwnV w' e w0.heap.size v' (xs ++ ys) → Below w0.heap.size w0 w' → w.grownBy w' v.ownBlock → K (a.put o.dst v') w') : Oper.wp P o a w K Q := by
  obtain ⟨v', w', hrun, h2, h3, _⟩ := Rw.run_append_row (P := P) (ty := o.type) c hT hown hr h1 hl hb.size
  unfold Oper.wp execOp
  simp only [ho, resolve, invoke, builtin, Sem.run_bind, Sem.run_pure, Result.andThen_ok, List.map_toArray, List.map_cons, List.map_nil, hs, hx, hrun]
  exact h v' w' h2 (hb.grown h3 hb.size fun g hg => (hown.ge g hg).1) h3
theorem own_empty (w : World) (e : TypeId) (B : Nat) (hB : B ≤ w.heap.size) : Rw.OwnV (w.alloc (.cells #[] e)) e B (.slice (some ⟨w.heap.size, 0, none⟩) 0 0) [] := World.ownsRow_lit (base := B) (e := e) (size := 1) w #[] 0 hB (by decide) rfl
theorem oc_put1 {w : World} {gs n i : Nat} {S : Nat → Sec} {vs : Nat → Value} (h : w.rowIs gs 151 (n * 3) (oc S vs)) (x : Sec) (v : Value) (hf : x.fixed = (S i).fixed) (hr : x.rotten = (S i).rotten) :
    (w.setCell ⟨gs, i * 3 + 1, none⟩ v).rowIs gs 151 (n * 3) (oc (upd S i x) (upd vs i v)) := by
  refine (h.set (i * 3 + 1) v).congr (fun j hj => ?_)
  have hm : j % 3 = 0 ∨ j % 3 = 1 ∨ j % 3 = 2 := by omega
  by_cases e : j / 3 = i
  · rcases hm with m | m | m
    · have : j = i * 3 := by omega
      subst this
      rw [oc0 (upd S i x), upd_same, if_neg (by omega), oc0, hf]
    · have : j = i * 3 + 1 := by omega
      subst this
      rw [oc1 (upd S i x), upd_same, if_pos rfl]
    · have : j = i * 3 + 2 := by omega
      subst this
      rw [oc2 (upd S i x), upd_same, if_neg (by omega), oc2, hr]
  · rw [if_neg (by omega)]
    unfold oc
    rw [upd_other _ _ e, upd_other _ _ e]
section
variable {w w' w4 : World} {G G' : Nat → Prop} {E q n : Nat} {S : Nat → Sec} {rd wx gs : Nat} {vs : Nat → Value} {s : PS}
theorem rput1 (h : RvAt w G E q n S rd wx gs vs) {i : Nat} (hi : i < n) {xs : List UInt8} {v : Value} (b : Below w.heap.size w w4) (o : Rw.OwnV w4 9 w.heap.size v (((S i).loose ++ [xs]).map tx)) :
    RvAt (w4.setCell ⟨gs, i * 3 + 1, none⟩ v) (Ext G w (w4.setCell ⟨gs, i * 3 + 1, none⟩ v)) E q n (wrote S i xs) rd wx gs (upd vs i v) ∧ Chg G w (w4.setCell ⟨gs, i * 3 + 1, none⟩ v) := by
  have hgl := h.bound gs h.inG.2
  have h4 := h.below b
  have hL : ((((S i).loose ++ [xs]).map tx)).length = ((S i).loose ++ [xs]).length := by simp
  obtain ⟨A, c, rfl, hlc, hcm, hsl⟩ := o.form hL
  have hge := o.ge
  refine ⟨?_, ?_⟩
  · refine (h4.frame (G' := Ext G w (w4.setCell ⟨gs, i * 3 + 1, none⟩ (.slice A ((S i).loose ++ [xs]).length c))) (w' := w4) (fun k x => .inl x) (fun k x => ?_) (fun k _ => rfl)).put hi _ _ (fun k x => x) (fun k x => ?_) (oc_put1 h4.row ⟨(S i).fixed, (S i).loose ++ [xs], (S i).rotten⟩ _ rfl rfl) (fun k _ hk => heap_setCell_other _ _ _ _ hk) ⟨A, c, rfl, hlc, hcm, ?_, ?_⟩
    · rcases x with x | x
      · exact h4.bound k x
      · rw [size_cell] at x; exact x.2
    · rw [size_cell]
      rcases x with x | x
      · exact h4.bound k x
      · rw [size_cell] at x; exact x.2
    · refine hsl.heap (fun b' off' hn e => heap_setCell_other _ _ _ _ ?_)
      intro e2
      subst e
      have := (hge b' rfl).1
      have e3 : b' = gs := e2
      omega
    · intro b' off' hn e
      subst e
      have := hge b' rfl
      exact ⟨.inr ⟨this.1, by rw [size_cell]; exact this.2⟩, by omega⟩
  · exact (Chg.of_below b).trans (G := G) (Chg.of_grown (grown_cell ..) (fun k e _ => by injection e with e; rw [← e]; exact h.inG.2)) (fun k _ x => x)
theorem rwrite_off (h : RvAt w G E q n S rd wx gs vs) (hq : Qw w q s) (ho : s.off = true) (z : Int) (u : Value) : Calls Tryz.prog 52 #[.pointer (some ⟨E, 0, none⟩), .int .i64 z, u] w fun e w' => e = .returned (.int .i64 80) ∧ w = w' := by
  obtain ⟨c0, c1, c2, c3, fr⟩ := h.cells
  obtain ⟨l, hh, hl, d0, d1, d2, d3, fr2⟩ := hq.cells
  rw [ho] at d0
  clear h hq hh hl
  go_enter Tryz.func52, Tryz.ntmps52
  go_wp2
  go_ret
  exact ⟨rfl, rfl⟩
theorem rwrite_no (h : RvAt w G E q n S rd wx gs vs) (hq : Qw w q s) (ho : s.off = false) (z : Int) (u : Value) (hz : z < 0 ∨ (n : Int) ≤ z) : Calls Tryz.prog 52 #[.pointer (some ⟨E, 0, none⟩), .int .i64 z, u] w fun e w' => e = .returned (.int .i64 3) ∧ w = w' := by
  have H := Lib.hid h
  obtain ⟨c0, c1, c2, c3, fr⟩ := h.cells
  obtain ⟨l, hh, hl, d0, d1, d2, d3, fr2⟩ := hq.cells
  rw [ho] at d0
  have hd : decide (0 ≤ z ∧ z < (n : Int)) = false := by simp; omega
  clear h hq hh hl hz
  go_enter Tryz.func52, Tryz.ntmps52
  go_wp2_with fail
  refine (rhas_any H.out z).mono ?_; rintro e w' ⟨rfl, rfl⟩
  rw [hd]
  go_wp2
  go_ret
  exact ⟨rfl, rfl⟩
theorem rwrite_arg (h : RvAt w G E q n S rd wx gs vs) (hq : Qw w q s) (ho : s.off = false) (i : Nat) (hi : i < n) (B : ByteArray) (hB : B.size ≠ 64) : Calls Tryz.prog 52 #[.pointer (some ⟨E, 0, none⟩), .int .i64 (i : Int), .string B] w fun e w' => e = .returned (.int .i64 1) ∧ w = w' := by
  have H := Lib.hid h
  obtain ⟨c0, c1, c2, c3, fr⟩ := h.cells
  obtain ⟨l, hh, hl, d0, d1, d2, d3, fr2⟩ := hq.cells
  rw [ho] at d0
  have hd : decide (0 ≤ (i : Int) ∧ (i : Int) < (n : Int)) = true := by simp; omega
  have hB2 : ¬ ((B.size : Int) = 64) := by omega
  clear h hq hh hl hi
  go_enter Tryz.func52, Tryz.ntmps52
  go_wp2_with fail
  refine (rhas_any H.out i).mono ?_; rintro e w' ⟨rfl, rfl⟩
  rw [hd]
  go_wp2
  go_ret
  exact ⟨rfl, rfl⟩
theorem rwrite_goes (h : RvAt w G E q n S rd wx gs vs) (hq : Qw w q s) (hf : ∀ k, s.fuse = some k → k ≤ 1048576) (hdn : s.done < 1000000000000) (ho : s.off = false) (i : Nat) (hi : i < n) (B : ByteArray) (hB : B.size = 64) (hg : s.goes = true) : Calls Tryz.prog 52 #[.pointer (some ⟨E, 0, none⟩), .int .i64 (i : Int), .string B] w (QTurned w q s.spend (.int .i64 80)) := by
  have H := Lib.hid h
  have HQ := Lib.hid hq
  have HF := Lib.hid hf
  obtain ⟨c0, c1, c2, c3, fr⟩ := h.cells
  obtain ⟨l, hh, hl, d0, d1, d2, d3, fr2⟩ := hq.cells
  rw [ho] at d0
  have hd : decide (0 ≤ (i : Int) ∧ (i : Int) < (n : Int)) = true := by simp; omega
  clear h hq hh hl hi hf
  go_enter Tryz.func52, Tryz.ntmps52
  go_wp2_with fail
  refine (rhas_any H.out i).mono ?_; rintro e w' ⟨rfl, rfl⟩
  rw [hd]
  go_wp2_with fail
  refine (rspend_any HQ.out HF.out hdn).mono ?_; rintro e w1 ⟨rfl, q1, g1, z1⟩
  have R1 : Hid (QTurned w q s.spend (.int .i64 80) (.returned (.int .i64 80)) w1) := ⟨rfl, q1, g1, z1⟩
  clear q1 g1 z1
  rw [hg]
  go_wp2
  go_ret
  exact R1.out
/-- what a written sector leaves -/
def RSpent (w : World) (G : Nat → Prop) (E q n : Nat) (S : Nat → Sec) (rd wx gs : Nat) (s : PS) (v : Value) (e : Ending) (w' : World) : Prop := e = .returned v ∧ Qw w' q s ∧ (∃ vs', RvAt w' (Ext G w w') E q n S rd wx gs vs') ∧ Chg (fun k => G k ∨ k = q) w w'

set_option maxHeartbeats 8000000 in
theorem rwrite_io (h : RvAt w G E q n S rd wx gs vs) (hGq : ¬ G q) (hq : Qw w q s) (hf : ∀ k, s.fuse = some k → k ≤ 1048576) (hdn : s.done < 1000000000000) (ho : s.off = false) (i : Nat) (hi : i < n) (hN2 : (S i).loose.length ≤ 1000000000) (xs : List UInt8) (B : ByteArray) (hBx : tx xs = .string B) (hB : B.size = 64) (hg : s.goes = false) (hw : wx % 2 = 1) : Calls Tryz.prog 52 #[.pointer (some ⟨E, 0, none⟩), .int .i64 (i : Int), .string B] w (RSpent w G E q n S rd (wx / 2) gs s.spend (.int .i64 81)) := by
  have H := Lib.hid h
  have HQ := Lib.hid hq
  have HF := Lib.hid hf
  have hwx := h.hwr
  have hn := h.hn
  have hm : (wx : Int) % 2 = 1 := by omega
  obtain ⟨u, hu⟩ : ∃ u, wx / 2 = u := ⟨_, rfl⟩
  have hq2 : (wx : Int) / 2 = (u : Int) := by omega
  have hu2 : u < 18446744073709551616 := by omega
  rw [hu]
  obtain ⟨c0, c1, c2, c3, fr⟩ := h.cells
  obtain ⟨l, hh, hl, d0, d1, d2, d3, fr2⟩ := hq.cells
  rw [ho] at d0
  have hd : decide (0 ≤ (i : Int) ∧ (i : Int) < (n : Int)) = true := by simp; omega
  clear h hq hh hl hf hu hw
  go_enter Tryz.func52, Tryz.ntmps52
  go_wp2_with fail
  refine (rhas_any H.out i).mono ?_; rintro e w' ⟨rfl, rfl⟩
  rw [hd]
  go_wp2_with fail
  refine (rspend_any HQ.out HF.out hdn).mono ?_; rintro e w0 ⟨rfl, q1, g1, z1⟩
  have hEq : E ≠ q := fun e => hGq (e ▸ H.out.inG.1)
  have C0 : Hid (Chg (fun k => k = q) w w0) := Chg.of_grown g1 (fun k e _ => by injection e with e; exact e.symm)
  have H0 := Lib.hid (H.out.kept C0.out (fun k x e => hGq (e ▸ x)))
  have Q0 := Lib.hid q1
  have HS0 := Lib.hid z1
  clear q1 g1 z1 c0 c1 c2 c3 fr d0 d1 d2 d3 fr2
  obtain ⟨c0, c1, c2, c3, fr⟩ := H0.out.cells
  rw [hg]
  go_wp2
  go_ret
  exact ⟨rfl, Q0.out.heap (heap_setCell_other _ _ _ _ (fun e => hEq e.symm)), ⟨vs, (H0.out.set3 u hu2).frame (fun k x => .inl x) (fun k x => by
    rcases x with x | x
    · exact (H0.out.set3 u hu2).bound k x
    · exact x.2) (fun k _ => rfl)⟩, (C0.out.mono (fun k _ e => .inr e)).trans (G := fun k => G k ∨ k = q) (Chg.of_grown (grown_cell ..) (fun k e _ => by injection e with e; rw [← e]; exact .inl H.out.inG.1)) (fun k _ x => x)⟩

set_option maxHeartbeats 8000000 in
theorem rwrite_ok (h : RvAt w G E q n S rd wx gs vs) (hGq : ¬ G q) (hq : Qw w q s) (hf : ∀ k, s.fuse = some k → k ≤ 1048576) (hdn : s.done < 1000000000000) (ho : s.off = false) (i : Nat) (hi : i < n) (hN2 : (S i).loose.length ≤ 1000000000) (xs : List UInt8) (B : ByteArray) (hBx : tx xs = .string B) (hB : B.size = 64) (hg : s.goes = false) (hw : wx % 2 = 0) : Calls Tryz.prog 52 #[.pointer (some ⟨E, 0, none⟩), .int .i64 (i : Int), .string B] w (RSpent w G E q n (wrote S i xs) rd (wx / 2) gs s.spend (.int .i64 0)) := by
  have H := Lib.hid h
  have HQ := Lib.hid hq
  have HF := Lib.hid hf
  have hwx := h.hwr
  have hn := h.hn
  have hm : (wx : Int) % 2 = 0 := by omega
  obtain ⟨u, hu⟩ : ∃ u, wx / 2 = u := ⟨_, rfl⟩
  have hq2 : (wx : Int) / 2 = (u : Int) := by omega
  have hu2 : u < 18446744073709551616 := by omega
  rw [hu]
  obtain ⟨c0, c1, c2, c3, fr⟩ := h.cells
  obtain ⟨l, hh, hl, d0, d1, d2, d3, fr2⟩ := hq.cells
  rw [ho] at d0
  have hd : decide (0 ≤ (i : Int) ∧ (i : Int) < (n : Int)) = true := by simp; omega
  clear h hq hh hl hf hu hw
  go_enter Tryz.func52, Tryz.ntmps52
  go_wp2_with fail
  refine (rhas_any H.out i).mono ?_; rintro e w' ⟨rfl, rfl⟩
  rw [hd]
  go_wp2_with fail
  refine (rspend_any HQ.out HF.out hdn).mono ?_; rintro e w0 ⟨rfl, q1, g1, z1⟩
  have hEq : E ≠ q := fun e => hGq (e ▸ H.out.inG.1)
  have C0 : Hid (Chg (fun k => k = q) w w0) := Chg.of_grown g1 (fun k e _ => by injection e with e; exact e.symm)
  have H0 := Lib.hid (H.out.kept C0.out (fun k x e => hGq (e ▸ x)))
  have Q0 := Lib.hid q1
  have HS0 := Lib.hid z1
  clear q1 g1 z1 c0 c1 c2 c3 fr d0 d1 d2 d3 fr2
  obtain ⟨c0, c1, c2, c3, fr⟩ := H0.out.cells
  rw [hg]
  have H1 := Lib.hid (H0.out.set3 u hu2)
  have C1 : Hid (Chg (fun k => G k ∨ k = q) w (w0.setCell ⟨E, 3, none⟩ (.int .u64 (u : Int)))) := (C0.out.mono (fun k _ e => .inr e)).trans (G := fun k => G k ∨ k = q) (Chg.of_grown (grown_cell ..) (fun k e _ => by injection e with e; rw [← e]; exact .inl H.out.inG.1)) (fun k _ x => x)
  have Q1 := Lib.hid (Q0.out.heap (w' := w0.setCell ⟨E, 3, none⟩ (.int .u64 (u : Int))) (heap_setCell_other _ _ _ _ (fun e => hEq e.symm)))
  have HSZ : Hid ((w0.setCell ⟨E, 3, none⟩ (.int .u64 (u : Int))).heap.size = w.heap.size) := Lib.hid (by rw [size_cell]; exact HS0.out)
  go_wp2_with fail
  generalize w0.setCell ⟨E, 3, none⟩ (.int .u64 (u : Int)) = w1 at H1 C1 Q1 HSZ ⊢
  clear c0 c1 c2 c3 fr H0 Q0 C0 HS0 H HQ HF
  obtain ⟨c0, c1, c2, c3, fr⟩ := H1.out.cells
  obtain ⟨A, c, hv, hlc, hcm, hsl, hG⟩ := H1.out.loose i hi
  obtain ⟨s0, s1, s2, sf⟩ := H1.out.sec hi
  rw [hv] at s1
  have lE : E < w1.heap.size := H1.out.bound E H1.out.inG.1
  have lG : gs < w1.heap.size := H1.out.bound gs H1.out.inG.2
  obtain ⟨N, hN⟩ : ∃ N, (S i).loose.length = N := ⟨_, rfl⟩
  have S1 := Lib.hid hsl
  have XB : Hid ([xs].map tx = [.string B]) := Lib.hid (by rw [List.map_singleton, hBx])
  have HN : Hid (((S i).loose.map tx).length = N) := Lib.hid (by rw [List.length_map, hN])
  rw [hN] at s1 hN2 S1
  have hi3 : (i : Int) < (n : Int) := by omega
  have FIN : Hid (∀ (v4 : Value) (w4 : World), Below w1.heap.size w1 w4 → Rw.OwnV w4 9 w1.heap.size v4 ((S i).loose.map tx ++ [.string B]) → RSpent w G E q n (wrote S i xs) rd u gs s.spend (.int .i64 0) (.returned (.int .i64 0)) (w4.setCell ⟨gs, i * 3 + 1, none⟩ v4)) := fun v4 w4 b4 o4 => by
    rw [← XB.out, ← List.map_append] at o4
    obtain ⟨r, ch⟩ := rput1 H1.out hi b4 o4
    refine ⟨rfl, (Q1.out.heap (b4.block _ Q1.out.lt)).heap (heap_setCell_other _ _ _ _ (fun e => hGq (e ▸ H1.out.inG.2))), ⟨_, r.frame (fun k x => ?_) (fun k x => ?_) (fun k _ => rfl)⟩, C1.out.trans (ch.mono (fun k _ x => Or.inl x)) (fun k _ x => x)⟩
    · rcases x with x | x
      · exact .inl x
      · exact .inr ⟨by have := HSZ.out; omega, x.2⟩
    · rcases x with x | x
      · exact r.bound k (.inl x)
      · exact x.2
  have FRM : Hid (∀ (v4 : Value) (w4 : World), Rw.OwnV w4 9 w1.heap.size v4 ((S i).loose.map tx ++ [.string B]) → ∃ A4 c4, v4 = .slice A4 (N + 1) c4) := fun v4 w4 o4 => by
    obtain ⟨A4, c4, e, _⟩ := o4.form (n := N + 1) (by rw [List.length_append, HN.out]; rfl)
    exact ⟨A4, c4, e⟩
  have BT := Lib.hid (tx_one (S i).loose)
  generalize (S i).loose.map tx = ys at S1 HN FIN FRM BT
  clear hv hlc hcm hsl hG s0 s2 hN XB Q1 C1 HSZ hBx H1 c0 c2 c3
  refine gate (fun w' => w'.cell? ⟨E, 1, none⟩ = some (.slice (some ⟨gs, 0, none⟩) n n) ∧ w'.cell? ⟨gs, i * 3 + 1, none⟩ = some (.slice A N c)) 20 [0, 1, 2, 3, 4, 6, 7, 8, 9, 10, 11, 12, 13, 15] 7 (by kernel_rfl) (by kernel_rfl) (by kernel_rfl) rfl ?_ ⟨c1, s1⟩ ?_
  · intro d v c a w h
    cases d <;> exact h
  iterate 14
    refine yields_step ?_ rfl rfl ?_ ?_
    rotate_left
    · intro w' hS; obtain ⟨hS1, hS2⟩ := hS; go_simp; rfl
  have KS : Hid (∀ x, Below w1.heap.size w1 x → x.cell? ⟨E, 1, none⟩ = some (.slice (some ⟨gs, 0, none⟩) n n) ∧ x.cell? ⟨gs, i * 3 + 1, none⟩ = some (.slice A N c)) := fun x hx => ⟨(hx.cell (p := ⟨E, 1, none⟩) lE).trans c1, (hx.cell (p := ⟨gs, i * 3 + 1, none⟩) lG).trans s1⟩
  have FZ : Hid (∀ x, Below w1.heap.size w1 x → x.frozen? ⟨gs, i * 3 + 1, none⟩ = false) := fun x hx => (hx.frozen (p := ⟨gs, i * 3 + 1, none⟩) lG).trans (sf _)
  refine Gate.fork (i := 5) (j := 16) (by kernel_rfl) rfl rfl rfl rfl (fun K hK => ?_) (fun K hK => ?_)
  · go_simp
    have bS : Below w1.heap.size w1 ((w1.alloc (.cells #[] 9)).drew) := ((Below.refl _ w1).alloc (Nat.le_refl _) _).drew
    refine hK _ _ (fun _ => KS.out _ bS) ?_
    clear hK K
    refine Gate.fork (i := 14) (j := 16) (by kernel_rfl) rfl rfl rfl rfl (fun K hK => ?_) (fun K hK => ?_)
    · refine wp_append_row (.tmp 48) (.tmp 56) 149 rfl strt (w0 := w1) rfl ((own_empty w1 9 w1.heap.size (Nat.le_refl _)).drew) bS c rfl (S1.out.below bS) BT.out (by rw [List.length_nil]; omega) ?_
      intro v3 w3 o3 b3 _
      rw [List.nil_append] at o3
      refine hK _ _ (fun _ => KS.out _ b3) ?_
      clear hK K
      refine Gate.next (i := 16) (by kernel_rfl) rfl rfl (fun K hK => ?_)
      go_simp
      have bT : Below w1.heap.size w1 (w3.alloc (.cells #[.string B] 9)) := b3.alloc b3.size _
      refine hK _ _ (fun _ => KS.out _ bT) ?_
      clear hK K
      refine Gate.next (i := 17) (by kernel_rfl) rfl rfl (fun K hK => ?_)
      refine wp_append_row (.tmp 57) (.tmp 59) 149 rfl strt (w0 := w1) rfl (o3.alloc _) bT 1 rfl (Rw.Sl.one w3 9 (.string B)) (by intro u hu; simp at hu; subst hu; rfl) (by rw [HN.out]; omega) ?_
      intro v4 w4 o4 b4 _
      have d4 := (KS.out _ b4).2
      have f4 := FZ.out _ b4
      refine hK _ _ (fun _ => KS.out _ b4) ?_
      have R4 := Lib.hid (FIN.out v4 w4 b4 o4)
      obtain ⟨A4, c4, rfl⟩ := FRM.out v4 w4 o4
      clear hK K o4
      refine Gate.next (i := 18) (by kernel_rfl) rfl rfl (fun K hK => ?_)
      go_simp
      refine hK _ _ (fun _ => KS.out _ b4) ?_
      clear hK K
      refine Gate.next (i := 19) (by kernel_rfl) rfl rfl (fun K hK => ?_)
      go_simp
      refine hK _ _ (fun _ => KS.out _ b4) ?_
      clear hK K
      refine Gate.next (i := 20) (by kernel_rfl) rfl rfl (fun K hK => ?_)
      go_simp
      refine hK _ _ (fun h => absurd rfl h) ?_
      clear hK K
      refine Gate.done (by kernel_rfl) ?_
      go_wp2
      go_ret
      exact R4.out
    · go_simp
      have bT : Below w1.heap.size w1 (((w1.alloc (.cells #[] 9)).alloc (.cells #[.string B] 9)).drew) := (((Below.refl _ w1).alloc (Nat.le_refl _) _).alloc (by simp) _).drew
      refine hK _ _ (fun _ => KS.out _ bT) ?_
      clear hK K
      refine Gate.next (i := 14) (by kernel_rfl) rfl rfl (fun K hK => ?_)
      refine wp_append_row (.tmp 48) (.tmp 56) 149 rfl strt (w0 := w1) rfl (((own_empty w1 9 w1.heap.size (Nat.le_refl _)).alloc _).drew) bT c rfl (S1.out.below bT) BT.out (by rw [List.length_nil]; omega) ?_
      intro v3 w3 o3 b3 g3
      rw [List.nil_append] at o3
      have SN : Rw.Sl w3 (some ⟨w1.heap.size + 1, 0, none⟩) 1 [.string B] := by
        have := Rw.Sl.one (w1.alloc (.cells #[] 9)) 9 (.string B)
        rw [World.size_alloc] at this
        exact Rw.Sl.grown (R := w1.heap.size) this.drew g3 (fun off _ e => by injection e with e; injection e with e; omega)
      refine hK _ _ (fun _ => KS.out _ b3) ?_
      clear hK K
      refine Gate.next (i := 17) (by kernel_rfl) rfl rfl (fun K hK => ?_)
      refine wp_append_row (.tmp 57) (.tmp 59) 149 rfl strt (w0 := w1) rfl o3 b3 1 rfl SN (by intro u hu; simp at hu; subst hu; rfl) (by rw [HN.out]; omega) ?_
      intro v4 w4 o4 b4 _
      have d4 := (KS.out _ b4).2
      have f4 := FZ.out _ b4
      refine hK _ _ (fun _ => KS.out _ b4) ?_
      have R4 := Lib.hid (FIN.out v4 w4 b4 o4)
      obtain ⟨A4, c4, rfl⟩ := FRM.out v4 w4 o4
      clear hK K o4
      refine Gate.next (i := 18) (by kernel_rfl) rfl rfl (fun K hK => ?_)
      go_simp
      refine hK _ _ (fun _ => KS.out _ b4) ?_
      clear hK K
      refine Gate.next (i := 19) (by kernel_rfl) rfl rfl (fun K hK => ?_)
      go_simp
      refine hK _ _ (fun _ => KS.out _ b4) ?_
      clear hK K
      refine Gate.next (i := 20) (by kernel_rfl) rfl rfl (fun K hK => ?_)
      go_simp
      refine hK _ _ (fun h => absurd rfl h) ?_
      clear hK K
      refine Gate.done (by kernel_rfl) ?_
      go_wp2
      go_ret
      exact R4.out
  · go_simp
    have bS : Below w1.heap.size w1 ((w1.alloc (.cells #[.string B] 9)).drew) := ((Below.refl _ w1).alloc (Nat.le_refl _) _).drew
    refine hK _ _ (fun _ => KS.out _ bS) ?_
    clear hK K
    refine Gate.next (i := 5) (by kernel_rfl) rfl rfl (fun K hK => ?_)
    go_simp
    have bT : Below w1.heap.size w1 (((w1.alloc (.cells #[.string B] 9)).alloc (.cells #[] 9)).drew) := (((Below.refl _ w1).alloc (Nat.le_refl _) _).alloc (by simp) _).drew
    refine hK _ _ (fun _ => KS.out _ bT) ?_
    clear hK K
    refine Gate.next (i := 14) (by kernel_rfl) rfl rfl (fun K hK => ?_)
    have OE : Rw.OwnV (((w1.alloc (.cells #[.string B] 9)).alloc (.cells #[] 9)).drew) 9 w1.heap.size (.slice (some ⟨w1.heap.size + 1, 0, none⟩) 0 0) [] := by
      have := own_empty (w1.alloc (.cells #[.string B] 9)) 9 w1.heap.size (by simp)
      rw [World.size_alloc] at this
      exact this.drew
    refine wp_append_row (.tmp 48) (.tmp 56) 149 rfl strt (w0 := w1) rfl OE bT c rfl (S1.out.below bT) BT.out (by rw [List.length_nil]; omega) ?_
    intro v3 w3 o3 b3 g3
    rw [List.nil_append] at o3
    have SN : Rw.Sl w3 (some ⟨w1.heap.size, 0, none⟩) 1 [.string B] := Rw.Sl.grown (R := w1.heap.size + 1) ((Rw.Sl.one w1 9 (.string B)).alloc _).drew g3 (fun off _ e => by injection e with e; injection e with e; omega)
    refine hK _ _ (fun _ => KS.out _ b3) ?_
    clear hK K
    refine Gate.next (i := 17) (by kernel_rfl) rfl rfl (fun K hK => ?_)
    refine wp_append_row (.tmp 57) (.tmp 59) 149 rfl strt (w0 := w1) rfl o3 b3 1 rfl SN (by intro u hu; simp at hu; subst hu; rfl) (by rw [HN.out]; omega) ?_
    intro v4 w4 o4 b4 _
    have d4 := (KS.out _ b4).2
    have f4 := FZ.out _ b4
    refine hK _ _ (fun _ => KS.out _ b4) ?_
    have R4 := Lib.hid (FIN.out v4 w4 b4 o4)
    obtain ⟨A4, c4, rfl⟩ := FRM.out v4 w4 o4
    clear hK K o4
    refine Gate.next (i := 18) (by kernel_rfl) rfl rfl (fun K hK => ?_)
    go_simp
    refine hK _ _ (fun _ => KS.out _ b4) ?_
    clear hK K
    refine Gate.next (i := 19) (by kernel_rfl) rfl rfl (fun K hK => ?_)
    go_simp
    refine hK _ _ (fun _ => KS.out _ b4) ?_
    clear hK K
    refine Gate.next (i := 20) (by kernel_rfl) rfl rfl (fun K hK => ?_)
    go_simp
    refine hK _ _ (fun h => absurd rfl h) ?_
    clear hK K
    refine Gate.done (by kernel_rfl) ?_
    go_wp2
    go_ret
    exact R4.out
end
end Go.Proofs.YtapklelkcicjlaaGreatDoor.Dw

/-! The document's devices: Crash. No conditions. -/
namespace Go.Proofs.YtapklelkcicjlaaGreatDoor.Dw
set_option maxRecDepth 100000
open Go.RowKit Oc Dm Gt
set_option linter.unusedVariables false
set_option maxRecDepth 100000
/-- what a crash of the document's leaves -/
def RCrashed (w : World) (q2 n : Nat) (S : Nat → Sec) (e : Ending) (w' : World) : Prop := ∃ X gs vs, e = .returned (.tuple #[.pointer (some ⟨X, 0, none⟩), .int .i64 0]) ∧ w.heap.size ≤ X ∧ RvAt w' (Fresh w w') X q2 n S 0 0 gs vs ∧ Below w.heap.size w w'
theorem wrap_le {x : Nat} (h : x ≤ 1000000000) : IntKind.i64.wrap (x : Int) = (x : Int) := by
  unfold IntKind.wrap
  simp [IntKind.signed, IntKind.bits]
  omega
def kmid (S : Nat → Sec) (j i : Nat) : Sec := if i < j then keptS S i else sec0
theorem kmid_step (S : Nat → Sec) (j : Nat) : upd (kmid S j) j ⟨(S j).fixed, [], (S j).rotten⟩ = kmid S (j + 1) := by
  funext i
  unfold upd
  show (if i = j then _ else kmid S j i) = _
  unfold kmid
  by_cases e : i = j
  · subst e
    rw [if_pos rfl, if_pos (by omega)]; rfl
  · rw [if_neg e]
    by_cases h1 : i < j
    · rw [if_pos h1, if_pos (by omega)]
    · rw [if_neg h1, if_neg (by omega)]
section
variable {w w' : World} {G G' : Nat → Prop} {E q q2 n k c : Nat} {S : Nat → Sec} {rd wx gs : Nat} {vs : Nat → Value} {s : PS} {A : Option Addr} {fs : List Int}
theorem rcrash_long (h : RvAt w G E q n S rd wx gs vs) (hf : Fi w A k fs) (hk : (looseOf n S).length < k) : Calls Tryz.prog 100 #[.pointer (some ⟨E, 0, none⟩), .pointer (some ⟨q2, 0, none⟩), .slice A k c] w fun e w' => e = .returned (.tuple #[.pointer none, .int .i64 7]) ∧ Below w.heap.size w w' := by
  have H := Lib.hid h
  clear h hf
  go_enter Tryz.func100, Tryz.ntmps100
  go_wp2_with fail
  refine (rloose_any H.out).mono ?_; rintro e w1 ⟨A1, c1, rfl, lo1, b1⟩
  have B1 := Lib.hid b1
  have hkk : ((looseOf n S).length : Int) < (k : Int) := by omega
  clear lo1 b1 hk
  generalize (looseOf n S).length = k0 at hkk
  go_wp2
  go_ret2
  exact ⟨rfl, B1.out⟩
theorem rcrash_range (h : RvAt w G E q n S rd wx gs vs) (hf : Fi w A k fs) (hk : k ≤ (looseOf n S).length) (J : Nat) (hJ : J < k) (hbad : ¬ Good (looseOf n S) fs J) : Calls Tryz.prog 100 #[.pointer (some ⟨E, 0, none⟩), .pointer (some ⟨q2, 0, none⟩), .slice A k c] w fun e w' => e = .returned (.tuple #[.pointer none, .int .i64 3]) ∧ Below w.heap.size w w' := by
  have H := Lib.hid h
  have HF := Lib.hid hf
  have HB := Lib.hid hbad
  have hn := h.hn
  clear h hf hbad
  go_enter Tryz.func100, Tryz.ntmps100
  go_wp2_with fail
  refine (rloose_any H.out).mono ?_; rintro e w1 ⟨A1, c1, rfl, lo1, b1⟩
  have hk4 := loose_len n S
  obtain ⟨k0, hk0⟩ : ∃ k0, (looseOf n S).length = k0 := ⟨_, rfl⟩
  rw [hk0] at lo1 hk hk4
  rw [hk0]
  have LO1 := Lib.hid lo1
  have B1 := Lib.hid b1
  have F1 := Lib.hid (HF.out.below b1)
  have hdk : decide (k0 < k) = false := by simp; omega
  have hkk : ¬ (k0 : Int) < (k : Int) := by omega
  have HK0 := Lib.hid hk0
  clear lo1 b1 hk0
  go_wp2
  go_loopw [9] (fun p wr => ∃ j : Nat, j ≤ J ∧ p = .int .i64 j ∧ Hid (Below w1.heap.size w1 wr)) (fun p _ => J - (intOf p).toNat)
  case atStart => exact ⟨0, Nat.zero_le _, rfl, Below.refl _ _⟩
  case round =>
    obtain ⟨j, hj, rfl, BJ⟩ := hrel
    have hjk : j < k := by omega
    have hjk0 : (j : Int) < (k0 : Int) := by omega
    have hjk1 : (j : Int) < (k : Int) := by omega
    obtain ⟨f, hf⟩ : ∃ f, fs[j]? = some f := ⟨_, List.getElem?_eq_getElem (by rw [F1.out.len]; exact hjk)⟩
    obtain ⟨x, hx⟩ : ∃ x, (looseOf n S)[j]? = some x := ⟨_, List.getElem?_eq_getElem (by rw [HK0.out]; omega)⟩
    obtain ⟨fb, fo, rfl, hfc⟩ := (F1.out.below BJ.out).at_ hf
    obtain ⟨lb, rfl, hl0, hl1⟩ := (LO1.out.below BJ.out).at_ hx
    have HFX := Lib.hid hf
    have HXX := Lib.hid hx
    clear hf hx
    by_cases h1 : f < 0
    · go_wp2_with fail
      go_quiet (fail)
      go_wp2
      go_ret2
      exact ⟨rfl, bthen B1.out (below_drewN BJ.out _)⟩
    · by_cases h2 : (x.2 : Int) < f
      · go_wp2_with fail
        go_quiet (fail)
        go_wp2
        go_ret2
        exact ⟨rfl, bthen B1.out (below_drewN BJ.out _)⟩
      · have hjJ : j ≠ J := fun e => HB.out (by
          subst e
          intro f' x' hf' hx'
          rw [HFX.out] at hf'
          rw [HXX.out] at hx'
          rw [← Option.some.inj hf', ← Option.some.inj hx']
          omega)
        have hd : decide ((x.2 : Int) < f) = false := by simp; omega
        go_wp2_with fail
        go_quiet (fail)
        go_wp2
        go_roundw
        case rel => exact ⟨j + 1, by omega, by go_num, below_drewN BJ.out _⟩
        case measure => simp [intOf]; omega
set_option maxHeartbeats 8000000 in
theorem rcrash_ok (h : RvAt w G E q n S rd wx gs vs) (hN9 : ∀ i, i < n → (S i).loose.length ≤ 1000000000) (hf : Fi w A k fs) (hk : k ≤ (looseOf n S).length) (hgood : ∀ j, j < k → Good (looseOf n S) fs j) : Calls Tryz.prog 100 #[.pointer (some ⟨E, 0, none⟩), .pointer (some ⟨q2, 0, none⟩), .slice A k c] w (RCrashed w q2 n (crashTo n S fs k)) := by
  have H := Lib.hid h
  have HF := Lib.hid hf
  have HG := Lib.hid hgood
  have HN9 := Lib.hid hN9
  have hn := h.hn
  clear h hf hgood hN9
  go_enter Tryz.func100, Tryz.ntmps100
  go_wp2_with fail
  refine (rloose_any H.out).mono ?_; rintro e w1 ⟨A1, c1, rfl, lo1, b1⟩
  have hk4 := loose_len n S
  obtain ⟨k0, hk0⟩ : ∃ k0, (looseOf n S).length = k0 := ⟨_, rfl⟩
  rw [hk0] at lo1 hk hk4
  rw [hk0]
  have LO1 := Lib.hid lo1
  have B1 := Lib.hid b1
  have F1 := Lib.hid (HF.out.below b1)
  have H1 := Lib.hid (H.out.below b1)
  have hdk : decide (k0 < k) = false := by simp; omega
  have hkk : ¬ (k0 : Int) < (k : Int) := by omega
  have HK0 := Lib.hid hk0
  clear lo1 b1 hk0 H HF
  go_wp2
  go_loopw [9] (fun p wr => ∃ j : Nat, j ≤ k ∧ p = .int .i64 j ∧ Hid (Below w1.heap.size w1 wr)) (fun p _ => k - (intOf p).toNat)
  case atStart => exact ⟨0, Nat.zero_le _, rfl, Below.refl _ _⟩
  case round =>
    obtain ⟨j, hj, rfl, BJ⟩ := hrel
    by_cases hjk : j < k
    · have hjk0 : (j : Int) < (k0 : Int) := by omega
      have hjk1 : (j : Int) < (k : Int) := by omega
      obtain ⟨f, hf⟩ : ∃ f, fs[j]? = some f := ⟨_, List.getElem?_eq_getElem (by rw [F1.out.len]; exact hjk)⟩
      obtain ⟨x, hx⟩ : ∃ x, (looseOf n S)[j]? = some x := ⟨_, List.getElem?_eq_getElem (by rw [HK0.out]; omega)⟩
      obtain ⟨h1, h2⟩ := HG.out j hjk f x hf hx
      obtain ⟨fb, fo, rfl, hfc⟩ := (F1.out.below BJ.out).at_ hf
      obtain ⟨lb, rfl, hl0, hl1⟩ := (LO1.out.below BJ.out).at_ hx
      have hd : decide ((x.2 : Int) < f) = false := by simp; omega
      have h3 : ¬ f < 0 := by omega
      have h4 : ¬ (x.2 : Int) < f := by omega
      clear hf hx h1 h2
      go_wp2_with fail
      go_quiet (fail)
      go_wp2
      go_roundw
      case rel => exact ⟨j + 1, by omega, by go_num, below_drewN BJ.out _⟩
      case measure => simp [intOf]; omega
    · have hjk1 : ¬ (j : Int) < (k : Int) := by omega
      have HJ := Lib.hid (H1.out.below BJ.out)
      have LOJ := Lib.hid (LO1.out.below BJ.out)
      have FJ := Lib.hid (F1.out.below BJ.out)
      have B1J := Lib.hid (bthen B1.out BJ.out)
      clear LO1 F1 H1 B1 BJ
      obtain ⟨c0, cc1, c2, c3, fr⟩ := HJ.out.cells
      clear hj hjk
      go_wp2_with fail
      refine (rnew_any _ n q2 hn).mono ?_; rintro e w2 ⟨X, gx, rfl, hX, rv2, b2⟩
      have X2 := Lib.hid rv2
      have B2 := Lib.hid b2
      have HX := Lib.hid hX
      have HGX : Hid (wr.heap.size ≤ gx) := rv2.inG.2.1
      clear rv2 b2 hX c0 cc1 c2 c3 fr hjk1
      obtain ⟨wo, hwo⟩ : ∃ wo, wo = wr := ⟨_, rfl⟩
      subst hwo
      have hneX := X2.out.ne.1
      have LX : Hid (X < w2.heap.size ∧ gx < w2.heap.size) := ⟨X2.out.bound X X2.out.inG.1, X2.out.bound gx X2.out.inG.2⟩
      have OLD : Hid (∀ w3, Chg (fun a => a = gx) w2 w3 → Below wo.heap.size wo w3) := fun w3 hc => B2.out.trans (hc.below B2.out.size (fun a ha e => by have := HGX.out; omega))
      have hEg : gx ≠ E := fun e => by have := HJ.out.bound E HJ.out.inG.1; have := HGX.out; omega
      have hgg : gx ≠ gs := fun e => by have := HJ.out.bound gs HJ.out.inG.2; have := HGX.out; omega
      have hEg2 : E ≠ gx := fun e => hEg e.symm
      have hgg2 : gs ≠ gx := fun e => hgg e.symm
      have hXg2 : gx ≠ X := fun e => hneX e.symm
      go_wp2
      go_loopw [11] (fun p wr => ∃ j : Nat, j ≤ n ∧ p = .int .i64 (j : Int) ∧ Hid (∃ vx, RvAt wr (Fresh wo w2) X q2 n (kmid S j) 0 0 gx vx) ∧ Hid (Chg (fun a => a = gx) w2 wr)) (fun p _ => n - (intOf p).toNat)
      case atStart => exact ⟨0, Nat.zero_le _, rfl, ⟨_, X2.out.congrS (fun i _ => if_neg (by omega))⟩, Chg.refl _ _⟩
      case round =>
        obtain ⟨j, hj, rfl, XJ0, CJ⟩ := hrel
        clear X2
        obtain ⟨vx, xj⟩ := XJ0.out
        have XJ := Lib.hid xj
        have BJ := Lib.hid (OLD.out _ CJ.out)
        have EJ := Lib.hid (HJ.out.below BJ.out)
        obtain ⟨_, x1, _, _, _⟩ := xj.cells
        obtain ⟨_, e1, _, _, _⟩ := EJ.out.cells
        clear XJ0 xj
        by_cases hlt : j < n
        · have hlt2 : (j : Int) < (n : Int) := by omega
          obtain ⟨s0, s1, s2, sf⟩ := EJ.out.sec hlt
          obtain ⟨t0, t1, t2, tf⟩ := XJ.out.sec hlt
          have EB0 : Hid (tx (S j).fixed = .string (bstr (S j).fixed)) := rfl
          have s0' : wr.cell? ⟨gs, j * 3, none⟩ = some (.string (bstr (S j).fixed)) := s0
          clear s0 s1
          obtain ⟨B0, hB0⟩ : ∃ B, bstr (S j).fixed = B := ⟨_, rfl⟩
          rw [hB0] at EB0 s0'
          obtain ⟨r0, hr0⟩ : ∃ r, (S j).rotten = r := ⟨_, rfl⟩
          have HR0 := Lib.hid hr0
          rw [hr0] at s2
          clear hB0 hr0
          go_wp2_with fail
          go_region_held (fun w' => w'.cell? ⟨X, 1, none⟩ = some (.slice (some ⟨gx, 0, none⟩) n n) ∧ w'.cell? ⟨E, 1, none⟩ = some (.slice (some ⟨gs, 0, none⟩) n n) ∧ w'.cell? ⟨gs, j * 3, none⟩ = some (.string B0) ∧ w'.cell? ⟨gs, j * 3 + 2, none⟩ = some (.bool r0)) (go_keep) (fail)
          all_goals
            go_wp2
            go_roundw
            case rel =>
              have KST := kmid_step S j
              rw [HR0.out] at KST
              have P3 := put3_at XJ.out hlt ⟨(S j).fixed, [], r0⟩ rfl EB0.out
              exact ⟨j + 1, by omega, by go_num, ⟨_, KST ▸ P3.1⟩, CJ.out.trans P3.2.2 (fun i _ e => e)⟩
            case measure => simp [intOf]; omega
        · have hlt2 : ¬ (j : Int) < (n : Int) := by omega
          have X3 : Hid (RvAt wr (Fresh wo w2) X q2 n (crashTo n S fs 0) 0 0 gx vx) := XJ.out.congrS (fun i hi => (if_pos (by omega) : kmid S j i = keptS S i).symm)
          have C3 := CJ
          obtain ⟨w3, hw3⟩ : ∃ w3, w3 = wr := ⟨_, rfl⟩
          subst hw3
          clear XJ CJ BJ EJ hj hlt
          go_wp2
          clear x1 e1
          go_loopw [12] (fun p wr => ∃ i : Nat, i ≤ k ∧ p = .int .i64 (i : Int) ∧ Hid (∃ vx, RvAt wr (Fresh wo w2) X q2 n (crashTo n S fs i) 0 0 gx vx) ∧ Hid (Chg (fun a => a = gx) w2 wr)) (fun p _ => k - (intOf p).toNat)
          case atStart => exact ⟨0, Nat.zero_le _, rfl, ⟨_, X3.out⟩, C3⟩
          case round =>
            obtain ⟨i, hi, rfl, XJ0, CJ⟩ := hrel
            clear X3 C3
            obtain ⟨vx, xj⟩ := XJ0.out
            have XJ := Lib.hid xj
            have BJ := Lib.hid (OLD.out _ CJ.out)
            have EJ := Lib.hid (HJ.out.below BJ.out)
            obtain ⟨_, x1, _, _, _⟩ := xj.cells
            obtain ⟨_, e1, _, _, _⟩ := EJ.out.cells
            clear XJ0 xj
            by_cases hik : i < k
            · have hik1 : (i : Int) < (k : Int) := by omega
              have hik0 : (i : Int) < (k0 : Int) := by omega
              obtain ⟨f, hf⟩ : ∃ f, fs[i]? = some f := ⟨_, List.getElem?_eq_getElem (by rw [FJ.out.len]; exact hik)⟩
              obtain ⟨x, hx⟩ : ∃ x, (looseOf n S)[i]? = some x := ⟨_, List.getElem?_eq_getElem (by rw [HK0.out]; omega)⟩
              obtain ⟨h1, h2⟩ := HG.out i hik f x hf hx
              obtain ⟨fb, fo, rfl, hfc0⟩ := FJ.out.at_ hf
              obtain ⟨lb, rfl, hl00, hl10⟩ := LOJ.out.at_ hx
              have lfb := World.block_lt_of_cell? wo _ hfc0
              have llb := World.block_lt_of_cell? wo _ hl00
              have hfc := (BJ.out.cell (p := ⟨fb, fo + i, none⟩) lfb).trans hfc0
              have hl0 := (BJ.out.cell (p := ⟨lb, i * 2, none⟩) llb).trans hl00
              have hfg : gx ≠ fb := fun e => by have := HGX.out; have : fb < wo.heap.size := lfb; omega
              have hlg : gx ≠ lb := fun e => by have := HGX.out; have : lb < wo.heap.size := llb; omega
              have hfg2 : fb ≠ gx := fun e => hfg e.symm
              have hlg2 : lb ≠ gx := fun e => hlg e.symm
              have HFX := Lib.hid hf
              have HXX := Lib.hid hx
              obtain ⟨m1, m2, m3⟩ := mem_loose.1 (List.mem_of_getElem? hx)
              clear hf hx hfc0 hl00 hl10 lfb llb
              obtain ⟨xa, xm⟩ := x
              dsimp only at *
              by_cases h3 : 0 < f
              · have HYes := Lib.hid (crashTo_yes HFX.out HXX.out h3)
                obtain ⟨φ, hφf⟩ : ∃ φ : Nat, f - 1 = (φ : Int) := ⟨(f - 1).toNat, by omega⟩
                have ee : (f - 1).toNat = φ := by omega
                rw [ee] at HYes
                obtain ⟨A9, c9, hv, hlc, hcm, hsl0, hG9⟩ := HJ.out.loose xa m1
                obtain ⟨_, s1, _, sf⟩ := EJ.out.sec m1
                rw [hv] at s1
                have hφ : φ < (S xa).loose.length := by omega
                obtain ⟨b9, o9, rfl, hc90⟩ := Rw.Sl.at_ hsl0 (k := φ) (u := .string (bstr ((S xa).loose.getD φ []))) (by rw [List.getElem?_map, List.getElem?_eq_getElem hφ]; simp [tx, List.getD, List.getElem?_eq_getElem hφ])
                have lb9 := World.block_lt_of_cell? wo _ hc90
                have hc9 := (BJ.out.cell (p := ⟨b9, o9 + φ, none⟩) lb9).trans hc90
                have hbg : gx ≠ b9 := fun e => by have := HGX.out; have : b9 < wo.heap.size := lb9; omega
                have hbg2 : b9 ≠ gx := fun e => hbg e.symm
                obtain ⟨t0, t1, t2, tf⟩ := XJ.out.sec m1
                have EB0 : Hid (tx ((S xa).loose.getD φ []) = .string (bstr ((S xa).loose.getD φ []))) := rfl
                obtain ⟨B0, hB0⟩ : ∃ B, bstr ((S xa).loose.getD φ []) = B := ⟨_, rfl⟩
                rw [hB0] at EB0 hc9
                obtain ⟨l9, hl9⟩ : ∃ l, (S xa).loose.length = l := ⟨_, rfl⟩
                rw [hl9] at s1 hφ
                have hφ2 : (φ : Int) < (l9 : Int) := by omega
                have hxa : (xa : Int) < (n : Int) := by omega
                have hφ9 : φ ≤ 1000000000 := by have := HN9.out xa m1; omega
                have hwrap : IntKind.i64.wrap (φ : Int) = (φ : Int) := wrap_le hφ9
                have M1 := Lib.hid m1
                clear hv hlc hcm hsl0 hG9 hc90 lb9 hB0 hl9 m2 m3 ee h1 h2 m1
                go_wp2_with fail
                refine gate (fun w' => w'.cell? ⟨X, 1, none⟩ = some (.slice (some ⟨gx, 0, none⟩) n n) ∧ w'.cell? ⟨E, 1, none⟩ = some (.slice (some ⟨gs, 0, none⟩) n n) ∧ w'.cell? ⟨lb, i * 2, none⟩ = some (.int .i64 (xa : Int)) ∧ w'.cell? ⟨fb, fo + i, none⟩ = some (.int .i64 f) ∧ w'.cell? ⟨gs, xa * 3 + 1, none⟩ = some (.slice (some ⟨b9, o9, none⟩) l9 c9) ∧ w'.cell? ⟨b9, o9 + φ, none⟩ = some (.string B0)) 30 [0, 1, 2, 3, 4, 5, 6, 7, 8, 9, 10, 11, 12, 13, 14, 15, 16, 17, 18, 19, 20, 21, 22, 23, 24, 25, 26, 27, 28, 29] 1 (by kernel_rfl) (by kernel_rfl) (by kernel_rfl) rfl ?_ ⟨x1, e1, hl0, hfc, s1, hc9⟩ ?_
                · intro d v c a w h
                  cases d <;> exact h
                iterate 25
                  refine yields_step ?_ rfl rfl ?_ ?_
                  rotate_left
                  · intro w' hS; obtain ⟨hS1, hS2, hS3, hS4, hS5, hS6⟩ := hS; go_simp; rfl
                refine yields_step (.int .i64 (φ : Int)) rfl rfl ?_ ?_
                · intro w' hS
                  go_simp
                iterate 4
                  refine yields_step ?_ rfl rfl ?_ ?_
                  rotate_left
                  · intro w' hS; obtain ⟨hS1, hS2, hS3, hS4, hS5, hS6⟩ := hS; go_simp; rfl
                refine Gate.next (i := 30) (by kernel_rfl) rfl rfl (fun K hK => ?_)
                go_simp
                refine hK _ _ (fun h => absurd rfl h) ?_
                clear hK K
                refine Gate.done (by kernel_rfl) ?_
                go_wp2
                go_roundw
                case rel =>
                  have P3 := put3_at XJ.out M1.out ⟨(S xa).loose.getD φ [], [], false⟩ rfl EB0.out
                  exact ⟨i + 1, by omega, by go_num, ⟨_, HYes.out ▸ P3.1⟩, CJ.out.trans P3.2.2 (fun i _ e => e)⟩
                case measure => simp [intOf]; omega
              · have HNo := Lib.hid (crashTo_no HFX.out HXX.out h3)
                go_wp2
                go_roundw
                case rel => exact ⟨i + 1, by omega, by go_num, ⟨vx, HNo.out ▸ XJ.out⟩, CJ⟩
                case measure => simp [intOf]; omega
            · have hik1 : ¬ (i : Int) < (k : Int) := by omega
              have hIk : Hid (i = k) := Lib.hid (by omega)
              clear hik hi
              go_wp2
              go_ret2
              refine ⟨X, gx, vx, rfl, Nat.le_trans B1J.out.size HX.out, ?_, bthen B1J.out BJ.out⟩
              have hXJ := XJ.out
              rw [hIk.out] at hXJ
              refine hXJ.frame (fun a x => ⟨Nat.le_trans B1J.out.size x.1, Nat.lt_of_lt_of_le x.2 CJ.out.size⟩) (fun a x => x.2) (fun _ _ => rfl)
end
end Go.Proofs.YtapklelkcicjlaaGreatDoor.Dw

/-! What a crash makes of a sector: it is as it was fixed, or as one of its loose writes says; behind a flush a crash changes nothing: plain facts. No conditions. -/
namespace Go.Proofs.YtapklelkcicjlaaGreatDoor.Dw
set_option maxRecDepth 100000
open Go.RowKit Oc Dm
set_option linter.unusedVariables false
/-- as it was fixed, or as one of its loose writes says -/
theorem crashTo_one {n : Nat} {S : Nat → Sec} {fs : List Int} (hg : ∀ j, Good (looseOf n S) fs j) : ∀ k i, (crashTo n S fs k i).fixed = (S i).fixed ∨ ∃ j, j < (S i).loose.length ∧ (crashTo n S fs k i).fixed = (S i).loose.getD j []
  | 0, i => .inl rfl
  | k + 1, i => by
    rw [crashTo]
    cases hf : fs[k]? with
    | none => exact crashTo_one hg k i
    | some f =>
      cases hx : (looseOf n S)[k]? with
      | none => exact crashTo_one hg k i
      | some x =>
        dsimp only
        by_cases h : 0 < f
        · rw [if_pos h]
          by_cases e : i = x.1
          · subst e
            rw [upd_same]
            obtain ⟨_, _, m3⟩ := mem_loose.1 (List.mem_of_getElem? hx)
            obtain ⟨_, h2⟩ := hg k f x hf hx
            exact .inr ⟨(f - 1).toNat, by omega, rfl⟩
          · rw [upd_other _ _ e]
            exact crashTo_one hg k i
        · rw [if_neg h]
          exact crashTo_one hg k i
theorem flushS_loose (S : Nat → Sec) (i : Nat) : (flushS S i).loose = [] := by
  unfold flushS
  split
  · assumption
  · rfl
theorem flushS_stands (S : Nat → Sec) (i : Nat) : (flushS S i).stands = (flushS S i).fixed := Sec.stands_fixed (flushS_loose S i)
theorem looseOf_flush (n : Nat) (S : Nat → Sec) : looseOf n (flushS S) = [] := by
  unfold looseOf
  rw [List.filterMap_eq_nil_iff]
  intro i _
  rw [if_pos (flushS_loose S i)]
theorem crash_flush (n : Nat) (S : Nat → Sec) (i : Nat) : (crashTo n (flushS S) [] 0 i).stands = (flushS S i).stands := by
  rw [flushS_stands]
  exact Sec.stands_fixed rfl
end Go.Proofs.YtapklelkcicjlaaGreatDoor.Dw
