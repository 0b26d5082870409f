/-
  Contracts of Write. No conditions.
-/
import Derived.Test.YtdkniholeaiemaaDvWrite2
namespace Go.Proofs.Ytdkniholeaiemaa.W
open Go.RowKit Oc Dm Gt
set_option linter.unusedVariables false
section
variable {w w' : World} {F : Nat → Prop} {D p n N : Nat} {S : Nat → Sec} {rd wr fx m r : Nat} {g : Nat → Option Pl} {s : PS} {A : Option Addr} {l c : Nat} {xs : List UInt8}
theorem write_off (h : DvAt w F D p n N S rd wr fx m r g) (hp : Pw w p s) (ho : s.off = true) (z : Int) (u : Value) : Calls Try.prog 21 #[.pointer (some ⟨D, 0, none⟩), .int .i64 z, u] w fun e w' => e = .returned (.int .i64 80) ∧ w = w' := by
  have H := Lib.hid h
  have HP := Lib.hid hp
  clear h hp
  go_enter Try.func21, Try.ntmps21
  go_wp2_with fail
  refine (ready_any H.out HP.out).mono ?_; rintro e w' ⟨rfl, rfl⟩
  rw [ho]
  go_wp2
  go_ret
  exact ⟨rfl, rfl⟩
theorem write_no (h : DvAt w F D p n N S rd wr fx m r g) (hp : Pw w p s) (ho : s.off = false) (z : Int) (u : Value) (hz : z < 0 ∨ (n : Int) ≤ z) : Calls Try.prog 21 #[.pointer (some ⟨D, 0, none⟩), .int .i64 z, u] w fun e w' => e = .returned (.int .i64 3) ∧ w = w' := by
  have H := Lib.hid h
  have HP := Lib.hid hp
  have HZ := Lib.hid hz
  clear h hp hz
  go_enter Try.func21, Try.ntmps21
  go_wp2_with fail
  refine (ready_any H.out HP.out).mono ?_; rintro e w' ⟨rfl, rfl⟩
  rw [ho]
  go_wp2_with fail
  refine (has_no H.out z HZ.out).mono ?_; rintro e w' ⟨rfl, rfl⟩
  go_wp2
  go_ret
  exact ⟨rfl, rfl⟩
theorem write_arg (h : DvAt w F D p n N S rd wr fx m r g) (hp : Pw w p s) (ho : s.off = false) (i : Nat) (hi : i < n) (hl : l ≠ 64) : Calls Try.prog 21 #[.pointer (some ⟨D, 0, none⟩), .int .i64 (i : Int), .slice A l c] w fun e w' => e = .returned (.int .i64 1) ∧ w = w' := by
  have H := Lib.hid h
  have HP := Lib.hid hp
  clear h hp
  have hl2 : ¬ ((l : Int) = 64) := by omega
  go_enter Try.func21, Try.ntmps21
  go_wp2_with fail
  refine (ready_any H.out HP.out).mono ?_; rintro e w' ⟨rfl, rfl⟩
  rw [ho]
  go_wp2_with fail
  refine (has_yes H.out i hi).mono ?_; rintro e w' ⟨rfl, rfl⟩
  go_wp2
  go_ret
  exact ⟨rfl, rfl⟩
theorem write_goes (h : DvAt w F D p n N S rd wr fx m r g) (hp : Pw w p s) (hd : s.done < 1000000000000) (ho : s.off = false) (i : Nat) (hi : i < n) (hg : s.goes = true) : Calls Try.prog 21 #[.pointer (some ⟨D, 0, none⟩), .int .i64 (i : Int), .slice A 64 c] w (PTurned w p s.spend (.int .i64 80)) := by
  have H := Lib.hid h
  have HP := Lib.hid hp
  obtain ⟨c0, c1, c2, c3, c4, c5, fr⟩ := h.cells
  clear h hp
  go_enter Try.func21, Try.ntmps21
  go_wp2_with fail
  refine (ready_any H.out HP.out).mono ?_; rintro e w' ⟨rfl, rfl⟩
  rw [ho]
  go_wp2_with fail
  refine (has_yes H.out i hi).mono ?_; rintro e w' ⟨rfl, rfl⟩
  go_wp2_with fail
  refine (spend_any HP.out hd).mono ?_; rintro e w' ⟨rfl, p1, g1, z1⟩
  rw [hg]
  have P1 := Lib.hid p1
  have G1 := Lib.hid g1
  have Z1 := Lib.hid z1
  clear p1 g1 z1
  go_wp2
  go_ret
  exact ⟨rfl, P1.out, G1.out, Z1.out⟩
/-- what a writing call leaves: the power has turned, and the device -/
def Spent (w : World) (F : Nat → Prop) (D p n N : Nat) (S : Nat → Sec) (rd wr : Nat) (s : PS) (v : Value) (e : Ending) (w' : World) : Prop := e = .returned v ∧ Pw w' p s ∧ Dv w' (Ext F w w') D p n N S rd wr ∧ Chg (fun k => F k ∨ k = p) w w'
theorem pw_ne (h : DvAt w F D p n N S rd wr fx m r g) (hp : Pw w p s) : D ≠ p := fun e => by
  have := h.head
  rw [e, hp.head] at this
  cases this
theorem write_io (h : DvAt w F D p n N S rd wr fx m r g) (hF : ¬ F p) (hp : Pw w p s) (hd : s.done < 1000000000000) (ho : s.off = false) (i : Nat) (hi : i < n) (hg : s.goes = false) (hw : wr % 2 = 1) :
    Calls Try.prog 21 #[.pointer (some ⟨D, 0, none⟩), .int .i64 (i : Int), .slice A 64 c] w (Spent w F D p n N S rd (wr / 2) s.spend (.int .i64 81)) := by
  have H := Lib.hid h
  have HP := Lib.hid hp
  have hne := pw_ne h hp
  obtain ⟨c0, c1, c2, c3, c4, c5, fr⟩ := h.cells
  have hwr := h.hwr
  clear h hp
  have hb : (wr % 2 == 1) = true := by simp [hw]
  go_enter Try.func21, Try.ntmps21
  go_wp2_with fail
  refine (ready_any H.out HP.out).mono ?_; rintro e w' ⟨rfl, rfl⟩
  rw [ho]
  go_wp2_with fail
  refine (has_yes H.out i hi).mono ?_; rintro e w' ⟨rfl, rfl⟩
  go_wp2_with fail
  refine (spend_any HP.out hd).mono ?_; rintro e w1 ⟨rfl, p1, g1, z1⟩
  rw [hg]
  have H1 := Lib.hid (H.out.kept (G := fun k => k = p) (Chg.of_grown g1 (fun k e _ => by injection e with e; exact e.symm)) (fun k x e => hF (e ▸ x)))
  have P1 := Lib.hid p1
  have G1 := Lib.hid g1
  have Z1 := Lib.hid z1
  clear p1 g1 z1 c0 c1 c2 c3 c4 c5 fr
  obtain ⟨c0, c1, c2, c3, c4, c5, fr⟩ := H1.out.cells
  go_wp2_with fail
  refine (next_any w1 D 5 wr hwr c5 (fr 5)).mono ?_; rintro e w' ⟨rfl, rfl⟩
  rw [hb]
  go_wp2
  go_ret
  refine ⟨rfl, P1.out.heap (heap_setCell_other w1 _ p _ hne.symm), ⟨_, _, _, _, (H1.out.set5 (wr / 2) (Nat.lt_of_le_of_lt (Nat.div_le_self _ _) hwr)).ext (by rw [size_cell]; exact G1.out.size)⟩, ?_⟩
  exact (Chg.of_grown G1.out (fun k e _ => .inr (by injection e with e; exact e.symm))).trans (Chg.of_grown (grown_cell ..) (fun k e _ => .inl (by injection e with e; subst e; exact H.out.inF.1))) (fun _ _ x => x)
theorem run_arrayAt (A : Option Addr) (c : Nat) (w : World) : (Instr.arrayAt 95 (.slice A 64 c)).run Try.prog w = .ok (.pointer A) w := by
  simp [Instr.arrayAt, run_underlying Try.underlying95, Result.andThen]
set_option maxRecDepth 100000 in
set_option maxHeartbeats 4000000 in
theorem write_ok (h : DvAt w F D p n N S rd wr fx m r g) (hN : N + 1 ≤ 1000000000) (hF : ¬ F p) (hp : Pw w p s) (hd : s.done < 1000000000000) (ho : s.off = false) (i : Nat) (hi : i < n) (hg : s.goes = false) (hw : wr % 2 = 0) {b off : Nat} (hA : A = some ⟨b, off, none⟩) (hx : Oct w A 64 xs) (hbp : b ≠ p) (hbF : ¬ F b) :
    Calls Try.prog 21 #[.pointer (some ⟨D, 0, none⟩), .int .i64 (i : Int), .slice A 64 c] w (Spent w F D p n (N + 1) (W.wrote S i xs) rd (wr / 2) s.spend (.int .i64 0)) := by
  subst hA
  have H := Lib.hid h
  have HP := Lib.hid hp
  have hne := pw_ne h hp
  have hn := h.hn
  have HX := Lib.hid hx
  obtain ⟨c0, c1, c2, c3, c4, c5, fr⟩ := h.cells
  have hwr := h.hwr
  clear h hp hx
  have hb : (wr % 2 == 1) = false := by simp [hw]
  go_enter Try.func21, Try.ntmps21
  go_wp2_with fail
  refine (ready_any H.out HP.out).mono ?_; rintro e w' ⟨rfl, rfl⟩
  rw [ho]
  go_wp2_with fail
  refine (has_yes H.out i hi).mono ?_; rintro e w' ⟨rfl, rfl⟩
  go_wp2_with fail
  refine (spend_any HP.out hd).mono ?_; rintro e w1 ⟨rfl, p1, g1, z1⟩
  rw [hg]
  have H1 := Lib.hid (H.out.kept (G := fun k => k = p) (Chg.of_grown g1 (fun k e _ => by injection e with e; exact e.symm)) (fun k x e => hF (e ▸ x)))
  have P1 := Lib.hid p1
  have G1 := Lib.hid g1
  have Z1 := Lib.hid z1
  have X1 := Lib.hid (HX.out.grown g1 (fun o _ e => by injection e with e; injection e with e; exact hbp e))
  clear p1 g1 z1 c0 c1 c2 c3 c4 c5 fr
  obtain ⟨c0, c1, c2, c3, c4, c5, fr⟩ := H1.out.cells
  go_wp2_with fail
  refine (next_any w1 D 5 wr hwr c5 (fr 5)).mono ?_; rintro e w' ⟨rfl, rfl⟩
  rw [hb]
  have H2 := Lib.hid (H1.out.set5 (wr / 2) (Nat.lt_of_le_of_lt (Nat.div_le_self _ _) hwr))
  have P2 := Lib.hid (P1.out.heap (heap_setCell_other w1 ⟨D, 5, none⟩ p (.int .u64 ((wr / 2 : Nat) : Int)) hne.symm))
  have X2 := Lib.hid (X1.out.grown (grown_cell w1 D 5 (.int .u64 ((wr / 2 : Nat) : Int))) (fun o _ e => by injection e with e; injection e with e; exact hbF (e ▸ H.out.inF.1)))
  have C2 := Lib.hid (show Chg (fun k => F k ∨ k = p) w (w1.setCell ⟨D, 5, none⟩ (.int .u64 ((wr / 2 : Nat) : Int))) from (Chg.of_grown G1.out (fun k e _ => .inr (by injection e with e; exact e.symm))).trans (Chg.of_grown (grown_cell ..) (fun k e _ => .inl (by injection e with e; subst e; exact H.out.inF.1))) (fun _ _ x => x))
  have Z2 := Lib.hid ((size_cell w1 ⟨D, 5, none⟩ (.int .u64 ((wr / 2 : Nat) : Int))).trans Z1.out)
  generalize w1.setCell ⟨D, 5, none⟩ (.int .u64 ((wr / 2 : Nat) : Int)) = w2 at H2 P2 X2 C2 Z2 ⊢
  clear c0 c1 c2 c3 c4 c5 fr X1 H1 G1 P1 Z1
  obtain ⟨c0, c1, c2, c3, c4, c5, fr⟩ := H2.out.cells
  obtain ⟨v, hv⟩ : ∃ v, slv (g i) = v := ⟨_, rfl⟩
  have HV := Lib.hid hv
  clear hv
  go_wp2_with fail
  refine gate (fun w' => w'.cell? ⟨D, 2, none⟩ = some (.map (some m)) ∧ LM w' m N n g ∧ Oct w' (some ⟨b, off, none⟩) 64 xs) 16 [0, 1, 2, 3, 4, 5, 6, 7, 8, 9, 10, 11, 12, 13] 3 (by kernel_rfl) (by kernel_rfl) (by kernel_rfl) rfl ?_ ⟨c2, H2.out.lm, X2.out⟩ ?_
  · intro d v c a w h
    cases d <;> exact h
  iterate 10
    refine yields_step ?_ rfl rfl ?_ ?_
    rotate_left
    · intro w' hS; obtain ⟨hS1, hS2⟩ := hS; go_simp; rfl
  refine yields_step v rfl rfl (fun w' hS => by refine ex_look (m := m) (i := i) rfl ?_ ?_ hS.2.1 hi hn HV.out <;> go_simp) ?_
  refine yields_step ?_ rfl rfl ?_ ?_
  rotate_left
  · intro w' hS; obtain ⟨hS1, hS2⟩ := hS; go_simp; rfl
  have harr := run_arrayAt (some ⟨b, off, none⟩) c
  refine yields_step ?_ rfl rfl ?_ ?_
  rotate_left
  · intro w' hS; obtain ⟨hS1, hS2⟩ := hS; go_simp; rfl
  refine yields_step (sv xs) rfl rfl (fun w' hS => by refine ex_load (b := b) (off := off) rfl ?_ hS.2.2; go_simp) ?_
  have hxl := HX.out.len
  refine Gate.next (i := 14) (by kernel_rfl) rfl rfl (fun K hK => ?_)
  refine W_build (xs := xs) rfl (by go_simp) hxl ?_
  intro w3 r3 g3' z3
  have g3 : w2.grownBy w3 none := ⟨g3'.os, g3'.tape, g3'.output, g3'.size, g3'.block⟩
  have H3 := H2.out.grown0 g3
  have X3 := X2.out.grown_own g3 (fun g e => by cases e)
  refine hK _ _ (fun _ => ⟨H3.cells.2.2.1, H3.lm, X3⟩) ?_
  clear hK K g3' c0 c1 c2 c3 c4 c5 fr
  refine Gate.next (i := 15) (by kernel_rfl) rfl rfl (fun K hK => ?_)
  refine W_append (t := g i) (xs := xs) (b := w2.heap.size) (f := fun j => (S i).loose.getD j []) rfl HV.out (by go_simp) (by go_simp) (fun t et => (H3.some_ i t hi et).2.2.1) r3 (by rw [H3.len_eq hi]; exact Nat.le_trans (H3.hl i hi) H3.hN) ?_
  intro t' w4 e4 r4 g4 b4
  have hm4 : w4.heap[m]? = w3.heap[m]? := g4.block m H3.lm.lt (fun e => by
    cases hgi : g i with
    | none => rw [hgi] at e; cases e
    | some t =>
      rw [hgi] at e
      obtain ⟨_, _, ⟨cur, hc, _⟩, _⟩ := H3.some_ i t hi hgi
      obtain ⟨_, ⟨es, cl, hb2, _⟩, _⟩ := H3.lm
      injection e with e
      rw [e, hc] at hb2
      cases hb2)
  have hD4 : w4.heap[D]? = w3.heap[D]? := g4.block D (lt_of_heap H3.head) (fun e => by
    cases hgi : g i with
    | none => rw [hgi] at e; cases e
    | some t =>
      rw [hgi] at e
      obtain ⟨_, _, ⟨cur, hc, _⟩, _⟩ := H3.some_ i t hi hgi
      have hb2 := H3.head
      injection e with e
      rw [e, hc] at hb2
      cases hb2)
  have X4 : Oct w4 (some ⟨b, off, none⟩) 64 xs := X3.heap (fun b' off' _ e => by
    injection e with e
    injection e with e1 e2
    subst e1
    exact g4.block b (X3.lt (by decide) rfl) (fun e3 => by
      cases hgi : g i with
      | none => rw [hgi] at e3; cases e3
      | some t =>
        rw [hgi] at e3
        injection e3 with e3
        exact hbF (e3 ▸ (H3.some_ i t hi hgi).2.2.2.1)))
  refine hK _ _ (fun _ => ⟨(World.cell?_of_block (a := ⟨D, 2, none⟩) hD4).trans H3.cells.2.2.1, H3.lm.heap hm4, X4⟩) ?_
  clear hK K
  refine gate_put (j := 16) (m := m) (i := i) (b := t'.1) (l := t'.2.1) (c := t'.2.2) (by kernel_rfl) (by kernel_rfl) rfl rfl (by go_simp) (by go_simp) (by go_simp) (H3.lm.heap hm4) hi hn (by unfold maxLen; omega) ?_
  intro w5 r5 g5 z5
  have hrow5 : w5.heap[t'.1]? = w4.heap[t'.1]? := g5.block _ r4.lt (fun e => by
    obtain ⟨cur, hc, _⟩ := r4
    obtain ⟨_, ⟨es, cl, hb2, _⟩, _⟩ := H3.lm.heap hm4
    injection e with e
    rw [e, hb2] at hc
    cases hc)
  have C35 : Chg (fun k => k = m ∨ (g i).map (·.1) = some k) w3 w5 := (Chg.of_grown g4 (fun k e _ => .inr e)).trans (Chg.of_grown g5 (fun k e _ => .inl (by injection e with e; exact e.symm))) (fun _ _ x => x)
  have H5 := Lib.hid (H3.wrote (x := xs) hi hN e4 (r4.heap hrow5) r5 C35 (b4.imp id (fun e => Nat.le_of_eq e.symm)))
  have Z23 : w2.heap.size ≤ w3.heap.size := g3.size
  have hsz := Z2.out
  have C5 := Lib.hid (show Chg (fun k => F k ∨ k = p) w w5 from C2.out.trans ((Chg.of_grown (F := fun k => F k ∨ k = p) g3 (fun k e => by cases e)).trans C35 (fun k hk e => by
    rcases e with e | e
    · exact .inl (e ▸ H2.out.inF.2.2.1)
    · cases hgi : g i with
      | none => rw [hgi] at e; cases e
      | some t =>
        rw [hgi] at e
        injection e with e
        exact .inl (e ▸ (H2.out.some_ i t hi hgi).2.2.2.1))) (fun _ _ x => x))
  have P5 := Lib.hid (P2.out.heap (w' := w5) (by
    have e3 : w3.heap[p]? = w2.heap[p]? := g3.block p P2.out.lt (by simp)
    refine (C35.block p (by have := P2.out.lt; omega) (fun e => ?_)).trans e3
    rcases e with e | e
    · exact hF (e ▸ H2.out.inF.2.2.1)
    · cases hgi : g i with
      | none => rw [hgi] at e; cases e
      | some t =>
        rw [hgi] at e
        injection e with e
        exact hF (e ▸ (H2.out.some_ i t hi hgi).2.2.2.1)))
  have Z5 := Lib.hid (Nat.le_trans Z23 C35.size)
  clear g3 g4 g5 r3 r4 r5 H3 C35 hm4 hD4 X3 X4 hrow5 z3 z5 e4 b4
  go_wp2
  go_ret
  refine ⟨rfl, P5.out, ⟨fx, m, r, _, H5.out.frame (fun k x => ?_) (fun k x => ?_) (fun _ _ => rfl)⟩, C5.out⟩
  · rcases x with x | x
    · exact .inl x
    · exact .inr ⟨by omega, x.2⟩
  · rcases x with x | x
    · exact H5.out.bound k (.inl x)
    · exact x.2
end
end Go.Proofs.Ytdkniholeaiemaa.W
