/-
  The contract of Rot. No conditions.
-/
import Derived.Test.YtdkniholeaiemaaDvTurn
import Derived.Test.YtdkniholeaiemaaDvWrite3
import Derived.Stop.BytesEq
namespace Go.Proofs.Ytdkniholeaiemaa.W
open Go.RowKit Oc Dm Gt Tn
set_option linter.unusedVariables false

theorem run_eq_sec (w : World) (xs ys : List UInt8) (hx : xs.length = 64) (hy : ys.length = 64) : (binOp .eql 95 (sv xs) (sv ys)).run Try.prog w = .ok (.bool (xs == ys)) w :=
  run_eql_bytes w 95 5 64 Try.underlying95 Try.underlying5 Try.sizeOf5 xs ys hx hy
theorem sec_guard : Try.prog.eqGuardType Try.prog.depth 95 = false := by kernel_rfl
theorem L_eq {ops : Array Oper} {rest : List Oper} {a : Act} {w : World} {Q : Exit → Act → World → Prop} {dst : Option Tmp} {ty : TypeId} {pos : String} {af : Array Edge} {x y : Operand} {xs ys : List UInt8} (hx : a.eval x = sv xs) (hy : a.eval y = sv ys) (h1 : xs.length = 64) (h2 : ys.length = 64)
    (hK : wpList Try.prog ops Q rest (a.put dst (.bool (xs == ys))) w) : wpList Try.prog ops Q (⟨dst, .binOp .eql 95 x y 95, ty, pos, af, none⟩ :: rest) a w := by
  refine wpList_plain rfl fun K hK' => ?_
  have hg := run_eqGuard_agg (P := Try.prog) w .eql 95 x y (xs.map ov).toArray (ys.map ov).toArray sec_guard
  have hr := run_eq_sec w xs ys h1 h2
  unfold sv at hr hx hy
  unfold Oper.wp
  simp [execOp, hx, hy, hg, hr, Result.andThen]
  exact hK' _ _ hK
section
variable {w w' : World} {F : Nat → Prop} {D p n N : Nat} {S : Nat → Sec} {rd wr fx m r : Nat} {g : Nat → Option Pl} {s : PS}
theorem rot_range (h : DvAt w F D p n N S rd wr fx m r g) (z bit : Int) (u : Value) (hz : z < 0 ∨ (n : Int) ≤ z ∨ bit < 0 ∨ 512 ≤ bit) :
    Calls Try.prog 28 #[.pointer (some ⟨D, 0, none⟩), .int .i64 z, .int .i64 bit, u] w fun e w' => e = .returned (.int .i64 3) ∧ w = w' := by
  have H := Lib.hid h
  clear h
  by_cases h1 : z < 0 ∨ (n : Int) ≤ z
  · have H1 := Lib.hid h1
    clear hz h1
    go_enter Try.func28, Try.ntmps28
    go_wp2_with fail
    refine (dmade_any H.out).mono ?_; rintro e w' ⟨rfl, rfl⟩
    go_wp2_with fail
    refine (has_no H.out z H1.out).mono ?_; rintro e w' ⟨rfl, rfl⟩
    go_wp2
    go_ret
    exact ⟨rfl, rfl⟩
  · obtain ⟨i, rfl⟩ : ∃ i : Nat, z = (i : Int) := ⟨z.toNat, by omega⟩
    have hi : i < n := by omega
    by_cases h2 : bit < 0
    · clear hz h1
      go_enter Try.func28, Try.ntmps28
      go_wp2_with fail
      refine (dmade_any H.out).mono ?_; rintro e w' ⟨rfl, rfl⟩
      go_wp2_with fail
      refine (has_yes H.out i hi).mono ?_; rintro e w' ⟨rfl, rfl⟩
      go_wp2
      go_ret
      exact ⟨rfl, rfl⟩
    · have h3 : 512 ≤ bit := by omega
      clear hz h1
      go_enter Try.func28, Try.ntmps28
      go_wp2_with fail
      refine (dmade_any H.out).mono ?_; rintro e w' ⟨rfl, rfl⟩
      go_wp2_with fail
      refine (has_yes H.out i hi).mono ?_; rintro e w' ⟨rfl, rfl⟩
      go_wp2
      go_ret
      exact ⟨rfl, rfl⟩
theorem rot_state (h : DvAt w F D p n N S rd wr fx m r g) (i : Nat) (hi : i < n) (bit : Int) (u : Value) (hb : 0 ≤ bit ∧ bit < 512) (hs : (S i).rotten = true ∨ (S i).loose ≠ []) :
    Calls Try.prog 28 #[.pointer (some ⟨D, 0, none⟩), .int .i64 (i : Int), .int .i64 bit, u] w fun e w' => e = .returned (.int .i64 6) ∧ Below w.heap.size w w' := by
  have H := Lib.hid h
  obtain ⟨hb1, hb2⟩ := hb
  clear h
  cases hrot : (S i).rotten
  · have hl : (S i).loose ≠ [] := hs.resolve_left (by rw [hrot]; decide)
    obtain ⟨t, ht⟩ : ∃ t, g i = some t := by
      cases hg : g i with
      | none => exact absurd (H.out.none_ i hi hg) hl
      | some t => exact ⟨t, rfl⟩
    have hlen : 0 < t.2.1 := by rw [(H.out.some_ i t hi ht).2.1]; exact List.length_pos_iff.2 hl
    have HT := Lib.hid ht
    have HR := Lib.hid hrot
    clear hs hl ht hrot
    go_enter Try.func28, Try.ntmps28
    go_wp2_with fail
    refine (dmade_any H.out).mono ?_; rintro e w' ⟨rfl, rfl⟩
    go_wp2_with fail
    refine (has_yes H.out i hi).mono ?_; rintro e w' ⟨rfl, rfl⟩
    go_wp2_with fail
    refine (rotten_any H.out i hi).mono ?_; rintro e w1 ⟨rfl, b1⟩
    rw [HR.out]
    have H1 := Lib.hid (H.out.kept (G := fun _ => False) (Chg.of_below b1) (fun _ _ x => x))
    have B1 := Lib.hid b1
    obtain ⟨c0, c1, c2, c3, c4, c5, fr⟩ := H1.out.cells
    have hlk := H1.out.lm.look hi H1.out.hn
    rw [HT.out] at hlk
    rw [show slv (some t) = .slice (some ⟨t.1, 0, none⟩) t.2.1 t.2.2 from rfl] at hlk
    clear b1
    obtain ⟨l, hl⟩ : ∃ l, t.2.1 = l := ⟨_, rfl⟩
    rw [hl] at hlk hlen
    clear hl
    go_wp2
    go_ret
    exact ⟨rfl, B1.out⟩
  · have HR := Lib.hid hrot
    clear hs hrot
    go_enter Try.func28, Try.ntmps28
    go_wp2_with fail
    refine (dmade_any H.out).mono ?_; rintro e w' ⟨rfl, rfl⟩
    go_wp2_with fail
    refine (has_yes H.out i hi).mono ?_; rintro e w' ⟨rfl, rfl⟩
    go_wp2_with fail
    refine (rotten_any H.out i hi).mono ?_; rintro e w1 ⟨rfl, b1⟩
    rw [HR.out]
    have B1 := Lib.hid b1
    clear b1
    go_wp2
    go_ret
    exact ⟨rfl, B1.out⟩
/-- the sector with those bits turned -/
def rotTo (S : Nat → Sec) (i : Nat) (bit : Int) (T : Nat) : List UInt8 := turned (S i).fixed bit T 32
set_option maxRecDepth 100000 in
set_option maxHeartbeats 4000000 in
theorem rot_clean (h : DvAt w F D p n N S rd wr fx m r g) (hN : N + 1 ≤ 1000000000) (i : Nat) (hi : i < n) (bit : Int) (T : Nat) (hb : 0 ≤ bit ∧ bit < 512) (hT : T < 4294967296) (hr : (S i).rotten = false) (hl : (S i).loose = []) :
    Calls Try.prog 28 #[.pointer (some ⟨D, 0, none⟩), .int .i64 (i : Int), .int .i64 bit, .int .u32 (T : Int)] w fun e w' =>
      (rotTo S i bit T = (S i).fixed ∧ e = .returned (.int .i64 1) ∧ Below w.heap.size w w') ∨
      (rotTo S i bit T ≠ (S i).fixed ∧ e = .returned (.int .i64 0) ∧ Dv w' (Ext F w w') D p n (N + 1) (upd S i ⟨rotTo S i bit T, [], true⟩) rd wr ∧ Chg F w w') := by
  have H := Lib.hid h
  obtain ⟨hb1, hb2⟩ := hb
  have hg : g i = none := by
    cases hg : g i with
    | none => rfl
    | some t => exact absurd hl (H.out.some_ i t hi hg).1
  have HG := Lib.hid hg
  have HR := Lib.hid hr
  have HLo := Lib.hid hl
  have HT := Lib.hid hT
  have hn := h.hn
  have hi2 : (i : Int) < (n : Int) := by omega
  clear h hg hr hl hT
  go_enter Try.func28, Try.ntmps28
  go_wp2_with fail
  refine (dmade_any H.out).mono ?_; rintro e w' ⟨rfl, rfl⟩
  go_wp2_with fail
  refine (has_yes H.out i hi).mono ?_; rintro e w' ⟨rfl, rfl⟩
  go_wp2_with fail
  refine (rotten_any H.out i hi).mono ?_; rintro e w1 ⟨rfl, b1⟩
  rw [HR.out]
  have H1 := Lib.hid (H.out.kept (G := fun _ => False) (Chg.of_below b1) (fun _ _ x => x))
  have B1 := Lib.hid b1
  obtain ⟨c0, c1, c2, c3, c4, c5, fr⟩ := H1.out.cells
  have hlk := H1.out.lm.look hi H1.out.hn
  rw [HG.out] at hlk
  rw [show slv none = .slice none 0 0 from rfl] at hlk
  clear b1
  go_wp2_with ((with_reducible refine L_slice (b := fx) (off := i * 64) ?_ ?_); exact rfl)
  refine (turn_any _ 64 _ (S i).fixed bit T _ (by decide) (H1.out.fixd.oct hi) HT.out).mono ?_; rintro e w2 ⟨v2, rfl, o2, b2⟩
  have hxl : (turned (S i).fixed bit T 32).length = 64 := by rw [turned_length]; exact H1.out.fixd.len hi
  obtain ⟨A2, cc2, rfl, l2, s2⟩ := o2.form hxl
  have HX : Hid (turned (S i).fixed bit T 32 = rotTo S i bit T) := rfl
  have HXL : Hid ((rotTo S i bit T).length = 64) := hxl
  rw [HX.out] at s2
  generalize rotTo S i bit T = x at HX HXL s2 ⊢
  have H2 := Lib.hid (H1.out.kept (G := fun _ => False) (Chg.of_below b2) (fun _ _ x => x))
  have B2 : Hid (Below w.heap.size w w2) := bthen B1.out b2
  have S2 := Lib.hid s2
  obtain ⟨b9, o9, rfl, _⟩ := s2.2 (by decide)
  have harr := run_arrayAt (some ⟨b9, o9, none⟩) cc2
  clear o2 b2 s2 hxl l2 c0 c1 c2 c3 c4 c5 fr hlk
  go_wp2_with (first
    | ((with_reducible refine L_load (b := b9) (off := o9) (xs := x) ?_ S2.out ?_); exact rfl)
    | ((with_reducible refine L_alloc ?_); intro w3 r3 g3 s3; have R3 := Lib.hid r3; have G3 := Lib.hid g3; clear r3 g3 s3)
    | ((with_reducible refine L_store (i := 0) (xs := x) ?_ ?_ R3.out ?_ ?_ ?_); exact rfl; exact rfl; decide; exact HXL.out; intro w4 r4 g4 s4; have R4 := Lib.hid r4; have G4 := Lib.hid g4; clear r4 g4 s4))
  have r4' : SRow w4 w2.heap.size 1 1 (fun _ => x) := R4.out.congr (fun j hj => by rw [show j = 0 by omega]; exact (upd_same _ _ _).symm)
  have R5 := Lib.hid r4'
  have b3 : Below w.heap.size w w3 := B2.out.grown G3.out B2.out.size (fun j e => by cases e)
  have b4 : Below w.heap.size w w4 := b3.grown G4.out b3.size (fun j e => by injection e with e; have := B2.out.size; omega)
  have B4 := Lib.hid b4
  have H4 := Lib.hid (H2.out.kept (G := fun k => k = w2.heap.size) (((Chg.of_grown G3.out (fun k e => by cases e)).trans (Chg.of_grown G4.out (fun k e _ => by injection e with e; exact e.symm)) (fun _ _ x => x))) (fun k hk e => by have := H2.out.bound k hk; omega))
  clear r4' b3 b4 R3 R4 G3 G4 S2 H1 B1 harr
  obtain ⟨c0, c1, c2, c3, c4, c5, fr⟩ := H4.out.cells
  refine wp_region_still_tail 8 (by kernel_rfl) (by kernel_rfl) ?_
  simp only [List.take_succ_cons, List.take_zero, List.drop_succ_cons, List.drop_zero]
  refine still_load (b := w2.heap.size) (off := 0) rfl (R5.out.oct (i := 0) (by decide)) ?_
  iterate 6 still_step
  refine still_load (b := fx) (off := i * 64) rfl (H4.out.fixd.oct hi) ?_
  refine wpStill_nil ?_
  change wpList _ _ _ _ _ w4.drew
  refine L_eq (xs := x) (ys := (S i).fixed) rfl rfl HXL.out (H4.out.fixd.len hi) ?_
  by_cases hx : x = (S i).fixed
  · have hq : (x == (S i).fixed) = true := by simp [hx]
    have EX := Lib.hid hx
    rw [hq]
    clear hx hq
    go_wp2
    go_ret
    exact .inl ⟨(show rotTo S i bit T = x from HX.out).trans EX.out, rfl, B4.out.drew⟩
  · have hq : (x == (S i).fixed) = false := by simp [hx]
    have EX := Lib.hid hx
    rw [hq]
    clear hx hq
    go_wp2_with fail
    have H5 : Hid (DvAt w4.drew F D p n N S rd wr fx m r g) := H4.out.frame (fun _ x => x) H4.out.bound (fun _ _ => rfl)
    have R6 : Hid (SRow w4.drew w2.heap.size 1 1 (fun _ => x)) := R5.out.heap rfl
    have B5 : Hid (Below w.heap.size w w4.drew) := B4.out.drew
    clear c0 c1 c2 c3 c4 c5 fr
    generalize w4.drew = w5 at H5 R6 B5 ⊢
    obtain ⟨c0, c1, c2, c3, c4, c5, fr⟩ := H5.out.cells
    refine wp_region_still_tail 7 (by kernel_rfl) (by kernel_rfl) ?_
    simp only [List.take_succ_cons, List.take_zero, List.drop_succ_cons, List.drop_zero]
    iterate 5 still_step
    refine still_load (b := w2.heap.size) (off := 0) rfl (R6.out.oct (i := 0) (by decide)) ?_
    still_step
    refine wpStill_nil ?_
    change wpList _ _ _ _ _ w5.drew
    refine L_store (i := i) (xs := x) ?_ ?_ (show SRow w5.drew fx n n (fun i => (S i).fixed) from H5.out.fixd) hi HXL.out ?_
    · rfl
    · rfl
    intro w6 r6 g6 s6
    have g6' : w5.grownBy w6 (some fx) := ⟨g6.os, g6.tape, g6.output, g6.size, g6.block⟩
    have RM6 := Lib.hid (H5.out.rm.heap (g6'.block _ H5.out.rm.lt (fun e => by
      obtain ⟨cur, hb, _⟩ := H5.out.fixd
      obtain ⟨_, ⟨es, c, hb2, _⟩, _⟩ := H5.out.rm
      injection e with e
      rw [e, hb] at hb2
      cases hb2)))
    have D6 := Lib.hid (g6'.block D (lt_of_heap H5.out.head) (fun e => by
      obtain ⟨cur, hb, _⟩ := H5.out.fixd
      have hb2 := H5.out.head
      injection e with e
      rw [e, hb] at hb2
      cases hb2))
    have d3 : w6.cell? ⟨D, 3, none⟩ = some (.map (some r)) := (World.cell?_of_block (a := ⟨D, 3, none⟩) D6.out).trans c3
    have R7 := Lib.hid r6
    have G6 := Lib.hid g6'
    clear r6 g6 g6' s6
    have hNm : N < maxLen := by unfold maxLen; omega
    go_wp2_with ((with_reducible refine L_putr ?_ ?_ ?_ RM6.out hi hn hNm ?_); exact rfl; exact rfl; exact rfl; intro w7 r7 g7; have RM7 := Lib.hid r7; have G7 := Lib.hid g7; clear r7 g7)
    go_ret
    rw [show rotTo S i bit T = x from HX.out]
    refine .inr ⟨EX.out, rfl, ?_, ?_⟩
    · have hc : Chg (fun k => k = fx ∨ k = r) w5 w7 := (Chg.of_grown G6.out (fun k e _ => .inl (by injection e with e; exact e.symm))).trans (Chg.of_grown G7.out (fun k e _ => .inr (by injection e with e; exact e.symm))) (fun _ _ x => x)
      have hd := H5.out.refix (N' := N + 1) hi (Nat.le_succ _) hN (R7.out.heap (G7.out.block _ R7.out.lt (fun e => by
        obtain ⟨cur, hb, _⟩ := R7.out
        obtain ⟨_, ⟨es, c, hb2, _⟩, _⟩ := RM6.out
        injection e with e
        rw [e, hb2] at hb
        cases hb))) RM7.out hc
      rw [HLo.out] at hd
      exact ⟨_, _, _, _, hd.ext (Nat.le_trans B5.out.size hc.size)⟩
    · refine ((Chg.of_below B5.out).trans (Chg.of_grown (F := F) G6.out (fun k e _ => by injection e with e; exact e ▸ H5.out.inF.2.1)) (fun _ _ x => x)).trans (Chg.of_grown (F := F) G7.out (fun k e _ => by injection e with e; exact e ▸ H5.out.inF.2.2.2)) (fun _ _ x => x)
end
end Go.Proofs.Ytdkniholeaiemaa.W
