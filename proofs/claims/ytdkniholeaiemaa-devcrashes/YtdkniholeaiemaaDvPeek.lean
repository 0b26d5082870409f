/-
  Contracts of Peek, Read and fix. No conditions.
-/
import Derived.Test.YtdkniholeaiemaaDvStands
import Derived.Test.YtdkniholeaiemaaGate
namespace Go.Proofs.Ytdkniholeaiemaa.W
open Go.RowKit Oc Dm Gt
set_option linter.unusedVariables false

/-- a sector is told, in new memory, with u behind it -/
def Told (w : World) (xs : List UInt8) (u : Value) (e : Ending) (w' : World) : Prop := ∃ b, e = .returned (.tuple #[.slice (some ⟨b, 0, none⟩) 64 64, u]) ∧ w.heap.size ≤ b ∧ SRow w' b 1 1 (fun _ => xs) ∧ Below w.heap.size w w'
theorem bthen {w a b : World} (h : Below w.heap.size w a) (k : Below a.heap.size a b) : Below w.heap.size w b := h.trans (k.mono h.size)
section
variable {w w' : World} {F : Nat → Prop} {D p n N : Nat} {S : Nat → Sec} {rd wr fx m r : Nat} {g : Nat → Option Pl} {s : PS}
set_option maxRecDepth 100000 in
theorem peek_yes (h : DvAt w F D p n N S rd wr fx m r g) (i : Nat) (hi : i < n) : Calls Try.prog 15 #[.pointer (some ⟨D, 0, none⟩), .int .i64 (i : Int)] w (Told w (S i).stands (.bool true)) := by
  have H := Lib.hid h
  have HL := Lib.hid (h.sec hi).2.2
  clear h
  go_enter Try.func15, Try.ntmps15
  go_wp2_with fail
  refine (has_yes H.out i hi).mono ?_; rintro e w' ⟨rfl, rfl⟩
  go_wp2_with fail
  refine (stands_any H.out i hi).mono ?_; rintro e w0 ⟨rfl, b0⟩
  have B0 := Lib.hid b0
  clear b0
  go_wp2_with (first | ((with_reducible refine L_alloc ?_); intro w1 r1 g1 s1; have R1 := Lib.hid r1; have G1 := Lib.hid g1; clear r1 g1 s1) | ((with_reducible refine L_store (i := 0) (xs := (S i).stands) ?_ ?_ R1.out ?_ ?_ ?_); exact rfl; exact rfl; decide; exact HL.out; intro w2 r2 g2 s2; have R2 := Lib.hid r2; have G2 := Lib.hid g2; clear r2 g2 s2) | ((with_reducible refine L_slice (b := w0.heap.size) (off := 0) ?_ ?_); exact rfl))
  go_ret2
  refine ⟨_, rfl, B0.out.size, R2.out.congr (fun j hj => by rw [show j = 0 by omega]; exact (upd_same _ _ _).symm), ?_⟩
  exact (B0.out.grown G1.out B0.out.size (fun j e => by cases e)).grown G2.out (B0.out.grown G1.out B0.out.size (fun j e => by cases e)).size (fun j e => by injection e with e; have := B0.out.size; omega)
theorem peek_no (h : DvAt w F D p n N S rd wr fx m r g) (i : Int) (hi : i < 0 ∨ (n : Int) ≤ i) : Calls Try.prog 15 #[.pointer (some ⟨D, 0, none⟩), .int .i64 i] w fun e w' => e = .returned (.tuple #[.slice none 0 0, .bool false]) ∧ w = w' := by
  have H := Lib.hid h
  clear h
  go_enter Try.func15, Try.ntmps15
  go_wp2_with fail
  refine (has_no H.out i hi).mono ?_; rintro e w' ⟨rfl, rfl⟩
  go_wp2
  go_ret2
  exact ⟨rfl, rfl⟩
/-- nothing is read: the error -/
theorem read_off (h : DvAt w F D p n N S rd wr fx m r g) (hp : Pw w p s) (ho : s.off = true) (z : Int) : Calls Try.prog 27 #[.pointer (some ⟨D, 0, none⟩), .int .i64 z] w fun e w' => e = .returned (.tuple #[.slice none 0 0, .int .i64 80]) ∧ w = w' := by
  have H := Lib.hid h
  have HP := Lib.hid hp
  clear h hp
  go_enter Try.func27, Try.ntmps27
  go_wp2_with fail
  refine (ready_any H.out HP.out).mono ?_; rintro e w' ⟨rfl, rfl⟩
  rw [ho]
  go_wp2
  go_ret2
  exact ⟨rfl, rfl⟩
theorem read_no (h : DvAt w F D p n N S rd wr fx m r g) (hp : Pw w p s) (ho : s.off = false) (z : Int) (hz : z < 0 ∨ (n : Int) ≤ z) : Calls Try.prog 27 #[.pointer (some ⟨D, 0, none⟩), .int .i64 z] w fun e w' => e = .returned (.tuple #[.slice none 0 0, .int .i64 3]) ∧ w = w' := by
  have H := Lib.hid h
  have HP := Lib.hid hp
  have HZ := Lib.hid hz
  clear h hp hz
  go_enter Try.func27, Try.ntmps27
  go_wp2_with fail
  refine (ready_any H.out HP.out).mono ?_; rintro e w' ⟨rfl, rfl⟩
  rw [ho]
  go_wp2_with fail
  refine (has_no H.out z HZ.out).mono ?_; rintro e w' ⟨rfl, rfl⟩
  go_wp2
  go_ret2
  exact ⟨rfl, rfl⟩
theorem read_io (h : DvAt w F D p n N S rd wr fx m r g) (hp : Pw w p s) (ho : s.off = false) (i : Nat) (hi : i < n) (hr : rd % 2 = 1) :
    Calls Try.prog 27 #[.pointer (some ⟨D, 0, none⟩), .int .i64 (i : Int)] w fun e w' => e = .returned (.tuple #[.slice none 0 0, .int .i64 81]) ∧ DvAt w' F D p n N S (rd / 2) wr fx m r g ∧ w.grownBy w' (some D) ∧ w'.heap.size = w.heap.size := by
  have H := Lib.hid h
  have HP := Lib.hid hp
  obtain ⟨c0, c1, c2, c3, c4, c5, fr⟩ := h.cells
  have hrd := h.hrd
  clear h hp
  have hb : (rd % 2 == 1) = true := by simp [hr]
  go_enter Try.func27, Try.ntmps27
  go_wp2_with fail
  refine (ready_any H.out HP.out).mono ?_; rintro e w' ⟨rfl, rfl⟩
  rw [ho]
  go_wp2_with fail
  refine (has_yes H.out i hi).mono ?_; rintro e w' ⟨rfl, rfl⟩
  go_wp2_with fail
  refine (next_any w D 4 rd hrd c4 (fr 4)).mono ?_; rintro e w' ⟨rfl, rfl⟩
  rw [hb]
  go_wp2
  go_ret2
  exact ⟨rfl, H.out.set4 (rd / 2) (Nat.lt_of_le_of_lt (Nat.div_le_self _ _) hrd), grown_cell .., size_cell ..⟩
set_option maxRecDepth 100000 in
theorem read_yes (h : DvAt w F D p n N S rd wr fx m r g) (hp : Pw w p s) (ho : s.off = false) (i : Nat) (hi : i < n) (hr : rd % 2 = 0) :
    Calls Try.prog 27 #[.pointer (some ⟨D, 0, none⟩), .int .i64 (i : Int)] w fun e w' => ∃ w1, Told w1 (S i).stands (.int .i64 0) e w' ∧ DvAt w1 F D p n N S (rd / 2) wr fx m r g ∧ w.grownBy w1 (some D) ∧ w1.heap.size = w.heap.size := by
  have H := Lib.hid h
  have HP := Lib.hid hp
  have HL := Lib.hid (h.sec hi).2.2
  obtain ⟨c0, c1, c2, c3, c4, c5, fr⟩ := h.cells
  have hrd := h.hrd
  clear h hp
  have hb : (rd % 2 == 1) = false := by simp [hr]
  go_enter Try.func27, Try.ntmps27
  go_wp2_with fail
  refine (ready_any H.out HP.out).mono ?_; rintro e w' ⟨rfl, rfl⟩
  rw [ho]
  go_wp2_with fail
  refine (has_yes H.out i hi).mono ?_; rintro e w' ⟨rfl, rfl⟩
  go_wp2_with fail
  refine (next_any w D 4 rd hrd c4 (fr 4)).mono ?_; rintro e w' ⟨rfl, rfl⟩
  rw [hb]
  have H4 := Lib.hid (H.out.set4 (rd / 2) (by omega))
  have G4 := Lib.hid (grown_cell w D 4 (.int .u64 ((rd / 2 : Nat) : Int)))
  have Z4 := Lib.hid (size_cell w ⟨D, 4, none⟩ (.int .u64 ((rd / 2 : Nat) : Int)))
  generalize w.setCell ⟨D, 4, none⟩ (.int .u64 ((rd / 2 : Nat) : Int)) = w4 at H4 G4 Z4 ⊢
  clear c0 c1 c2 c3 c4 c5 fr
  go_wp2_with fail
  refine (stands_any H4.out i hi).mono ?_; rintro e w0 ⟨rfl, b0⟩
  have B0 := Lib.hid b0
  clear b0
  go_wp2_with (first | ((with_reducible refine L_alloc ?_); intro w1 r1 g1 s1; have R1 := Lib.hid r1; have G1 := Lib.hid g1; clear r1 g1 s1) | ((with_reducible refine L_store (i := 0) (xs := (S i).stands) ?_ ?_ R1.out ?_ ?_ ?_); exact rfl; exact rfl; decide; exact HL.out; intro w2 r2 g2 s2; have R2 := Lib.hid r2; have G2 := Lib.hid g2; clear r2 g2 s2) | ((with_reducible refine L_slice (b := w0.heap.size) (off := 0) ?_ ?_); exact rfl))
  go_ret2
  refine ⟨w4, ⟨_, rfl, B0.out.size, R2.out.congr (fun j hj => by rw [show j = 0 by omega]; exact (upd_same _ _ _).symm), ?_⟩, H4.out, G4.out, Z4.out⟩
  exact (B0.out.grown G1.out B0.out.size (fun j e => by cases e)).grown G2.out (B0.out.grown G1.out B0.out.size (fun j e => by cases e)).size (fun j e => by injection e with e; have := B0.out.size; omega)

/-- a sector is fixed anew -/
theorem DvAt.refix (h : DvAt w F D p n N S rd wr fx m r g) {N' i : Nat} {x : List UInt8} {b : Bool} (hi : i < n) (hN : N ≤ N') (hN' : N' ≤ 1000000000) (r1 : SRow w' fx n n (upd (fun i => (S i).fixed) i x)) (r2 : RM w' r N' n (upd (fun i => (S i).rotten) i b)) (hc : Chg (fun k => k = fx ∨ k = r) w w') :
    DvAt w' F D p n N' (upd S i ⟨x, (S i).loose, b⟩) rd wr fx m r g := by
  have hs : ∀ (c : Array Value), w.heap[fx]? = some (.cells c 72 (0, 0)) → False := fun c hb => by obtain ⟨cur, hg, _⟩ := h.fixd; rw [hg] at hb; cases hb
  have hr : ∀ (c : Array Value) t, w.heap[r]? = some (.cells c t (0, 0)) → False := fun c t hb => by obtain ⟨_, ⟨es, c, hg, _⟩, _⟩ := h.rm; rw [hg] at hb; cases hb
  have hm : ∀ es c, w.heap[fx]? = some (.map es c) → False := fun es c hb => by obtain ⟨cur, hg, _⟩ := h.fixd; rw [hg] at hb; cases hb
  have hd : D ≠ fx ∧ D ≠ r := ⟨fun e => hs _ (e ▸ h.head), fun e => hr _ _ (e ▸ h.head)⟩
  have hmm : m ≠ fx := fun e => by obtain ⟨_, ⟨es, c, hb, _⟩, _⟩ := h.lm; exact hm _ _ (e ▸ hb)
  have hk : ∀ k, k < w.heap.size → k ≠ fx → k ≠ r → w'.heap[k]? = w.heap[k]? := fun k h1 h2 h3 => hc.block k h1 (fun x => x.elim h2 h3)
  have hl : ∀ j, ((upd S i ⟨x, (S i).loose, b⟩) j).loose = (S j).loose := fun j => by
    by_cases e : j = i
    · subst e; rw [upd_same]
    · rw [upd_other _ _ e]
  exact {
    head := (hk D (lt_of_heap h.head) hd.1 hd.2).trans h.head
    fixd := r1.congr (fun j hj => by
      by_cases e : j = i
      · subst e; rw [upd_same, upd_same]
      · rw [upd_other _ _ e, upd_other _ _ e])
    lm := (h.lm.more hN).heap (hk m h.lm.lt hmm h.mr)
    rm := r2.congr (fun j hj => by
      by_cases e : j = i
      · subst e; rw [upd_same, upd_same]
      · rw [upd_other _ _ e, upd_other _ _ e])
    none_ := fun j hj e => by rw [hl]; exact h.none_ j hj e
    some_ := fun j t hj e => by
      rw [hl]
      obtain ⟨a1, a2, a3, a4, a5⟩ := h.some_ j t hj e
      refine ⟨a1, a2, a3.heap (hk _ a3.lt a5 (fun e' => ?_)), a4, a5⟩
      obtain ⟨cur, hg, _⟩ := a3
      exact hr _ _ (e' ▸ hg)
    apart := h.apart
    mr := h.mr
    hn := h.hn
    hN := hN'
    hl := fun j hj => by rw [hl]; exact Nat.le_trans (h.hl j hj) hN
    hrd := h.hrd
    hwr := h.hwr
    inF := h.inF
    bound := fun k x => Nat.lt_of_lt_of_le (h.bound k x) hc.size }

theorem taken_nil {P : Program} {ops : Array Oper} {S : World → Prop} {K : Act → Prop} {a : Act} (h : K a) : Taken P ops S [] K a := h
theorem gate_last {P : Program} {md : Region.Mode} {ops : Array Oper} {Q : Exit → Act → World → Prop} {S : World → Prop} {t i fuel : Nat} {o : Oper} {listed : Array Bool} {a : Act} {w : World} (hr : Region.ready md ops listed = [i]) (hr2 : Region.ready md ops (listed.setIfInBounds i true) = []) (hit : i = t) (ho : ops[i]? = some o) (hg : o.guard = none)
    (h : ∀ K : Act → World → Prop, (∀ a' w', Q .normal a' w' → K a' w') → Oper.wp P o a w K Q) : Gate P md ops Q S t (fuel + 1) listed a w :=
  Gate.next hr ho hg (fun K hK => h K (fun a' w' hq => hK a' w' (fun hne => absurd hit hne) (Gate.done hr2 hq)))
theorem ex_load {o : Oper} {a : Act} {x : Operand} {b off : Nat} {xs : List UInt8} (ho : o.op = .load 95 x) (hx : a.eval x = .pointer (some ⟨b, off, none⟩)) (h : Oct w (some ⟨b, off, none⟩) 64 xs) : (execOp a.eval o).run Try.prog w = .ok (.value (sv xs)) w := by
  simp [execOp, ho, hx, run_load_sec h, Result.andThen]
theorem still_load {ops : Array Oper} {rest : List Oper} {a : Act} {w : World} {Q : Act → Prop} {dst : Option Tmp} {ty : TypeId} {pos : String} {af : Array Edge} {x : Operand} {b off : Nat} {xs : List UInt8} (hx : a.eval x = .pointer (some ⟨b, off, none⟩)) (h : Oct w (some ⟨b, off, none⟩) 64 xs)
    (hK : wpStill Try.prog ops w Q rest (a.put dst (sv xs))) : wpStill Try.prog ops w Q (⟨dst, .load 95 x, ty, pos, af, none⟩ :: rest) a := by
  refine wpStill_step (fun K hK' => ?_)
  rw [if_pos (by simp [Region.wanted])]
  have e := ex_load (o := ⟨dst, .load 95 x, ty, pos, af, none⟩) rfl hx h
  unfold Oper.still
  rw [e, Oper.stillUpon_value]
  exact hK' _ hK
theorem W_store {o : Oper} {a : Act} {K : Act → World → Prop} {Q : Exit → Act → World → Prop} {x y : Operand} {b i cap : Nat} {xs : List UInt8} {f : Nat → List UInt8} (ho : o.op = .store 95 x y) (hp : a.eval x = .pointer (some ⟨b, i * 64, none⟩)) (hy : a.eval y = sv xs) (h : SRow w b n cap f) (hi : i < n) (hx : xs.length = 64)
    (hK : ∀ w', SRow w' b n cap (upd f i xs) → w.grownBy w' (some b) → w'.heap.size = w.heap.size → K (a.put o.dst undef) w') : o.wp Try.prog a w K Q := by
  obtain ⟨w', hrun, r1, r2, r3⟩ := run_store_sec h hi hx
  unfold Oper.wp
  simp [execOp, ho, hp, hy, hrun, Result.andThen]
  exact hK w' r1 r2 r3

set_option maxRecDepth 100000 in
set_option maxHeartbeats 2000000 in
theorem fix_any (h : DvAt w F D p n N S rd wr fx m r g) (i : Nat) (hi : i < n) (x : List UInt8) (hx : x.length = 64) :
    Calls Try.prog 43 #[.pointer (some ⟨D, 0, none⟩), .int .i64 (i : Int), sv x] w fun e w' => e = .returned (.tuple #[]) ∧ DvAt w' F D p n N (upd S i ⟨x, (S i).loose, false⟩) rd wr fx m r g ∧ Chg (fun k => k = fx ∨ k = r) w w' := by
  have H := Lib.hid h
  have hn := h.hn
  have hi2 : (i : Int) < (n : Int) := by omega
  clear h
  go_enter Try.func43, Try.ntmps43
  go_wp2_with ((with_reducible refine L_box (xs := x) ?_ hx ?_); exact rfl; intro w1 r1 g1 s1; have H1 := Lib.hid (H.out.grown0 g1); have R1 := Lib.hid r1; have G1 := Lib.hid g1; obtain ⟨c0, c1, c2, c3, c4, c5, fr⟩ := H1.out.cells; clear r1 g1 s1)
  refine wp_region_still_tail 7 (by kernel_rfl) (by kernel_rfl) ?_
  simp only [List.take_succ_cons, List.take_zero, List.drop_succ_cons, List.drop_zero]
  iterate 5 still_step
  refine still_load rfl (R1.out.oct (i := 0) (by decide)) ?_
  still_step
  refine wpStill_nil ?_
  change wpList _ _ _ _ _ w1.drew
  refine L_store (i := i) (xs := x) ?_ ?_ (show SRow w1.drew fx n n (fun i => (S i).fixed) from H1.out.fixd) hi hx ?_
  · rfl
  · rfl
  intro w2 r2 g2 s2
  have g2' : w1.grownBy w2 (some fx) := ⟨g2.os, g2.tape, g2.output, g2.size, g2.block⟩
  have RM2 := Lib.hid (H1.out.rm.heap (g2'.block _ H1.out.rm.lt (fun e => by
    obtain ⟨cur, hb, _⟩ := H1.out.fixd
    obtain ⟨_, ⟨es, c, hb2, _⟩, _⟩ := H1.out.rm
    injection e with e
    rw [e, hb] at hb2
    cases hb2)))
  have D2 := Lib.hid (g2'.block D (lt_of_heap H1.out.head) (fun e => by
    obtain ⟨cur, hb, _⟩ := H1.out.fixd
    have hb2 := H1.out.head
    injection e with e
    rw [e, hb] at hb2
    cases hb2))
  have d3 : w2.cell? ⟨D, 3, none⟩ = some (.map (some r)) := (World.cell?_of_block (a := ⟨D, 3, none⟩) D2.out).trans c3
  have R2 := Lib.hid r2
  have G2 := Lib.hid g2'
  clear r2 g2 g2' s2
  go_wp2_with ((with_reducible refine L_dropr ?_ ?_ RM2.out hi hn ?_); exact rfl; exact rfl; intro w3 r3 g3)
  go_end0
  have hc : Chg (fun k => k = fx ∨ k = r) w w3 := ((Chg.of_grown G1.out (fun k e => by cases e)).trans (Chg.of_grown G2.out (fun k e _ => .inl (by injection e with e; exact e.symm))) (fun _ _ x => x)).trans (Chg.of_grown g3 (fun k e _ => .inr (by injection e with e; exact e.symm))) (fun _ _ x => x)
  have hc1 : Chg (fun k => k = fx ∨ k = r) w1 w3 := (Chg.of_grown G2.out (fun k e _ => .inl (by injection e with e; exact e.symm))).trans (Chg.of_grown g3 (fun k e _ => .inr (by injection e with e; exact e.symm))) (fun _ _ x => x)
  refine ⟨rfl, H1.out.refix hi (Nat.le_refl _) H1.out.hN (R2.out.heap (g3.block _ R2.out.lt (fun e => ?_))) r3 hc1, hc⟩
  obtain ⟨cur, hb, _⟩ := R2.out
  obtain ⟨_, ⟨es, c, hb2, _⟩, _⟩ := RM2.out
  injection e with e
  rw [e, hb2] at hb
  cases hb
end
end Go.Proofs.Ytdkniholeaiemaa.W
