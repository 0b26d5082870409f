/-
  Contracts of Flush. No conditions.
-/
import Derived.Test.YtdkniholeaiemaaDvWrite3
namespace Go.Proofs.Ytdkniholeaiemaa.W
open Go.RowKit Oc Dm
set_option linter.unusedVariables false
section
variable {w w' : World} {F : Nat → Prop} {D p n N : Nat} {S S' : Nat → Sec} {rd wr fx m r : Nat} {g : Nat → Option Pl} {s : PS}
theorem DvAt.congr (h : DvAt w F D p n N S rd wr fx m r g) (e : ∀ i, i < n → S' i = S i) : DvAt w F D p n N S' rd wr fx m r g :=
  { h with
    fixd := h.fixd.congr (fun i hi => by rw [e i hi])
    rm := h.rm.congr (fun i hi => by rw [e i hi])
    none_ := fun i hi x => by rw [e i hi]; exact h.none_ i hi x
    some_ := fun i t hi x => by rw [e i hi]; exact h.some_ i t hi x
    hl := fun i hi => by rw [e i hi]; exact h.hl i hi }
theorem Dv.congr (h : Dv w F D p n N S rd wr) (e : ∀ i, i < n → S' i = S i) : Dv w F D p n N S' rd wr := by
  obtain ⟨fx, m, r, g, h⟩ := h
  exact ⟨fx, m, r, g, h.congr e⟩
theorem DvAt.ne_m (h : DvAt w F D p n N S rd wr fx m r g) : D ≠ m ∧ fx ≠ m ∧ r ≠ m := by
  obtain ⟨_, ⟨es, c, hb, _⟩, _⟩ := h.lm
  refine ⟨fun e => ?_, fun e => ?_, fun e => h.mr e.symm⟩
  · have := h.head; rw [e, hb] at this; cases this
  · obtain ⟨cur, hg, _⟩ := h.fixd; rw [e, hb] at hg; cases hg
/-- all loose writes are dropped -/
theorem DvAt.cleared (h : DvAt w F D p n N S rd wr fx m r g) (r1 : LM w' m N n (fun _ => none)) (hg : w.grownBy w' (some m)) : DvAt w' F D p n N (fun i => ⟨(S i).fixed, [], (S i).rotten⟩) rd wr fx m r (fun _ => none) := by
  obtain ⟨n1, n2, n3⟩ := h.ne_m
  have hk : ∀ k, k < w.heap.size → k ≠ m → w'.heap[k]? = w.heap[k]? := fun k h1 h2 => hg.block k h1 (fun e => h2 (by injection e))
  exact {
    head := (hk _ (lt_of_heap h.head) n1).trans h.head
    fixd := h.fixd.heap (hk _ h.fixd.lt n2)
    lm := r1
    rm := h.rm.heap (hk _ h.rm.lt n3)
    none_ := fun i hi e => rfl
    some_ := fun i t hi e => by cases e
    apart := fun i j s t hi hj hne e => by cases e
    mr := h.mr
    hn := h.hn
    hN := h.hN
    hl := fun i hi => Nat.zero_le _
    hrd := h.hrd
    hwr := h.hwr
    inF := h.inF
    bound := fun k x => Nat.lt_of_lt_of_le (h.bound k x) hg.size }
/-- what a flush makes of sectors -/
def flushS (S : Nat → Sec) (i : Nat) : Sec := if (S i).loose = [] then S i else ⟨(S i).stands, [], false⟩
/-- on the way: those that have come are fixed -/
def midS (S : Nat → Sec) (g : Nat → Option Pl) (left : Nat → Bool) (i : Nat) : Sec := if (g i).isSome && !left i then ⟨(S i).stands, (S i).loose, false⟩ else S i
theorem midS_loose (left : Nat → Bool) (i : Nat) : (midS S g left i).loose = (S i).loose := by unfold midS; split <;> rfl
theorem midS_stands (left : Nat → Bool) (i : Nat) (h : (S i).loose ≠ []) : (midS S g left i).stands = (S i).stands := by
  rw [Sec.stands_loose (by rw [midS_loose]; exact h), Sec.stands_loose h, midS_loose]
theorem midS_step (left : Nat → Bool) (i : Nat) (h : (S i).loose ≠ []) (hg : (g i).isSome = true) (hl : left i = true) : upd (midS S g left) i ⟨(midS S g left i).stands, (midS S g left i).loose, false⟩ = midS S g (upd left i false) := by
  funext j
  by_cases e : j = i
  · subst e
    rw [upd_same, midS_stands left j h, midS_loose]
    unfold midS
    rw [upd_same, hg]
    rfl
  · rw [upd_other _ _ e]
    unfold midS
    rw [upd_other _ _ e]
theorem midS_end (left : Nat → Bool) (h : DvAt w F D p n N S rd wr fx m r g) (hl : ∀ i, i < n → left i = false) (i : Nat) (hi : i < n) : flushS S i = ⟨(midS S g left i).fixed, [], (midS S g left i).rotten⟩ := by
  unfold flushS midS
  rw [hl i hi]
  cases hg : g i with
  | none =>
    have := h.none_ i hi hg
    rw [if_pos this]
    simp only [Option.isSome_none, Bool.false_and, Bool.false_eq_true, if_false]
    rw [← this]
  | some t =>
    rw [if_neg (h.some_ i t hi hg).1]
    rfl
theorem flush_off (h : DvAt w F D p n N S rd wr fx m r g) (hp : Pw w p s) (ho : s.off = true) : Calls Try.prog 16 #[.pointer (some ⟨D, 0, none⟩)] w fun e w' => e = .returned (.int .i64 80) ∧ w = w' := by
  have H := Lib.hid h
  have HP := Lib.hid hp
  clear h hp
  go_enter Try.func16, Try.ntmps16
  go_wp2_with fail
  refine (ready_any H.out HP.out).mono ?_; rintro e w' ⟨rfl, rfl⟩
  rw [ho]
  go_wp2
  go_ret
  exact ⟨rfl, rfl⟩
theorem flush_goes (h : DvAt w F D p n N S rd wr fx m r g) (hp : Pw w p s) (hd : s.done < 1000000000000) (ho : s.off = false) (hg : s.goes = true) : Calls Try.prog 16 #[.pointer (some ⟨D, 0, none⟩)] w (PTurned w p s.spend (.int .i64 80)) := by
  have H := Lib.hid h
  have HP := Lib.hid hp
  obtain ⟨c0, c1, c2, c3, c4, c5, fr⟩ := h.cells
  clear h hp
  go_enter Try.func16, Try.ntmps16
  go_wp2_with fail
  refine (ready_any H.out HP.out).mono ?_; rintro e w' ⟨rfl, rfl⟩
  rw [ho]
  go_wp2_with fail
  refine (spend_any HP.out hd).mono ?_; rintro e w' ⟨rfl, p1, g1, z1⟩
  rw [hg]
  have P1 := Lib.hid p1
  have G1 := Lib.hid g1
  have Z1 := Lib.hid z1
  clear p1 g1 z1
  go_wp2
  go_ret
  exact ⟨rfl, P1.out, G1.out, Z1.out⟩
set_option maxRecDepth 100000 in
set_option maxHeartbeats 4000000 in
theorem flush_ok (h : DvAt w F D p n N S rd wr fx m r g) (hF : ¬ F p) (hp : Pw w p s) (hd : s.done < 1000000000000) (ho : s.off = false) (hg : s.goes = false) :
    Calls Try.prog 16 #[.pointer (some ⟨D, 0, none⟩)] w (Spent w F D p n N (flushS S) rd wr s.spend (.int .i64 0)) := by
  have H := Lib.hid h
  have HP := Lib.hid hp
  obtain ⟨c0, c1, c2, c3, c4, c5, fr⟩ := h.cells
  clear h hp
  go_enter Try.func16, Try.ntmps16
  go_wp2_with fail
  refine (ready_any H.out HP.out).mono ?_; rintro e w' ⟨rfl, rfl⟩
  rw [ho]
  go_wp2_with fail
  refine (spend_any HP.out hd).mono ?_; rintro e w1 ⟨rfl, p1, g1, z1⟩
  rw [hg]
  have H1 := Lib.hid (H.out.kept (G := fun k => k = p) (Chg.of_grown g1 (fun k e _ => by injection e with e; exact e.symm)) (fun k x e => hF (e ▸ x)))
  have P1 := Lib.hid p1
  have G1 := Lib.hid g1
  have Z1 := Lib.hid z1
  clear p1 g1 z1 c0 c1 c2 c3 c4 c5 fr
  obtain ⟨c0, c1, c2, c3, c4, c5, fr⟩ := H1.out.cells
  go_wp2_with ((with_reducible refine L_range ?_ H1.out.lm ?_); exact rfl; intro w2 cnt0 lr0 _ g2 z2; have L0 := Lib.hid lr0; have G2 := Lib.hid g2; have Z2 := Lib.hid z2; clear lr0 g2 z2)
  go_frame
  go_loopw [4] (fun _ wr' => ∃ left cnt, Hid (LR wr' m w1.heap.size N n g left cnt) ∧ Hid (DvAt wr' F D p n N (midS S g left) rd wr fx m r g) ∧ Hid (Chg (fun k => k = fx ∨ k = r ∨ k = w1.heap.size) w2 wr')) (fun _ wr' => wr'.rangeLeft m w1.heap.size)
  case atStart =>
    refine ⟨_, _, L0, ?_, Chg.refl _ _⟩
    refine (H1.out.grown0 G2.out).congr (fun i hi => ?_)
    unfold midS
    exact if_neg (show ¬ ((g i).isSome && !(g i).isSome) = true by cases (g i).isSome <;> decide)
  case round =>
    obtain ⟨left, cnt, LRJ, HJ, CJ⟩ := hrel
    clear c0 c1 c2 c3 c4 c5 fr
    obtain ⟨c0, c1, c2, c3, c4, c5, fr⟩ := HJ.out.cells
    go_wp2_with ((with_reducible refine L_next ?_ LRJ.out ?_ ?_); exact rfl)
    · intro hl0
      have HL := Lib.hid hl0
      clear hl0
      go_wp2_with ((with_reducible refine L_clear ?_ HJ.out.lm ?_); exact rfl; intro w5 r5 g5 z5; have R5 := Lib.hid r5; have G5 := Lib.hid g5; clear r5 g5 z5)
      go_ret
      have hc : Chg (fun k => k = fx ∨ k = r ∨ k = m ∨ w1.heap.size ≤ k) w1 _ := ((Chg.of_grown G2.out (fun k e => by cases e)).trans CJ.out (fun k hk e => by rcases e with e | e | e; exact .inl e; exact .inr (.inl e); exact .inr (.inr (.inr (Nat.le_of_eq e.symm))))).trans (Chg.of_grown G5.out (fun k e _ => .inr (.inr (.inl (by injection e with e; exact e.symm))))) (fun _ _ x => x)
      have hF2 : ∀ k, k < w1.heap.size → (k = fx ∨ k = r ∨ k = m ∨ w1.heap.size ≤ k) → F k := fun k hk e => by
        rcases e with e | e | e | e
        · exact e ▸ H1.out.inF.2.1
        · exact e ▸ H1.out.inF.2.2.2
        · exact e ▸ H1.out.inF.2.2.1
        · omega
      have hz := Z1.out
      have hsz := hc.size
      refine ⟨rfl, P1.out.heap (hc.block _ P1.out.lt (fun e => hF (hF2 _ P1.out.lt e))), ⟨fx, m, r, _, ((HJ.out.cleared R5.out G5.out).congr (fun i hi => midS_end left H1.out HL.out i hi)).ext (by omega)⟩, ?_⟩
      exact (Chg.of_grown G1.out (fun k e _ => .inr (by injection e with e; exact e.symm))).trans hc (fun k hk e => .inl (hF2 k (by omega) e))
    · intro i t w3 cnt3 hi hli hgi lr3 hlt g3 z3 hen
      have hnl := (H1.out.some_ i t hi hgi).1
      have NL := Lib.hid hnl
      have HG := Lib.hid hgi
      have HLI := Lib.hid hli
      have LT := Lib.hid hlt
      have L3 := Lib.hid lr3
      have G3 := Lib.hid g3
      have hrr : w1.heap.size ≤ w1.heap.size := Nat.le_refl _
      have H3 := Lib.hid (HJ.out.kept (G := fun k => k = w1.heap.size) (Chg.of_grown g3 (fun k e _ => by injection e with e; exact e.symm)) (fun k x e => by
        have : k < w1.heap.size := H1.out.bound k x
        omega))
      clear hnl hgi hli hlt lr3 g3 z3 c0 c1 c2 c3 c4 c5 fr
      obtain ⟨c0, c1, c2, c3, c4, c5, fr⟩ := H3.out.cells
      go_wp2_with fail
      refine (stands_any H3.out i hi).mono ?_; rintro e w4 ⟨rfl, b4⟩
      have H4 := Lib.hid (H3.out.below b4)
      have B4 := Lib.hid b4
      have L4 := Lib.hid (L3.out.heap (b4.block _ L3.out.lm.lt) (b4.block _ L3.out.lt))
      clear b4 c0 c1 c2 c3 c4 c5 fr
      go_wp2_with fail
      refine (fix_any H4.out i hi _ (H4.out.sec hi).2.2).mono ?_; rintro e w5 ⟨rfl, h5, c5⟩
      rw [midS_step left i NL.out (by rw [HG.out]; rfl) HLI.out] at h5
      have H5 := Lib.hid h5
      have C5 := Lib.hid c5
      have hb1 := H1.out.bound
      have L5 := Lib.hid (L4.out.heap (c5.block _ L4.out.lm.lt (fun e => by
        obtain ⟨n1, n2, n3⟩ := H4.out.ne_m
        rcases e with e | e
        · exact n2 e.symm
        · exact n3 e.symm)) (c5.block _ L4.out.lt (fun e => by
        have h1 := hb1 _ H1.out.inF.2.1
        have h2 := hb1 _ H1.out.inF.2.2.2
        rcases e with e | e <;> omega)))
      clear h5 c5 hb1
      go_wp2
      go_roundw
      case rel =>
        refine ⟨_, _, L5, H5, ?_⟩
        refine ((CJ.out.trans (Chg.of_grown (F := fun k => k = fx ∨ k = r ∨ k = w1.heap.size) G3.out (fun k e _ => .inr (.inr (by injection e with e; exact e.symm)))) (fun _ _ x => x)).trans (Chg.of_below (F := fun _ => False) B4.out) (fun _ _ x => x.elim)).trans C5.out (fun k _ e => by
          rcases e with e | e
          · exact .inl e
          · exact .inr (.inl e))
      case measure =>
        rw [L5.out.left_eq, LRJ.out.left_eq]
        exact LT.out
end
end Go.Proofs.Ytdkniholeaiemaa.W
