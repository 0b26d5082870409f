/-
  More on rows of values of one cell each: empty ones, make with room, clear, rows of unlike types. No conditions.
-/
import Derived.Test.YtdkniholeaiemaaRowMem
import Derived.Lib.SliceRun
namespace Go.Proofs.Ytdkniholeaiemaa.Rw
open Go.RowKit

section
variable {w w' : World} {e e2 : TypeId} {B B2 : Nat} {v v2 : Value} {vs vs2 : List Value}
theorem OwnV.empty (w : World) (e : TypeId) (B : Nat) (hB : B ≤ w.heap.size) : OwnV (w.alloc (.cells #[] e)) e B (.slice (some ⟨w.heap.size, 0, none⟩) 0 0) [] := World.ownsRow_lit (base := B) (e := e) (size := 1) w #[] 0 hB (by decide) rfl
theorem OwnV.block (h : OwnV w e B v vs) {g : Nat} (hg : v.ownBlock = some g) : ∃ cur, w.heap[g]? = some (.cells cur e (0, 0)) := by
  rcases h.2 with ⟨rfl, _⟩ | ⟨g', cap, cur, rfl, _, hh, _⟩
  · cases hg
  · have : g' = g := by simpa [Value.ownBlock] using hg
    subst this
    exact ⟨cur, hh⟩
/-- what turns in a row of another type leaves this one -/
theorem OwnV.apart (h : OwnV w e B v vs) (h2 : OwnV w e2 B2 v2 vs2) (hT : e ≠ e2) (hg : w.grownBy w' v2.ownBlock) : OwnV w' e B v vs :=
  h.keep fun g hv => hg.block g (h.ge g hv).2 fun hn => by
    obtain ⟨c1, k1⟩ := h.block hv
    obtain ⟨c2, k2⟩ := h2.block hn.symm
    rw [k1] at k2
    injection k2 with k2
    injection k2 with _ k3
    exact hT k3
/-- what turns in another row leaves this one -/
theorem OwnV.other (h : OwnV w e B v vs) {row : Option Nat} (hg : w.grownBy w' row) (hne : ∀ g, v.ownBlock = some g → some g ≠ row) : OwnV w' e B v vs :=
  h.keep fun g hv => hg.block g (h.ge g hv).2 (hne g hv)
end

theorem fill_take (vs : List Value) (u : Value) (us : List Value) (k : Nat) (h : k < vs.length) : (vs.set k u).take (k + 1) ++ us = vs.take k ++ u :: us := by
  rw [List.take_succ_eq_append_getElem (by rw [List.length_set]; exact h), List.take_set_of_le (Nat.le_refl k), List.getElem_set_self, List.append_assoc]
  rfl
theorem grown_step {a b c : World} {R : Option Nat} (h : a.grownBy b R) (k : b.grownBy c R) : a.grownBy c R :=
  ⟨k.os.trans h.os, k.tape.trans h.tape, k.output.trans h.output, Nat.le_trans h.size k.size, fun i hi hn => (k.block i (Nat.lt_of_lt_of_le hi h.size) hn).trans (h.block i hi hn)⟩
theorem OwnV.fill {e : TypeId} {B g cap n : Nat} : ∀ (us : List Value) (k : Nat) (w : World) (vs : List Value), OwnV w e B (.slice (some ⟨g, 0, none⟩) n cap) vs → vs.length = n → k + us.length = n →
    OwnV (w.setCells g k us) e B (.slice (some ⟨g, 0, none⟩) n cap) (vs.take k ++ us) ∧ w.grownBy (w.setCells g k us) (some g)
  | [], k, w, vs, h, hn, hk => by
    rw [List.append_nil, List.take_of_length_le (by simp at hk; omega)]
    exact ⟨h, World.grownBy.refl w _⟩
  | u :: us, k, w, vs, h, hn, hk => by
    rw [List.length_cons] at hk
    obtain ⟨h1, g1⟩ := h.set (j := k) hn u
    obtain ⟨h2, g2⟩ := OwnV.fill us (k + 1) (w.setCell ⟨g, k, none⟩ u) (vs.set k u) h1 (by rw [List.length_set]; exact hn) (by omega)
    rw [fill_take vs u us k (by omega)] at h2
    exact ⟨h2, grown_step g1 g2⟩
/-- clear of a row of the call's own -/
theorem OwnV.clear {P : Program} {t e : TypeId} {z : Value} {bytes : Nat} {w : World} {B : Nat} {v : Value} {vs : List Value} (hT : ElTy P t e z bytes) (h1 : z.oneCell' = true) (h : OwnV w e B v vs) :
    ∃ w', (∀ ty, (Builtin.clear_ #[t] ty #[v]).run P w = .ok (.tuple #[]) w') ∧ OwnV w' e B v (List.replicate vs.length z) ∧ w.grownBy w' v.ownBlock := by
  obtain ⟨i, hi, hz0, hz1, hz2⟩ := info_parts hT.info
  have hv : ∀ w, (zeroValue e).run P w = .ok z w := fun w => by simp [zeroValue, typeInfo, hi, hz0]
  rcases Nat.eq_zero_or_pos vs.length with h0 | h0
  · have hx : vs = [] := List.eq_nil_of_length_eq_zero h0
    subst hx
    refine ⟨w, fun ty => ?_, h, World.grownBy.refl w _⟩
    obtain ⟨A, c, rfl, _⟩ := h.form rfl
    cases A <;> simp [Builtin.clear_, run_underlying hT.sl]
  · obtain ⟨g, cap, rfl, hb, hc⟩ := h.here rfl h0
    obtain ⟨h2, g2⟩ := OwnV.fill (List.replicate vs.length z) 0 w vs h rfl (by simp)
    refine ⟨_, fun ty => Lib.run_clear_slice w t e ty z hT.sl hv hT.one h1 g 0 vs.length cap h0 (fun j hj => ?_) (fun j hj => ?_), ?_, g2⟩
    · rw [Nat.zero_add, (h.cell rfl (List.getElem?_eq_getElem hj)).1]; rfl
    · rw [Nat.zero_add]; exact (h.cell rfl (List.getElem?_eq_getElem hj)).2
    · rwa [List.take_zero, List.nil_append] at h2

/-- make of no values, with room for n -/
theorem wpList_make_room {P : Program} {w : World} {ops : Array Oper} {rest : List Oper} {o : Oper} {a : Act} {Q : Exit → Act → World → Prop} (hgd : o.guard = none) (l c : Operand) (t : TypeId) (hop : o.op = Op.makeSlice t l c)
    {e : TypeId} {z : Value} {bytes : Nat} (hT : ElTy P t e z bytes) (C : Int) (n : Nat) (hl : a.eval l = .int .i64 0) (hc : a.eval c = .int .i64 C) (hC : C = (n : Int)) (hn : n ≤ 1000000000000)
    (hK : ∀ w', OwnV w' e w.heap.size (.slice (some ⟨w.heap.size, 0, none⟩) 0 n) [] → Below w.heap.size w w' → wpList P ops Q rest (a.put o.dst (.slice (some ⟨w.heap.size, 0, none⟩) 0 n)) w') : wpList P ops Q (o :: rest) a w := by
  obtain ⟨i, hi, hz0, hz1, hz2⟩ := info_parts hT.info
  have hb := hT.small
  have hbm : bytes * n ≤ 64 * 1000000000000 := Nat.mul_le_mul hb hn
  refine wpList_make_own w hgd l c t hop w.heap.size e i z 1 hT.sl hi hz0 hz1 .i64 .i64 C n hl hc hC (by rw [hz2]; omega) (by unfold maxLen; omega) (Nat.le_refl _) fun w' h1 h2 => hK w' h1 ?_
  exact (Below.refl _ _).grown h2 (Nat.le_refl _) (fun _ h => by cases h)
end Go.Proofs.Ytdkniholeaiemaa.Rw
