/-
  Elder texts, one behind the other: DvRask, DvRread, DvRflush, DvRloose, DvFit. No conditions.
-/
import Derived.Test.YtikbbikcacoobaaDoorKDn
/-! The document's power: Fuse, spend; its devices: Has, Stands, Read. No conditions. -/
namespace Go.Proofs.YtikbbikcacoobaaDoor.Dw
set_option maxRecDepth 100000
open Go.RowKit Oc Dm Gt
set_option linter.unusedVariables false
/-- the document's power turned -/
def QTurned (w : World) (q : Nat) (s' : PS) (v : Value) (e : Ending) (w' : World) : Prop := e = .returned v ∧ Qw w' q s' ∧ w.grownBy w' (some q) ∧ w'.heap.size = w.heap.size
section
variable {w w' : World} {q : Nat} {s : PS}
theorem Qw.cells (h : Qw w q s) : ∃ l : Int, w.heap[q]? = some (.cells #[.bool s.off, .bool s.fuse.isSome, .int .i64 l, .int .i64 (s.done : Int)] 95 (0, 0)) ∧ (∀ k, s.fuse = some k → l = (k : Int)) ∧ w.cell? ⟨q, 0, none⟩ = some (.bool s.off) ∧ w.cell? ⟨q, 1, none⟩ = some (.bool s.fuse.isSome) ∧ w.cell? ⟨q, 2, none⟩ = some (.int .i64 l) ∧ w.cell? ⟨q, 3, none⟩ = some (.int .i64 (s.done : Int)) ∧ (∀ i, w.frozen? ⟨q, i, none⟩ = false) := by
  obtain ⟨l, h1, h2⟩ := h.head
  refine ⟨l, h1, h2, ?_, ?_, ?_, ?_, fun i => frozen_of_row w q i _ _ h1⟩ <;> rw [cell_of_row w q _ _ _ (0, 0) h1] <;> rfl
end
section
variable {w w' : World} {G G' : Nat → Prop} {E q n : Nat} {S : Nat → Sec} {rd wr gs : Nat} {vs : Nat → Value} {s : PS}
theorem RvAt.cells (h : RvAt w G E q n S rd wr gs vs) : w.cell? ⟨E, 0, none⟩ = some (.pointer (some ⟨q, 0, none⟩)) ∧ w.cell? ⟨E, 1, none⟩ = some (.slice (some ⟨gs, 0, none⟩) n n) ∧ w.cell? ⟨E, 2, none⟩ = some (.int .u64 (rd : Int)) ∧ w.cell? ⟨E, 3, none⟩ = some (.int .u64 (wr : Int)) ∧ (∀ i, w.frozen? ⟨E, i, none⟩ = false) := by
  refine ⟨?_, ?_, ?_, ?_, fun i => frozen_of_row w E i _ _ h.head⟩ <;> rw [cell_of_row w E _ _ _ (0, 0) h.head] <;> rfl
theorem RvAt.sec (h : RvAt w G E q n S rd wr gs vs) {i : Nat} (hi : i < n) : w.cell? ⟨gs, i * 3, none⟩ = some (tx (S i).fixed) ∧ w.cell? ⟨gs, i * 3 + 1, none⟩ = some (vs i) ∧ w.cell? ⟨gs, i * 3 + 2, none⟩ = some (.bool (S i).rotten) ∧ ∀ j, w.frozen? ⟨gs, j, none⟩ = false := by
  refine ⟨?_, ?_, ?_, fun j => h.row.frozen j⟩
  · rw [h.row.cell (by omega), oc0]
  · rw [h.row.cell (by omega), oc1]
  · rw [h.row.cell (by omega), oc2]
theorem rhas_any (h : RvAt w G E q n S rd wr gs vs) (z : Int) : Calls Tryd.prog 77 #[.pointer (some ⟨E, 0, none⟩), .int .i64 z] w fun e w' => e = .returned (.bool (decide (0 ≤ z ∧ z < (n : Int)))) ∧ w = w' := by
  obtain ⟨c0, c1, c2, c3, fr⟩ := h.cells
  have hn := h.hn
  clear h
  by_cases h0 : 0 ≤ z
  · by_cases h1 : z < (n : Int)
    · go_enter Tryd.func77, Tryd.ntmps77
      go_wp2
      go_ret
      exact ⟨by simp [h0, h1], rfl⟩
    · go_enter Tryd.func77, Tryd.ntmps77
      go_wp2
      go_ret
      exact ⟨by simp [h1], rfl⟩
  · go_enter Tryd.func77, Tryd.ntmps77
    go_wp2
    go_ret
    exact ⟨by congr 2; simp; omega, rfl⟩
theorem rstands_any (h : RvAt w G E q n S rd wr gs vs) (i : Nat) (hi : i < n) : Calls Tryd.prog 78 #[.pointer (some ⟨E, 0, none⟩), .int .i64 (i : Int)] w fun e w' => e = .returned (tx (S i).stands) ∧ w = w' := by
  obtain ⟨c0, c1, c2, c3, fr⟩ := h.cells
  obtain ⟨s0, s1, s2, sf⟩ := h.sec hi
  obtain ⟨A, c, hv, hlc, hcm, hsl, hG⟩ := h.loose i hi
  have hn := h.hn
  have hi2 : (i : Int) < (n : Int) := by omega
  rw [hv] at s1
  clear h hv hG
  by_cases hl : (S i).loose = []
  · rw [hl] at s1
    have ES : Hid (tx (S i).stands = .string (bstr (S i).fixed)) := Lib.hid (by rw [Sec.stands_fixed hl]; rfl)
    rw [List.length_nil] at s1
    have s0' : w.cell? ⟨gs, i * 3, none⟩ = some (.string (bstr (S i).fixed)) := s0
    clear s0 hl hsl hlc
    generalize bstr (S i).fixed = B0 at ES s0'
    go_enter Tryd.func78, Tryd.ntmps78
    go_wp2
    go_ret
    exact ⟨by rw [ES.out]; rfl, rfl⟩
  · obtain ⟨k, hk⟩ : ∃ k, (S i).loose.length = k + 1 := ⟨(S i).loose.length - 1, by have := List.length_pos_iff.2 hl; omega⟩
    have ES : Hid (tx (S i).stands = .string (bstr ((S i).loose.getD k []))) := Lib.hid (by rw [Sec.stands_loose hl, hk]; rfl)
    obtain ⟨b, off, rfl, hc⟩ := Rw.Sl.at_ hsl (k := k) (u := .string (bstr ((S i).loose.getD k []))) (by rw [List.getElem?_map, List.getElem?_eq_getElem (by omega)]; simp [tx, List.getD, List.getElem?_eq_getElem (show k < (S i).loose.length by omega)])
    rw [hk] at s1 hlc
    clear hsl hl s0
    generalize bstr ((S i).loose.getD k []) = B0 at ES hc
    have hc1 : ((k + 1 : Nat) : Int) = (k : Int) + 1 := by omega
    have hmx : maxLen ≤ 9223372036854775807 := by decide
    have hkm : (k : Int) + 1 ≤ 9223372036854775807 := by omega
    clear hmx hcm hlc
    clear hk
    go_enter Tryd.func78, Tryd.ntmps78
    go_wp2
    go_ret
    exact ⟨by rw [ES.out]; rfl, rfl⟩
theorem RvAt.ne (h : RvAt w G E q n S rd wr gs vs) : E ≠ gs ∧ ∀ i, i < n → ∀ A c b off, vs i = .slice A (S i).loose.length c → 0 < (S i).loose.length → A = some ⟨b, off, none⟩ → b ≠ E := by
  refine ⟨fun e => ?_, fun i hi A c b off hv hp hA e => ?_⟩
  · obtain ⟨cs, hc, _⟩ := h.row
    rw [← e, h.head] at hc; cases hc
  · obtain ⟨A', c', hv', _, _, hsl, _⟩ := h.loose i hi
    rw [hv] at hv'
    injection hv' with e1 e2 e3
    subst e1 hA e
    obtain ⟨b', off', e', hc⟩ := Rw.Sl.at_ hsl (k := 0) (u := .string (bstr ((S i).loose.getD 0 []))) (by rw [List.getElem?_map, List.getElem?_eq_getElem hp]; simp [tx, List.getD, List.getElem?_eq_getElem hp])
    injection e' with e'
    injection e' with e1 e2
    subst e1 e2
    rw [cell_of_row w b _ _ _ (0, 0) h.head] at hc
    have : ∀ j : Nat, j < 4 ∨ 4 ≤ j := fun j => by omega
    rcases this (off + 0) with hj | hj
    · generalize off + 0 = j at hc hj
      match j, hj with
      | 0, _ => cases hc
      | 1, _ => cases hc
      | 2, _ => cases hc
      | 3, _ => cases hc
    · rw [Array.getElem?_eq_none (by simpa using hj)] at hc; cases hc
/-- only its plans of failures turned -/
theorem RvAt.turn (h : RvAt w G E q n S rd wr gs vs) {rd' wr' : Nat} (hu : rd' < 18446744073709551616) (hv : wr' < 18446744073709551616) (hh : w'.heap[E]? = some (.cells #[.pointer (some ⟨q, 0, none⟩), .slice (some ⟨gs, 0, none⟩) n n, .int .u64 (rd' : Int), .int .u64 (wr' : Int)] 113 (0, 0))) (ho : ∀ k, k ≠ E → w'.heap[k]? = w.heap[k]?) (hs : w'.heap.size = w.heap.size) : RvAt w' G E q n S rd' wr' gs vs where
  head := hh
  row := h.row.of_block (ho _ (fun e => h.ne.1 e.symm))
  loose := fun i hi => by
    obtain ⟨A, c, e, h1, h2, h3, h4⟩ := h.loose i hi
    exact ⟨A, c, e, h1, h2, h3.heap (fun b off hn e' => ho _ (h.ne.2 i hi A c b off e hn e')), h4⟩
  hn := h.hn
  hrd := hu
  hwr := hv
  inG := h.inG
  bound := fun k x => by rw [hs]; exact h.bound k x
theorem RvAt.set2 (h : RvAt w G E q n S rd wr gs vs) (u : Nat) (hu : u < 18446744073709551616) : RvAt (w.setCell ⟨E, 2, none⟩ (.int .u64 (u : Int))) G E q n S u wr gs vs :=
  h.turn hu h.hwr (by rw [heap_setCell_same _ _ _ _ _ _ h.head]; simp) (fun k hk => heap_setCell_other w _ k _ hk) (size_cell ..)
theorem RvAt.set3 (h : RvAt w G E q n S rd wr gs vs) (u : Nat) (hu : u < 18446744073709551616) : RvAt (w.setCell ⟨E, 3, none⟩ (.int .u64 (u : Int))) G E q n S rd u gs vs :=
  h.turn h.hrd hu (by rw [heap_setCell_same _ _ _ _ _ _ h.head]; simp) (fun k hk => heap_setCell_other w _ k _ hk) (size_cell ..)
end
end Go.Proofs.YtikbbikcacoobaaDoor.Dw

/-! The document's devices: Read. No conditions. -/
namespace Go.Proofs.YtikbbikcacoobaaDoor.Dw
set_option maxRecDepth 100000
open Go.RowKit Oc Dm Gt
set_option linter.unusedVariables false
set_option maxRecDepth 100000
section
variable {w w' : World} {G G' : Nat → Prop} {E q n : Nat} {S : Nat → Sec} {rd wr gs : Nat} {vs : Nat → Value} {s : PS}
theorem rread_off (h : RvAt w G E q n S rd wr gs vs) (hq : Qw w q s) (ho : s.off = true) (z : Int) : Calls Tryd.prog 70 #[.pointer (some ⟨E, 0, none⟩), .int .i64 z] w fun e w' => e = .returned (.tuple #[.string ⟨#[]⟩, .int .i64 80]) ∧ w = w' := by
  obtain ⟨c0, c1, c2, c3, fr⟩ := h.cells
  obtain ⟨l, hh, hl, d0, d1, d2, d3, fr2⟩ := hq.cells
  rw [ho] at d0
  clear h hq hh hl
  go_enter Tryd.func70, Tryd.ntmps70
  go_wp2
  go_ret2
  exact ⟨rfl, rfl⟩
theorem rread_no (h : RvAt w G E q n S rd wr gs vs) (hq : Qw w q s) (ho : s.off = false) (z : Int) (hz : z < 0 ∨ (n : Int) ≤ z) : Calls Tryd.prog 70 #[.pointer (some ⟨E, 0, none⟩), .int .i64 z] w fun e w' => e = .returned (.tuple #[.string ⟨#[]⟩, .int .i64 3]) ∧ w = w' := by
  have H := Lib.hid h
  obtain ⟨c0, c1, c2, c3, fr⟩ := h.cells
  obtain ⟨l, hh, hl, d0, d1, d2, d3, fr2⟩ := hq.cells
  rw [ho] at d0
  have hd : decide (0 ≤ z ∧ z < (n : Int)) = false := by simp; omega
  clear h hq hh hl hz
  go_enter Tryd.func70, Tryd.ntmps70
  go_wp2_with fail
  refine (rhas_any H.out z).mono ?_; rintro e w' ⟨rfl, rfl⟩
  rw [hd]
  go_wp2
  go_ret2
  exact ⟨rfl, rfl⟩
theorem rread_io (h : RvAt w G E q n S rd wr gs vs) (hq : Qw w q s) (ho : s.off = false) (i : Nat) (hi : i < n) (hr : rd % 2 = 1) : Calls Tryd.prog 70 #[.pointer (some ⟨E, 0, none⟩), .int .i64 (i : Int)] w fun e w' => e = .returned (.tuple #[.string ⟨#[]⟩, .int .i64 81]) ∧ RvAt w' G E q n S (rd / 2) wr gs vs ∧ w.grownBy w' (some E) ∧ w'.heap.size = w.heap.size := by
  have H := Lib.hid h
  obtain ⟨c0, c1, c2, c3, fr⟩ := h.cells
  obtain ⟨l, hh, hl, d0, d1, d2, d3, fr2⟩ := hq.cells
  rw [ho] at d0
  have hd : decide (0 ≤ (i : Int) ∧ (i : Int) < (n : Int)) = true := by simp; omega
  have hrd := h.hrd
  have hm : (rd : Int) % 2 = 1 := by omega
  obtain ⟨u, hu⟩ : ∃ u, rd / 2 = u := ⟨_, rfl⟩
  have hq2 : (rd : Int) / 2 = (u : Int) := by omega
  have hu2 : u < 18446744073709551616 := by omega
  rw [hu]
  clear h hq hh hl hu
  go_enter Tryd.func70, Tryd.ntmps70
  go_wp2_with fail
  refine (rhas_any H.out i).mono ?_; rintro e w' ⟨rfl, rfl⟩
  rw [hd]
  go_wp2
  go_ret2
  exact ⟨rfl, H.out.set2 u hu2, grown_cell .., size_cell ..⟩
theorem rread_yes (h : RvAt w G E q n S rd wr gs vs) (hq : Qw w q s) (ho : s.off = false) (i : Nat) (hi : i < n) (hr : rd % 2 = 0) : Calls Tryd.prog 70 #[.pointer (some ⟨E, 0, none⟩), .int .i64 (i : Int)] w fun e w' => e = .returned (.tuple #[tx (S i).stands, .int .i64 0]) ∧ RvAt w' G E q n S (rd / 2) wr gs vs ∧ w.grownBy w' (some E) ∧ w'.heap.size = w.heap.size := by
  have H := Lib.hid h
  obtain ⟨c0, c1, c2, c3, fr⟩ := h.cells
  obtain ⟨l, hh, hl, d0, d1, d2, d3, fr2⟩ := hq.cells
  rw [ho] at d0
  have hd : decide (0 ≤ (i : Int) ∧ (i : Int) < (n : Int)) = true := by simp; omega
  have hrd := h.hrd
  have hm : (rd : Int) % 2 = 0 := by omega
  obtain ⟨u, hu⟩ : ∃ u, rd / 2 = u := ⟨_, rfl⟩
  have hq2 : (rd : Int) / 2 = (u : Int) := by omega
  have hu2 : u < 18446744073709551616 := by omega
  rw [hu]
  have H4 := Lib.hid (h.set2 u hu2)
  clear h hq hh hl hu
  go_enter Tryd.func70, Tryd.ntmps70
  go_wp2_with fail
  refine (rhas_any H.out i).mono ?_; rintro e w' ⟨rfl, rfl⟩
  rw [hd]
  go_wp2_with fail
  refine (rstands_any H4.out i hi).mono ?_; rintro e w' ⟨rfl, rfl⟩
  go_wp2
  go_ret2
  exact ⟨rfl, H4.out, grown_cell .., size_cell ..⟩
end
end Go.Proofs.YtikbbikcacoobaaDoor.Dw

/-! The document's devices: Flush. No conditions. -/
namespace Go.Proofs.YtikbbikcacoobaaDoor.Dw
set_option maxRecDepth 100000
open Go.RowKit Oc Dm Gt
set_option linter.unusedVariables false
set_option maxRecDepth 100000
section
variable {w w' : World} {G G' : Nat → Prop} {E q n : Nat} {S : Nat → Sec} {rd wx gs : Nat} {vs : Nat → Value} {s : PS}
/-- sector i anew, with its row of loose writes -/
theorem RvAt.put (h : RvAt w G E q n S rd wx gs vs) {i : Nat} (hi : i < n) (x : Sec) (v : Value) (hG : ∀ k, G k → G' k) (hb : ∀ k, G' k → k < w'.heap.size) (r : w'.rowIs gs 116 (n * 3) (oc (upd S i x) (upd vs i v))) (hk : ∀ k, k < w.heap.size → k ≠ gs → w'.heap[k]? = w.heap[k]?)
    (hv : ∃ A c, v = .slice A x.loose.length c ∧ x.loose.length ≤ c ∧ c ≤ maxLen ∧ Rw.Sl w' A x.loose.length (x.loose.map tx) ∧ ∀ b off, 0 < x.loose.length → A = some ⟨b, off, none⟩ → G' b ∧ b ≠ gs) : RvAt w' G' E q n (upd S i x) rd wx gs (upd vs i v) where
  head := (hk _ (lt_of_heap h.head) h.ne.1).trans h.head
  row := r
  loose := fun j hj => by
    by_cases e : j = i
    · subst e; rw [upd_same, upd_same]; exact hv
    · rw [upd_other _ _ e, upd_other _ _ e]
      obtain ⟨A, c, e, h1, h2, h3, h4⟩ := h.loose j hj
      exact ⟨A, c, e, h1, h2, h3.heap (fun b off hn e' => hk _ (h.bound _ (h4 b off hn e').1) (h4 b off hn e').2), fun b off hn e' => ⟨hG _ (h4 b off hn e').1, (h4 b off hn e').2⟩⟩
  hn := h.hn
  hrd := h.hrd
  hwr := h.hwr
  inG := ⟨hG _ h.inG.1, hG _ h.inG.2⟩
  bound := hb
theorem oc_put {w : World} {gs n i : Nat} {S : Nat → Sec} {vs : Nat → Value} (h : w.rowIs gs 116 (n * 3) (oc S vs)) (x : Sec) (v : Value) :
    (((w.setCell ⟨gs, i * 3, none⟩ (tx x.fixed)).setCell ⟨gs, i * 3 + 1, none⟩ v).setCell ⟨gs, i * 3 + 2, none⟩ (.bool x.rotten)).rowIs gs 116 (n * 3) (oc (upd S i x) (upd vs i v)) := by
  refine (((h.set (i * 3) (tx x.fixed)).set (i * 3 + 1) v).set (i * 3 + 2) (.bool x.rotten)).congr (fun j hj => ?_)
  have hm : j % 3 = 0 ∨ j % 3 = 1 ∨ j % 3 = 2 := by omega
  by_cases e : j / 3 = i
  · rcases hm with m | m | m
    · have : j = i * 3 := by omega
      subst this
      rw [oc0 (upd S i x), upd_same, if_neg (by omega), if_neg (by omega), if_pos rfl]
    · have : j = i * 3 + 1 := by omega
      subst this
      rw [oc1 (upd S i x), upd_same, if_neg (by omega), if_pos rfl]
    · have : j = i * 3 + 2 := by omega
      subst this
      rw [oc2 (upd S i x), upd_same, if_pos rfl]
  · rw [if_neg (by omega), if_neg (by omega), if_neg (by omega)]
    unfold oc
    rw [upd_other _ _ e, upd_other _ _ e]
theorem put3_at (h : RvAt w G E q n S rd wx gs vs) {i : Nat} (hi : i < n) (x : Sec) (hx : x.loose = []) {B : ByteArray} (hB : tx x.fixed = .string B) {w' : World} (hw : w' = (((w.setCell ⟨gs, i * 3, none⟩ (.string B)).setCell ⟨gs, i * 3 + 1, none⟩ (.slice none 0 0)).setCell ⟨gs, i * 3 + 2, none⟩ (.bool x.rotten)).drew := by rfl) :
    RvAt w' G E q n (upd S i x) rd wx gs (upd vs i (.slice none 0 0)) ∧ (∀ k, k ≠ gs → w'.heap[k]? = w.heap[k]?) ∧ Chg (fun k => k = gs) w w' := by
  subst hw
  have ho : ∀ k, k ≠ gs → ((((w.setCell ⟨gs, i * 3, none⟩ (.string B)).setCell ⟨gs, i * 3 + 1, none⟩ (.slice none 0 0)).setCell ⟨gs, i * 3 + 2, none⟩ (.bool x.rotten)).drew).heap[k]? = w.heap[k]? := fun k hk => by
    show (((w.setCell ⟨gs, i * 3, none⟩ (.string B)).setCell ⟨gs, i * 3 + 1, none⟩ (.slice none 0 0)).setCell ⟨gs, i * 3 + 2, none⟩ (.bool x.rotten)).heap[k]? = w.heap[k]?
    rw [heap_setCell_other _ _ _ _ hk, heap_setCell_other _ _ _ _ hk, heap_setCell_other _ _ _ _ hk]
  have r := oc_put (i := i) h.row x (.slice none 0 0)
  rw [hB] at r
  have hs : ((((w.setCell ⟨gs, i * 3, none⟩ (.string B)).setCell ⟨gs, i * 3 + 1, none⟩ (.slice none 0 0)).setCell ⟨gs, i * 3 + 2, none⟩ (.bool x.rotten)).drew).heap.size = w.heap.size := by
    show (((w.setCell ⟨gs, i * 3, none⟩ (.string B)).setCell ⟨gs, i * 3 + 1, none⟩ (.slice none 0 0)).setCell ⟨gs, i * 3 + 2, none⟩ (.bool x.rotten)).heap.size = _
    rw [size_cell, size_cell, size_cell]
  refine ⟨h.put hi x _ (fun _ y => y) (fun k y => by rw [hs]; exact h.bound k y) r (fun k _ hk => ho k hk) ⟨none, 0, by rw [hx]; rfl, by rw [hx]; exact Nat.le_refl _, by decide, by rw [hx]; exact ⟨rfl, fun h => absurd h (by decide)⟩, fun b off _ e => by cases e⟩, ho, ?_⟩
  exact (Chg.of_grown (grown2 (grown2 (grown_cell ..) (grown_cell ..)) (grown_cell ..)) (fun k e _ => by injection e with e; exact e.symm)).drew
/-- the first j sectors are flushed -/
def rmid (S : Nat → Sec) (j i : Nat) : Sec := if i < j then flushS S i else S i
theorem rmid_skip {S : Nat → Sec} {j : Nat} (h : (S j).loose = []) : rmid S j = rmid S (j + 1) := by
  funext i
  unfold rmid
  by_cases e : i = j
  · subst e
    rw [if_neg (by omega), if_pos (by omega), flushS, if_pos h]
  · by_cases h1 : i < j
    · rw [if_pos h1, if_pos (by omega)]
    · rw [if_neg h1, if_neg (by omega)]
theorem rmid_step {S : Nat → Sec} {j : Nat} (h : (S j).loose ≠ []) : upd (rmid S j) j ⟨(S j).stands, [], false⟩ = rmid S (j + 1) := by
  funext i
  unfold upd
  show (if i = j then _ else rmid S j i) = _
  unfold rmid
  by_cases e : i = j
  · subst e
    rw [if_pos rfl, if_pos (by omega), flushS, if_neg h]
  · rw [if_neg e]
    by_cases h1 : i < j
    · rw [if_pos h1, if_pos (by omega)]
    · rw [if_neg h1, if_neg (by omega)]
theorem RvAt.congrS {S' : Nat → Sec} (h : RvAt w G E q n S rd wx gs vs) (e : ∀ i, i < n → S' i = S i) : RvAt w G E q n S' rd wx gs vs :=
  { h with
    row := h.row.congr (fun j hj => by unfold oc; rw [e (j / 3) (by omega)])
    loose := fun i hi => by rw [e i hi]; exact h.loose i hi }
end
end Go.Proofs.YtikbbikcacoobaaDoor.Dw

/-! The document's devices: Loose. No conditions. -/
namespace Go.Proofs.YtikbbikcacoobaaDoor.Dw
set_option maxRecDepth 100000
open Go.RowKit Oc Dm Gt
set_option linter.unusedVariables false
set_option maxRecDepth 100000
theorem loose_step (S : Nat → Sec) (j : Nat) : looseOf (j + 1) S = looseOf j S ++ (if (S j).loose = [] then [] else [(j, (S j).loose.length)]) := by
  unfold looseOf
  rw [List.range_succ, List.filterMap_append]
  congr 1
  by_cases h : (S j).loose = []
  · simp [h]
  · simp [h]
/-- the row that the document tells -/
def RToldL (w : World) (ps : List (Nat × Nat)) (e : Ending) (w' : World) : Prop := ∃ A c, e = .returned (.slice A ps.length c) ∧ Lo w' A ps.length ps ∧ Below w.heap.size w w'
section
variable {w w' : World} {G G' : Nat → Prop} {E q n : Nat} {S : Nat → Sec} {rd wx gs : Nat} {vs : Nat → Value} {s : PS}
end
end Go.Proofs.YtikbbikcacoobaaDoor.Dw

/-! Fates made to fit. No conditions. -/
namespace Go.Proofs.YtikbbikcacoobaaDoor.Dw
set_option maxRecDepth 100000
open Go.RowKit Oc Dm Gt
set_option linter.unusedVariables false
set_option maxRecDepth 100000
/-- one fate that fits -/
def fit1 (f : Int) (m : Nat) : Int := ((f.tmod ((m : Int) + 1)).natAbs : Int)
theorem fit1_le (f : Int) (m : Nat) : 0 ≤ fit1 f m ∧ fit1 f m ≤ (m : Int) := by
  unfold fit1
  refine ⟨Int.natCast_nonneg _, ?_⟩
  have h1 : (f.tmod ((m : Int) + 1)).natAbs = f.natAbs % (m + 1) := by
    have := Int.natAbs_tmod f ((m : Int) + 1)
    rw [this]
    congr 1
  have h2 : f.natAbs % (m + 1) < m + 1 := Nat.mod_lt _ (by omega)
  omega
def fitOf (ps : List (Nat × Nat)) (fs : List Int) (k : Nat) : List Int := ((List.range k).map fun j => fit1 (fs.getD j 0) (ps.getD j (0, 0)).2)
theorem fitOf_len (ps : List (Nat × Nat)) (fs : List Int) (k : Nat) : (fitOf ps fs k).length = k := by simp [fitOf]
theorem fitOf_step (ps : List (Nat × Nat)) (fs : List Int) (k : Nat) : fitOf ps fs (k + 1) = fitOf ps fs k ++ [fit1 (fs.getD k 0) (ps.getD k (0, 0)).2] := by simp [fitOf, List.range_succ]
theorem fitOf_good (ps : List (Nat × Nat)) (fs : List Int) (k j : Nat) : Good ps (fitOf ps fs k) j := by
  intro f x hf hx
  unfold fitOf at hf
  rw [List.getElem?_map] at hf
  obtain ⟨i, hi, rfl⟩ := Option.map_eq_some_iff.1 hf
  have : i = j := by
    have := List.getElem?_eq_some_iff.1 hi
    obtain ⟨h1, h2⟩ := this
    simpa using h2.symm
  subst this
  have e : ps.getD i (0, 0) = x := by simp [List.getD, hx]
  rw [e]
  exact fit1_le _ _
/-- what Fit tells -/
def Fitted (w : World) (fs : List Int) (e : Ending) (w' : World) : Prop := ∃ A c, e = .returned (.slice A fs.length c) ∧ Fi w' A fs.length fs ∧ Below w.heap.size w w'
end Go.Proofs.YtikbbikcacoobaaDoor.Dw
