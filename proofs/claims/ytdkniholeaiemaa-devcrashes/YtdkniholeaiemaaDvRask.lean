/-
  The document's power: Fuse, spend; its devices: Has, Stands, Read. No conditions.
-/
import Derived.Test.YtdkniholeaiemaaDvActs
namespace Go.Proofs.Ytdkniholeaiemaa.W
open Go.RowKit Oc Dm Gt
set_option linter.unusedVariables false
/-- the document's power turned -/
def QTurned (w : World) (q : Nat) (s' : PS) (v : Value) (e : Ending) (w' : World) : Prop := e = .returned v ∧ Qw w' q s' ∧ w.grownBy w' (some q) ∧ w'.heap.size = w.heap.size
section
variable {w w' : World} {q : Nat} {s : PS}
theorem Qw.cells (h : Qw w q s) : ∃ l : Int, w.heap[q]? = some (.cells #[.bool s.off, .bool s.fuse.isSome, .int .i64 l, .int .i64 (s.done : Int)] 80 (0, 0)) ∧ (∀ k, s.fuse = some k → l = (k : Int)) ∧ w.cell? ⟨q, 0, none⟩ = some (.bool s.off) ∧ w.cell? ⟨q, 1, none⟩ = some (.bool s.fuse.isSome) ∧ w.cell? ⟨q, 2, none⟩ = some (.int .i64 l) ∧ w.cell? ⟨q, 3, none⟩ = some (.int .i64 (s.done : Int)) ∧ (∀ i, w.frozen? ⟨q, i, none⟩ = false) := by
  obtain ⟨l, h1, h2⟩ := h.head
  refine ⟨l, h1, h2, ?_, ?_, ?_, ?_, fun i => frozen_of_row w q i _ _ h1⟩ <;> rw [cell_of_row w q _ _ _ (0, 0) h1] <;> rfl
theorem rfuse_any (h : Qw w q s) (z : Int) : Calls Try.prog 35 #[.pointer (some ⟨q, 0, none⟩), .int .i64 z] w (QTurned w q (PS.fuseS s z) (.int .i64 (PS.fuseE s z))) := by
  have H := Lib.hid h
  obtain ⟨l, hh, hl, c0, c1, c2, c3, fr⟩ := h.cells
  have HH := Lib.hid hh
  clear h hh hl
  cases ho : s.off
  · rw [ho] at c0
    by_cases h1 : z < -1
    · go_enter Try.func35, Try.ntmps35
      go_wp2
      go_ret
      refine ⟨ret_int (by unfold PS.fuseE; simp [ho, h1]), ?_, World.grownBy.refl _ _, rfl⟩
      have e : PS.fuseS s z = s := by unfold PS.fuseS; simp [ho, h1]
      rw [e]; exact H.out
    · by_cases h2 : 1048576 < z
      · go_enter Try.func35, Try.ntmps35
        go_wp2
        go_ret
        refine ⟨ret_int (by unfold PS.fuseE; simp [ho, h2]), ?_, World.grownBy.refl _ _, rfl⟩
        have e : PS.fuseS s z = s := by unfold PS.fuseS; simp [ho, h2]
        rw [e]; exact H.out
      · have H3 : Hid (¬ (z < -1 ∨ 1048576 < z)) := by show ¬ (z < -1 ∨ 1048576 < z); omega
        have e0 : PS.fuseS s z = { s with fuse := if z < 0 then none else some z.toNat } := by unfold PS.fuseS; rw [ho, if_neg H3.out]; rfl
        have E0 := Lib.hid e0
        clear e0
        go_enter Try.func35, Try.ntmps35
        go_wp2
        go_ret
        refine ⟨ret_int (by unfold PS.fuseE; rw [ho, if_neg H3.out]; rfl), ?_, grown2 (grown_cell ..) (grown_cell ..), by rw [size_cell, size_cell]⟩
        rw [E0.out]
        refine ⟨z, ?_, fun k ek => ?_⟩
        · rw [heap_setCell_same _ _ _ _ _ _ (heap_setCell_same _ _ _ _ _ _ HH.out)]
          by_cases hz : z < 0
          · simp [hz, ho, show ¬ (0 ≤ z) by omega]
          · simp [hz, ho, show (0 ≤ z) by omega]
        · by_cases hz : z < 0
          · simp [hz] at ek
          · simp [hz] at ek; omega
  · rw [ho] at c0
    go_enter Try.func35, Try.ntmps35
    go_wp2
    go_ret
    refine ⟨ret_int (by unfold PS.fuseE; simp [ho]), ?_, World.grownBy.refl _ _, rfl⟩
    have e : PS.fuseS s z = s := by unfold PS.fuseS; simp [ho]
    rw [e]; exact H.out
theorem rspend_any (h : Qw w q s) (hf : ∀ k, s.fuse = some k → k ≤ 1048576) (hd : s.done < 1000000000000) : Calls Try.prog 54 #[.pointer (some ⟨q, 0, none⟩)] w (QTurned w q s.spend (.bool (!s.goes))) := by
  obtain ⟨l, hh, hl, c0, c1, c2, c3, fr⟩ := h.cells
  have HH := Lib.hid hh
  clear h hh
  obtain ⟨off, fuse, done⟩ := s
  dsimp only at hd c0 c1 c2 c3 hf hl
  rcases fuse with _ | _ | k
  · rw [Option.isSome_none] at c1
    clear hl
    go_enter Try.func54, Try.ntmps54
    go_wp2
    go_ret
    refine ⟨rfl, ⟨l, ?_, (fun k e => by cases e)⟩, grown_cell .., size_cell ..⟩
    rw [heap_setCell_same _ _ _ _ _ _ HH.out]
    simp [PS.spend]
  · have hl0 : l = 0 := hl 0 rfl
    subst hl0
    rw [Option.isSome_some] at c1
    clear hl
    go_enter Try.func54, Try.ntmps54
    go_wp2
    go_ret
    refine ⟨rfl, ⟨0, ?_, fun k e => by injection e with e; subst e; rfl⟩, grown_cell .., size_cell ..⟩
    rw [heap_setCell_same _ _ _ _ _ _ HH.out]
    rfl
  · have hl0 := hl (k + 1) rfl
    subst hl0
    have hk := hf (k + 1) rfl
    rw [Option.isSome_some] at c1
    have hne : ¬ (((k + 1 : Nat) : Int) = 0) := by omega
    have hsub : ((k + 1 : Nat) : Int) - 1 = (k : Int) := by omega
    clear hl hf
    go_enter Try.func54, Try.ntmps54
    go_wp2
    go_ret
    refine ⟨rfl, ⟨(k : Int), ?_, fun j e => by injection e with e; rw [e]⟩, grown2 (grown_cell ..) (grown_cell ..), by rw [size_cell, size_cell]⟩
    rw [heap_setCell_same _ _ _ _ _ _ (heap_setCell_same _ _ _ _ _ _ HH.out)]
    simp [PS.spend]
end
section
variable {w w' : World} {G G' : Nat → Prop} {E q n : Nat} {S : Nat → Sec} {rd wr gs : Nat} {vs : Nat → Value} {s : PS}
theorem RvAt.cells (h : RvAt w G E q n S rd wr gs vs) : w.cell? ⟨E, 0, none⟩ = some (.pointer (some ⟨q, 0, none⟩)) ∧ w.cell? ⟨E, 1, none⟩ = some (.slice (some ⟨gs, 0, none⟩) n n) ∧ w.cell? ⟨E, 2, none⟩ = some (.int .u64 (rd : Int)) ∧ w.cell? ⟨E, 3, none⟩ = some (.int .u64 (wr : Int)) ∧ (∀ i, w.frozen? ⟨E, i, none⟩ = false) := by
  refine ⟨?_, ?_, ?_, ?_, fun i => frozen_of_row w E i _ _ h.head⟩ <;> rw [cell_of_row w E _ _ _ (0, 0) h.head] <;> rfl
theorem RvAt.sec (h : RvAt w G E q n S rd wr gs vs) {i : Nat} (hi : i < n) : w.cell? ⟨gs, i * 3, none⟩ = some (tx (S i).fixed) ∧ w.cell? ⟨gs, i * 3 + 1, none⟩ = some (vs i) ∧ w.cell? ⟨gs, i * 3 + 2, none⟩ = some (.bool (S i).rotten) ∧ ∀ j, w.frozen? ⟨gs, j, none⟩ = false := by
  refine ⟨?_, ?_, ?_, fun j => h.row.frozen j⟩
  · rw [h.row.cell (by omega), oc0]
  · rw [h.row.cell (by omega), oc1]
  · rw [h.row.cell (by omega), oc2]
theorem rhas_any (h : RvAt w G E q n S rd wr gs vs) (z : Int) : Calls Try.prog 53 #[.pointer (some ⟨E, 0, none⟩), .int .i64 z] w fun e w' => e = .returned (.bool (decide (0 ≤ z ∧ z < (n : Int)))) ∧ w = w' := by
  obtain ⟨c0, c1, c2, c3, fr⟩ := h.cells
  have hn := h.hn
  clear h
  by_cases h0 : 0 ≤ z
  · by_cases h1 : z < (n : Int)
    · go_enter Try.func53, Try.ntmps53
      go_wp2
      go_ret
      exact ⟨by simp [h0, h1], rfl⟩
    · go_enter Try.func53, Try.ntmps53
      go_wp2
      go_ret
      exact ⟨by simp [h1], rfl⟩
  · go_enter Try.func53, Try.ntmps53
    go_wp2
    go_ret
    exact ⟨by congr 2; simp; omega, rfl⟩
theorem rstands_any (h : RvAt w G E q n S rd wr gs vs) (i : Nat) (hi : i < n) : Calls Try.prog 39 #[.pointer (some ⟨E, 0, none⟩), .int .i64 (i : Int)] w fun e w' => e = .returned (tx (S i).stands) ∧ w = w' := by
  obtain ⟨c0, c1, c2, c3, fr⟩ := h.cells
  obtain ⟨s0, s1, s2, sf⟩ := h.sec hi
  obtain ⟨A, c, hv, hlc, hcm, hsl, hG⟩ := h.loose i hi
  have hn := h.hn
  have hi2 : (i : Int) < (n : Int) := by omega
  rw [hv] at s1
  clear h hv hG
  by_cases hl : (S i).loose = []
  · rw [hl] at s1
    have ES : Hid (tx (S i).stands = .string (bstr (S i).fixed)) := Lib.hid (by rw [Sec.stands_fixed hl]; rfl)
    rw [List.length_nil] at s1
    have s0' : w.cell? ⟨gs, i * 3, none⟩ = some (.string (bstr (S i).fixed)) := s0
    clear s0 hl hsl hlc
    generalize bstr (S i).fixed = B0 at ES s0'
    go_enter Try.func39, Try.ntmps39
    go_wp2
    go_ret
    exact ⟨by rw [ES.out]; rfl, rfl⟩
  · obtain ⟨k, hk⟩ : ∃ k, (S i).loose.length = k + 1 := ⟨(S i).loose.length - 1, by have := List.length_pos_iff.2 hl; omega⟩
    have ES : Hid (tx (S i).stands = .string (bstr ((S i).loose.getD k []))) := Lib.hid (by rw [Sec.stands_loose hl, hk]; rfl)
    obtain ⟨b, off, rfl, hc⟩ := Rw.Sl.at_ hsl (k := k) (u := .string (bstr ((S i).loose.getD k []))) (by rw [List.getElem?_map, List.getElem?_eq_getElem (by omega)]; simp [tx, List.getD, List.getElem?_eq_getElem (show k < (S i).loose.length by omega)])
    rw [hk] at s1 hlc
    clear hsl hl s0
    generalize bstr ((S i).loose.getD k []) = B0 at ES hc
    have hc1 : ((k + 1 : Nat) : Int) = (k : Int) + 1 := by omega
    have hmx : maxLen ≤ 9223372036854775807 := by decide
    have hkm : (k : Int) + 1 ≤ 9223372036854775807 := by omega
    clear hmx hcm hlc
    clear hk
    go_enter Try.func39, Try.ntmps39
    go_wp2
    go_ret
    exact ⟨by rw [ES.out]; rfl, rfl⟩
theorem RvAt.ne (h : RvAt w G E q n S rd wr gs vs) : E ≠ gs ∧ ∀ i, i < n → ∀ A c b off, vs i = .slice A (S i).loose.length c → 0 < (S i).loose.length → A = some ⟨b, off, none⟩ → b ≠ E := by
  refine ⟨fun e => ?_, fun i hi A c b off hv hp hA e => ?_⟩
  · obtain ⟨cs, hc, _⟩ := h.row
    rw [← e, h.head] at hc; cases hc
  · obtain ⟨A', c', hv', _, _, hsl, _⟩ := h.loose i hi
    rw [hv] at hv'
    injection hv' with e1 e2 e3
    subst e1 hA e
    obtain ⟨b', off', e', hc⟩ := Rw.Sl.at_ hsl (k := 0) (u := .string (bstr ((S i).loose.getD 0 []))) (by rw [List.getElem?_map, List.getElem?_eq_getElem hp]; simp [tx, List.getD, List.getElem?_eq_getElem hp])
    injection e' with e'
    injection e' with e1 e2
    subst e1 e2
    rw [cell_of_row w b _ _ _ (0, 0) h.head] at hc
    have : ∀ j : Nat, j < 4 ∨ 4 ≤ j := fun j => by omega
    rcases this (off + 0) with hj | hj
    · generalize off + 0 = j at hc hj
      match j, hj with
      | 0, _ => cases hc
      | 1, _ => cases hc
      | 2, _ => cases hc
      | 3, _ => cases hc
    · rw [Array.getElem?_eq_none (by simpa using hj)] at hc; cases hc
/-- only its plans of failures turned -/
theorem RvAt.turn (h : RvAt w G E q n S rd wr gs vs) {rd' wr' : Nat} (hu : rd' < 18446744073709551616) (hv : wr' < 18446744073709551616) (hh : w'.heap[E]? = some (.cells #[.pointer (some ⟨q, 0, none⟩), .slice (some ⟨gs, 0, none⟩) n n, .int .u64 (rd' : Int), .int .u64 (wr' : Int)] 51 (0, 0))) (ho : ∀ k, k ≠ E → w'.heap[k]? = w.heap[k]?) (hs : w'.heap.size = w.heap.size) : RvAt w' G E q n S rd' wr' gs vs where
  head := hh
  row := h.row.of_block (ho _ (fun e => h.ne.1 e.symm))
  loose := fun i hi => by
    obtain ⟨A, c, e, h1, h2, h3, h4⟩ := h.loose i hi
    exact ⟨A, c, e, h1, h2, h3.heap (fun b off hn e' => ho _ (h.ne.2 i hi A c b off e hn e')), h4⟩
  hn := h.hn
  hrd := hu
  hwr := hv
  inG := h.inG
  bound := fun k x => by rw [hs]; exact h.bound k x
theorem RvAt.set2 (h : RvAt w G E q n S rd wr gs vs) (u : Nat) (hu : u < 18446744073709551616) : RvAt (w.setCell ⟨E, 2, none⟩ (.int .u64 (u : Int))) G E q n S u wr gs vs :=
  h.turn hu h.hwr (by rw [heap_setCell_same _ _ _ _ _ _ h.head]; simp) (fun k hk => heap_setCell_other w _ k _ hk) (size_cell ..)
theorem RvAt.set3 (h : RvAt w G E q n S rd wr gs vs) (u : Nat) (hu : u < 18446744073709551616) : RvAt (w.setCell ⟨E, 3, none⟩ (.int .u64 (u : Int))) G E q n S rd u gs vs :=
  h.turn h.hrd hu (by rw [heap_setCell_same _ _ _ _ _ _ h.head]; simp) (fun k hk => heap_setCell_other w _ k _ hk) (size_cell ..)
end
end Go.Proofs.Ytdkniholeaiemaa.W
