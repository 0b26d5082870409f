/-
  Elder texts, one behind the other: DvRask, DvRread, DvRflush, DvRloose, DvFit. No conditions.
-/
import Derived.Test.YtapklelkcicjlaaGreatDoorKDn
/-! The document's power: Fuse, spend; its devices: Has, Stands, Read. No conditions. -/
namespace Go.Proofs.YtapklelkcicjlaaGreatDoor.Dw
set_option maxRecDepth 100000
open Go.RowKit Oc Dm Gt
set_option linter.unusedVariables false
/-- the document's power turned -/
def QTurned (w : World) (q : Nat) (s' : PS) (v : Value) (e : Ending) (w' : World) : Prop := e = .returned v ∧ Qw w' q s' ∧ w.grownBy w' (some q) ∧ w'.heap.size = w.heap.size
section
variable {w w' : World} {q : Nat} {s : PS}
theorem Qw.cells (h : Qw w q s) : ∃ l : Int, w.heap[q]? = some (.cells #[.bool s.off, .bool s.fuse.isSome, .int .i64 l, .int .i64 (s.done : Int)] 96 (0, 0)) ∧ (∀ k, s.fuse = some k → l = (k : Int)) ∧ w.cell? ⟨q, 0, none⟩ = some (.bool s.off) ∧ w.cell? ⟨q, 1, none⟩ = some (.bool s.fuse.isSome) ∧ w.cell? ⟨q, 2, none⟩ = some (.int .i64 l) ∧ w.cell? ⟨q, 3, none⟩ = some (.int .i64 (s.done : Int)) ∧ (∀ i, w.frozen? ⟨q, i, none⟩ = false) := by
  obtain ⟨l, h1, h2⟩ := h.head
  refine ⟨l, h1, h2, ?_, ?_, ?_, ?_, fun i => frozen_of_row w q i _ _ h1⟩ <;> rw [cell_of_row w q _ _ _ (0, 0) h1] <;> rfl
theorem rfuse_any (h : Qw w q s) (z : Int) : Calls Tryz.prog 47 #[.pointer (some ⟨q, 0, none⟩), .int .i64 z] w (QTurned w q (PS.fuseS s z) (.int .i64 (PS.fuseE s z))) := by
  have H := Lib.hid h
  obtain ⟨l, hh, hl, c0, c1, c2, c3, fr⟩ := h.cells
  have HH := Lib.hid hh
  clear h hh hl
  cases ho : s.off
  · rw [ho] at c0
    by_cases h1 : z < -1
    · go_enter Tryz.func47, Tryz.ntmps47
      go_wp2
      go_ret
      refine ⟨ret_int (by unfold PS.fuseE; simp [ho, h1]), ?_, World.grownBy.refl _ _, rfl⟩
      have e : PS.fuseS s z = s := by unfold PS.fuseS; simp [ho, h1]
      rw [e]; exact H.out
    · by_cases h2 : 1048576 < z
      · go_enter Tryz.func47, Tryz.ntmps47
        go_wp2
        go_ret
        refine ⟨ret_int (by unfold PS.fuseE; simp [ho, h2]), ?_, World.grownBy.refl _ _, rfl⟩
        have e : PS.fuseS s z = s := by unfold PS.fuseS; simp [ho, h2]
        rw [e]; exact H.out
      · have H3 : Hid (¬ (z < -1 ∨ 1048576 < z)) := by show ¬ (z < -1 ∨ 1048576 < z); omega
        have e0 : PS.fuseS s z = { s with fuse := if z < 0 then none else some z.toNat } := by unfold PS.fuseS; rw [ho, if_neg H3.out]; rfl
        have E0 := Lib.hid e0
        clear e0
        go_enter Tryz.func47, Tryz.ntmps47
        go_wp2
        go_ret
        refine ⟨ret_int (by unfold PS.fuseE; rw [ho, if_neg H3.out]; rfl), ?_, grown2 (grown_cell ..) (grown_cell ..), by rw [size_cell, size_cell]⟩
        rw [E0.out]
        refine ⟨z, ?_, fun k ek => ?_⟩
        · rw [heap_setCell_same _ _ _ _ _ _ (heap_setCell_same _ _ _ _ _ _ HH.out)]
          by_cases hz : z < 0
          · simp [hz, ho, show ¬ (0 ≤ z) by omega]
          · simp [hz, ho, show (0 ≤ z) by omega]
        · by_cases hz : z < 0
          · simp [hz] at ek
          · simp [hz] at ek; omega
  · rw [ho] at c0
    go_enter Tryz.func47, Tryz.ntmps47
    go_wp2
    go_ret
    refine ⟨ret_int (by unfold PS.fuseE; simp [ho]), ?_, World.grownBy.refl _ _, rfl⟩
    have e : PS.fuseS s z = s := by unfold PS.fuseS; simp [ho]
    rw [e]; exact H.out
theorem rspend_any (h : Qw w q s) (hf : ∀ k, s.fuse = some k → k ≤ 1048576) (hd : s.done < 1000000000000) : Calls Tryz.prog 97 #[.pointer (some ⟨q, 0, none⟩)] w (QTurned w q s.spend (.bool (!s.goes))) := by
  obtain ⟨l, hh, hl, c0, c1, c2, c3, fr⟩ := h.cells
  have HH := Lib.hid hh
  clear h hh
  obtain ⟨off, fuse, done⟩ := s
  dsimp only at hd c0 c1 c2 c3 hf hl
  rcases fuse with _ | _ | k
  · rw [Option.isSome_none] at c1
    clear hl
    go_enter Tryz.func97, Tryz.ntmps97
    go_wp2
    go_ret
    refine ⟨rfl, ⟨l, ?_, (fun k e => by cases e)⟩, grown_cell .., size_cell ..⟩
    rw [heap_setCell_same _ _ _ _ _ _ HH.out]
    simp [PS.spend]
  · have hl0 : l = 0 := hl 0 rfl
    subst hl0
    rw [Option.isSome_some] at c1
    clear hl
    go_enter Tryz.func97, Tryz.ntmps97
    go_wp2
    go_ret
    refine ⟨rfl, ⟨0, ?_, fun k e => by injection e with e; subst e; rfl⟩, grown_cell .., size_cell ..⟩
    rw [heap_setCell_same _ _ _ _ _ _ HH.out]
    rfl
  · have hl0 := hl (k + 1) rfl
    subst hl0
    have hk := hf (k + 1) rfl
    rw [Option.isSome_some] at c1
    have hne : ¬ (((k + 1 : Nat) : Int) = 0) := by omega
    have hsub : ((k + 1 : Nat) : Int) - 1 = (k : Int) := by omega
    clear hl hf
    go_enter Tryz.func97, Tryz.ntmps97
    go_wp2
    go_ret
    refine ⟨rfl, ⟨(k : Int), ?_, fun j e => by injection e with e; rw [e]⟩, grown2 (grown_cell ..) (grown_cell ..), by rw [size_cell, size_cell]⟩
    rw [heap_setCell_same _ _ _ _ _ _ (heap_setCell_same _ _ _ _ _ _ HH.out)]
    simp [PS.spend]
end
section
variable {w w' : World} {G G' : Nat → Prop} {E q n : Nat} {S : Nat → Sec} {rd wr gs : Nat} {vs : Nat → Value} {s : PS}
theorem RvAt.cells (h : RvAt w G E q n S rd wr gs vs) : w.cell? ⟨E, 0, none⟩ = some (.pointer (some ⟨q, 0, none⟩)) ∧ w.cell? ⟨E, 1, none⟩ = some (.slice (some ⟨gs, 0, none⟩) n n) ∧ w.cell? ⟨E, 2, none⟩ = some (.int .u64 (rd : Int)) ∧ w.cell? ⟨E, 3, none⟩ = some (.int .u64 (wr : Int)) ∧ (∀ i, w.frozen? ⟨E, i, none⟩ = false) := by
  refine ⟨?_, ?_, ?_, ?_, fun i => frozen_of_row w E i _ _ h.head⟩ <;> rw [cell_of_row w E _ _ _ (0, 0) h.head] <;> rfl
theorem RvAt.sec (h : RvAt w G E q n S rd wr gs vs) {i : Nat} (hi : i < n) : w.cell? ⟨gs, i * 3, none⟩ = some (tx (S i).fixed) ∧ w.cell? ⟨gs, i * 3 + 1, none⟩ = some (vs i) ∧ w.cell? ⟨gs, i * 3 + 2, none⟩ = some (.bool (S i).rotten) ∧ ∀ j, w.frozen? ⟨gs, j, none⟩ = false := by
  refine ⟨?_, ?_, ?_, fun j => h.row.frozen j⟩
  · rw [h.row.cell (by omega), oc0]
  · rw [h.row.cell (by omega), oc1]
  · rw [h.row.cell (by omega), oc2]
theorem rhas_any (h : RvAt w G E q n S rd wr gs vs) (z : Int) : Calls Tryz.prog 101 #[.pointer (some ⟨E, 0, none⟩), .int .i64 z] w fun e w' => e = .returned (.bool (decide (0 ≤ z ∧ z < (n : Int)))) ∧ w = w' := by
  obtain ⟨c0, c1, c2, c3, fr⟩ := h.cells
  have hn := h.hn
  clear h
  by_cases h0 : 0 ≤ z
  · by_cases h1 : z < (n : Int)
    · go_enter Tryz.func101, Tryz.ntmps101
      go_wp2
      go_ret
      exact ⟨by simp [h0, h1], rfl⟩
    · go_enter Tryz.func101, Tryz.ntmps101
      go_wp2
      go_ret
      exact ⟨by simp [h1], rfl⟩
  · go_enter Tryz.func101, Tryz.ntmps101
    go_wp2
    go_ret
    exact ⟨by congr 2; simp; omega, rfl⟩
theorem rstands_any (h : RvAt w G E q n S rd wr gs vs) (i : Nat) (hi : i < n) : Calls Tryz.prog 98 #[.pointer (some ⟨E, 0, none⟩), .int .i64 (i : Int)] w fun e w' => e = .returned (tx (S i).stands) ∧ w = w' := by
  obtain ⟨c0, c1, c2, c3, fr⟩ := h.cells
  obtain ⟨s0, s1, s2, sf⟩ := h.sec hi
  obtain ⟨A, c, hv, hlc, hcm, hsl, hG⟩ := h.loose i hi
  have hn := h.hn
  have hi2 : (i : Int) < (n : Int) := by omega
  rw [hv] at s1
  clear h hv hG
  by_cases hl : (S i).loose = []
  · rw [hl] at s1
    have ES : Hid (tx (S i).stands = .string (bstr (S i).fixed)) := Lib.hid (by rw [Sec.stands_fixed hl]; rfl)
    rw [List.length_nil] at s1
    have s0' : w.cell? ⟨gs, i * 3, none⟩ = some (.string (bstr (S i).fixed)) := s0
    clear s0 hl hsl hlc
    generalize bstr (S i).fixed = B0 at ES s0'
    go_enter Tryz.func98, Tryz.ntmps98
    go_wp2
    go_ret
    exact ⟨by rw [ES.out]; rfl, rfl⟩
  · obtain ⟨k, hk⟩ : ∃ k, (S i).loose.length = k + 1 := ⟨(S i).loose.length - 1, by have := List.length_pos_iff.2 hl; omega⟩
    have ES : Hid (tx (S i).stands = .string (bstr ((S i).loose.getD k []))) := Lib.hid (by rw [Sec.stands_loose hl, hk]; rfl)
    obtain ⟨b, off, rfl, hc⟩ := Rw.Sl.at_ hsl (k := k) (u := .string (bstr ((S i).loose.getD k []))) (by rw [List.getElem?_map, List.getElem?_eq_getElem (by omega)]; simp [tx, List.getD, List.getElem?_eq_getElem (show k < (S i).loose.length by omega)])
    rw [hk] at s1 hlc
    clear hsl hl s0
    generalize bstr ((S i).loose.getD k []) = B0 at ES hc
    have hc1 : ((k + 1 : Nat) : Int) = (k : Int) + 1 := by omega
    have hmx : maxLen ≤ 9223372036854775807 := by decide
    have hkm : (k : Int) + 1 ≤ 9223372036854775807 := by omega
    clear hmx hcm hlc
    clear hk
    go_enter Tryz.func98, Tryz.ntmps98
    go_wp2
    go_ret
    exact ⟨by rw [ES.out]; rfl, rfl⟩
theorem RvAt.ne (h : RvAt w G E q n S rd wr gs vs) : E ≠ gs ∧ ∀ i, i < n → ∀ A c b off, vs i = .slice A (S i).loose.length c → 0 < (S i).loose.length → A = some ⟨b, off, none⟩ → b ≠ E := by
  refine ⟨fun e => ?_, fun i hi A c b off hv hp hA e => ?_⟩
  · obtain ⟨cs, hc, _⟩ := h.row
    rw [← e, h.head] at hc; cases hc
  · obtain ⟨A', c', hv', _, _, hsl, _⟩ := h.loose i hi
    rw [hv] at hv'
    injection hv' with e1 e2 e3
    subst e1 hA e
    obtain ⟨b', off', e', hc⟩ := Rw.Sl.at_ hsl (k := 0) (u := .string (bstr ((S i).loose.getD 0 []))) (by rw [List.getElem?_map, List.getElem?_eq_getElem hp]; simp [tx, List.getD, List.getElem?_eq_getElem hp])
    injection e' with e'
    injection e' with e1 e2
    subst e1 e2
    rw [cell_of_row w b _ _ _ (0, 0) h.head] at hc
    have : ∀ j : Nat, j < 4 ∨ 4 ≤ j := fun j => by omega
    rcases this (off + 0) with hj | hj
    · generalize off + 0 = j at hc hj
      match j, hj with
      | 0, _ => cases hc
      | 1, _ => cases hc
      | 2, _ => cases hc
      | 3, _ => cases hc
    · rw [Array.getElem?_eq_none (by simpa using hj)] at hc; cases hc
/-- only its plans of failures turned -/
theorem RvAt.turn (h : RvAt w G E q n S rd wr gs vs) {rd' wr' : Nat} (hu : rd' < 18446744073709551616) (hv : wr' < 18446744073709551616) (hh : w'.heap[E]? = some (.cells #[.pointer (some ⟨q, 0, none⟩), .slice (some ⟨gs, 0, none⟩) n n, .int .u64 (rd' : Int), .int .u64 (wr' : Int)] 103 (0, 0))) (ho : ∀ k, k ≠ E → w'.heap[k]? = w.heap[k]?) (hs : w'.heap.size = w.heap.size) : RvAt w' G E q n S rd' wr' gs vs where
  head := hh
  row := h.row.of_block (ho _ (fun e => h.ne.1 e.symm))
  loose := fun i hi => by
    obtain ⟨A, c, e, h1, h2, h3, h4⟩ := h.loose i hi
    exact ⟨A, c, e, h1, h2, h3.heap (fun b off hn e' => ho _ (h.ne.2 i hi A c b off e hn e')), h4⟩
  hn := h.hn
  hrd := hu
  hwr := hv
  inG := h.inG
  bound := fun k x => by rw [hs]; exact h.bound k x
theorem RvAt.set2 (h : RvAt w G E q n S rd wr gs vs) (u : Nat) (hu : u < 18446744073709551616) : RvAt (w.setCell ⟨E, 2, none⟩ (.int .u64 (u : Int))) G E q n S u wr gs vs :=
  h.turn hu h.hwr (by rw [heap_setCell_same _ _ _ _ _ _ h.head]; simp) (fun k hk => heap_setCell_other w _ k _ hk) (size_cell ..)
theorem RvAt.set3 (h : RvAt w G E q n S rd wr gs vs) (u : Nat) (hu : u < 18446744073709551616) : RvAt (w.setCell ⟨E, 3, none⟩ (.int .u64 (u : Int))) G E q n S rd u gs vs :=
  h.turn h.hrd hu (by rw [heap_setCell_same _ _ _ _ _ _ h.head]; simp) (fun k hk => heap_setCell_other w _ k _ hk) (size_cell ..)
end
end Go.Proofs.YtapklelkcicjlaaGreatDoor.Dw

/-! The document's devices: Read. No conditions. -/
namespace Go.Proofs.YtapklelkcicjlaaGreatDoor.Dw
set_option maxRecDepth 100000
open Go.RowKit Oc Dm Gt
set_option linter.unusedVariables false
set_option maxRecDepth 100000
section
variable {w w' : World} {G G' : Nat → Prop} {E q n : Nat} {S : Nat → Sec} {rd wr gs : Nat} {vs : Nat → Value} {s : PS}
theorem rread_off (h : RvAt w G E q n S rd wr gs vs) (hq : Qw w q s) (ho : s.off = true) (z : Int) : Calls Tryz.prog 94 #[.pointer (some ⟨E, 0, none⟩), .int .i64 z] w fun e w' => e = .returned (.tuple #[.string ⟨#[]⟩, .int .i64 80]) ∧ w = w' := by
  obtain ⟨c0, c1, c2, c3, fr⟩ := h.cells
  obtain ⟨l, hh, hl, d0, d1, d2, d3, fr2⟩ := hq.cells
  rw [ho] at d0
  clear h hq hh hl
  go_enter Tryz.func94, Tryz.ntmps94
  go_wp2
  go_ret2
  exact ⟨rfl, rfl⟩
theorem rread_no (h : RvAt w G E q n S rd wr gs vs) (hq : Qw w q s) (ho : s.off = false) (z : Int) (hz : z < 0 ∨ (n : Int) ≤ z) : Calls Tryz.prog 94 #[.pointer (some ⟨E, 0, none⟩), .int .i64 z] w fun e w' => e = .returned (.tuple #[.string ⟨#[]⟩, .int .i64 3]) ∧ w = w' := by
  have H := Lib.hid h
  obtain ⟨c0, c1, c2, c3, fr⟩ := h.cells
  obtain ⟨l, hh, hl, d0, d1, d2, d3, fr2⟩ := hq.cells
  rw [ho] at d0
  have hd : decide (0 ≤ z ∧ z < (n : Int)) = false := by simp; omega
  clear h hq hh hl hz
  go_enter Tryz.func94, Tryz.ntmps94
  go_wp2_with fail
  refine (rhas_any H.out z).mono ?_; rintro e w' ⟨rfl, rfl⟩
  rw [hd]
  go_wp2
  go_ret2
  exact ⟨rfl, rfl⟩
theorem rread_io (h : RvAt w G E q n S rd wr gs vs) (hq : Qw w q s) (ho : s.off = false) (i : Nat) (hi : i < n) (hr : rd % 2 = 1) : Calls Tryz.prog 94 #[.pointer (some ⟨E, 0, none⟩), .int .i64 (i : Int)] w fun e w' => e = .returned (.tuple #[.string ⟨#[]⟩, .int .i64 81]) ∧ RvAt w' G E q n S (rd / 2) wr gs vs ∧ w.grownBy w' (some E) ∧ w'.heap.size = w.heap.size := by
  have H := Lib.hid h
  obtain ⟨c0, c1, c2, c3, fr⟩ := h.cells
  obtain ⟨l, hh, hl, d0, d1, d2, d3, fr2⟩ := hq.cells
  rw [ho] at d0
  have hd : decide (0 ≤ (i : Int) ∧ (i : Int) < (n : Int)) = true := by simp; omega
  have hrd := h.hrd
  have hm : (rd : Int) % 2 = 1 := by omega
  obtain ⟨u, hu⟩ : ∃ u, rd / 2 = u := ⟨_, rfl⟩
  have hq2 : (rd : Int) / 2 = (u : Int) := by omega
  have hu2 : u < 18446744073709551616 := by omega
  rw [hu]
  clear h hq hh hl hu
  go_enter Tryz.func94, Tryz.ntmps94
  go_wp2_with fail
  refine (rhas_any H.out i).mono ?_; rintro e w' ⟨rfl, rfl⟩
  rw [hd]
  go_wp2
  go_ret2
  exact ⟨rfl, H.out.set2 u hu2, grown_cell .., size_cell ..⟩
theorem rread_yes (h : RvAt w G E q n S rd wr gs vs) (hq : Qw w q s) (ho : s.off = false) (i : Nat) (hi : i < n) (hr : rd % 2 = 0) : Calls Tryz.prog 94 #[.pointer (some ⟨E, 0, none⟩), .int .i64 (i : Int)] w fun e w' => e = .returned (.tuple #[tx (S i).stands, .int .i64 0]) ∧ RvAt w' G E q n S (rd / 2) wr gs vs ∧ w.grownBy w' (some E) ∧ w'.heap.size = w.heap.size := by
  have H := Lib.hid h
  obtain ⟨c0, c1, c2, c3, fr⟩ := h.cells
  obtain ⟨l, hh, hl, d0, d1, d2, d3, fr2⟩ := hq.cells
  rw [ho] at d0
  have hd : decide (0 ≤ (i : Int) ∧ (i : Int) < (n : Int)) = true := by simp; omega
  have hrd := h.hrd
  have hm : (rd : Int) % 2 = 0 := by omega
  obtain ⟨u, hu⟩ : ∃ u, rd / 2 = u := ⟨_, rfl⟩
  have hq2 : (rd : Int) / 2 = (u : Int) := by omega
  have hu2 : u < 18446744073709551616 := by omega
  rw [hu]
  have H4 := Lib.hid (h.set2 u hu2)
  clear h hq hh hl hu
  go_enter Tryz.func94, Tryz.ntmps94
  go_wp2_with fail
  refine (rhas_any H.out i).mono ?_; rintro e w' ⟨rfl, rfl⟩
  rw [hd]
  go_wp2_with fail
  refine (rstands_any H4.out i hi).mono ?_; rintro e w' ⟨rfl, rfl⟩
  go_wp2
  go_ret2
  exact ⟨rfl, H4.out, grown_cell .., size_cell ..⟩
end
end Go.Proofs.YtapklelkcicjlaaGreatDoor.Dw

/-! The document's devices: Flush. No conditions. -/
namespace Go.Proofs.YtapklelkcicjlaaGreatDoor.Dw
set_option maxRecDepth 100000
open Go.RowKit Oc Dm Gt
set_option linter.unusedVariables false
set_option maxRecDepth 100000
section
variable {w w' : World} {G G' : Nat → Prop} {E q n : Nat} {S : Nat → Sec} {rd wx gs : Nat} {vs : Nat → Value} {s : PS}
/-- sector i anew, with its row of loose writes -/
theorem RvAt.put (h : RvAt w G E q n S rd wx gs vs) {i : Nat} (hi : i < n) (x : Sec) (v : Value) (hG : ∀ k, G k → G' k) (hb : ∀ k, G' k → k < w'.heap.size) (r : w'.rowIs gs 151 (n * 3) (oc (upd S i x) (upd vs i v))) (hk : ∀ k, k < w.heap.size → k ≠ gs → w'.heap[k]? = w.heap[k]?)
    (hv : ∃ A c, v = .slice A x.loose.length c ∧ x.loose.length ≤ c ∧ c ≤ maxLen ∧ Rw.Sl w' A x.loose.length (x.loose.map tx) ∧ ∀ b off, 0 < x.loose.length → A = some ⟨b, off, none⟩ → G' b ∧ b ≠ gs) : RvAt w' G' E q n (upd S i x) rd wx gs (upd vs i v) where
  head := (hk _ (lt_of_heap h.head) h.ne.1).trans h.head
  row := r
  loose := fun j hj => by
    by_cases e : j = i
    · subst e; rw [upd_same, upd_same]; exact hv
    · rw [upd_other _ _ e, upd_other _ _ e]
      obtain ⟨A, c, e, h1, h2, h3, h4⟩ := h.loose j hj
      exact ⟨A, c, e, h1, h2, h3.heap (fun b off hn e' => hk _ (h.bound _ (h4 b off hn e').1) (h4 b off hn e').2), fun b off hn e' => ⟨hG _ (h4 b off hn e').1, (h4 b off hn e').2⟩⟩
  hn := h.hn
  hrd := h.hrd
  hwr := h.hwr
  inG := ⟨hG _ h.inG.1, hG _ h.inG.2⟩
  bound := hb
theorem oc_put {w : World} {gs n i : Nat} {S : Nat → Sec} {vs : Nat → Value} (h : w.rowIs gs 151 (n * 3) (oc S vs)) (x : Sec) (v : Value) :
    (((w.setCell ⟨gs, i * 3, none⟩ (tx x.fixed)).setCell ⟨gs, i * 3 + 1, none⟩ v).setCell ⟨gs, i * 3 + 2, none⟩ (.bool x.rotten)).rowIs gs 151 (n * 3) (oc (upd S i x) (upd vs i v)) := by
  refine (((h.set (i * 3) (tx x.fixed)).set (i * 3 + 1) v).set (i * 3 + 2) (.bool x.rotten)).congr (fun j hj => ?_)
  have hm : j % 3 = 0 ∨ j % 3 = 1 ∨ j % 3 = 2 := by omega
  by_cases e : j / 3 = i
  · rcases hm with m | m | m
    · have : j = i * 3 := by omega
      subst this
      rw [oc0 (upd S i x), upd_same, if_neg (by omega), if_neg (by omega), if_pos rfl]
    · have : j = i * 3 + 1 := by omega
      subst this
      rw [oc1 (upd S i x), upd_same, if_neg (by omega), if_pos rfl]
    · have : j = i * 3 + 2 := by omega
      subst this
      rw [oc2 (upd S i x), upd_same, if_pos rfl]
  · rw [if_neg (by omega), if_neg (by omega), if_neg (by omega)]
    unfold oc
    rw [upd_other _ _ e, upd_other _ _ e]
theorem put3_at (h : RvAt w G E q n S rd wx gs vs) {i : Nat} (hi : i < n) (x : Sec) (hx : x.loose = []) {B : ByteArray} (hB : tx x.fixed = .string B) {w' : World} (hw : w' = (((w.setCell ⟨gs, i * 3, none⟩ (.string B)).setCell ⟨gs, i * 3 + 1, none⟩ (.slice none 0 0)).setCell ⟨gs, i * 3 + 2, none⟩ (.bool x.rotten)).drew := by rfl) :
    RvAt w' G E q n (upd S i x) rd wx gs (upd vs i (.slice none 0 0)) ∧ (∀ k, k ≠ gs → w'.heap[k]? = w.heap[k]?) ∧ Chg (fun k => k = gs) w w' := by
  subst hw
  have ho : ∀ k, k ≠ gs → ((((w.setCell ⟨gs, i * 3, none⟩ (.string B)).setCell ⟨gs, i * 3 + 1, none⟩ (.slice none 0 0)).setCell ⟨gs, i * 3 + 2, none⟩ (.bool x.rotten)).drew).heap[k]? = w.heap[k]? := fun k hk => by
    show (((w.setCell ⟨gs, i * 3, none⟩ (.string B)).setCell ⟨gs, i * 3 + 1, none⟩ (.slice none 0 0)).setCell ⟨gs, i * 3 + 2, none⟩ (.bool x.rotten)).heap[k]? = w.heap[k]?
    rw [heap_setCell_other _ _ _ _ hk, heap_setCell_other _ _ _ _ hk, heap_setCell_other _ _ _ _ hk]
  have r := oc_put (i := i) h.row x (.slice none 0 0)
  rw [hB] at r
  have hs : ((((w.setCell ⟨gs, i * 3, none⟩ (.string B)).setCell ⟨gs, i * 3 + 1, none⟩ (.slice none 0 0)).setCell ⟨gs, i * 3 + 2, none⟩ (.bool x.rotten)).drew).heap.size = w.heap.size := by
    show (((w.setCell ⟨gs, i * 3, none⟩ (.string B)).setCell ⟨gs, i * 3 + 1, none⟩ (.slice none 0 0)).setCell ⟨gs, i * 3 + 2, none⟩ (.bool x.rotten)).heap.size = _
    rw [size_cell, size_cell, size_cell]
  refine ⟨h.put hi x _ (fun _ y => y) (fun k y => by rw [hs]; exact h.bound k y) r (fun k _ hk => ho k hk) ⟨none, 0, by rw [hx]; rfl, by rw [hx]; exact Nat.le_refl _, by decide, by rw [hx]; exact ⟨rfl, fun h => absurd h (by decide)⟩, fun b off _ e => by cases e⟩, ho, ?_⟩
  exact (Chg.of_grown (grown2 (grown2 (grown_cell ..) (grown_cell ..)) (grown_cell ..)) (fun k e _ => by injection e with e; exact e.symm)).drew
theorem rflush_off (h : RvAt w G E q n S rd wx gs vs) (hq : Qw w q s) (ho : s.off = true) : Calls Tryz.prog 45 #[.pointer (some ⟨E, 0, none⟩)] w fun e w' => e = .returned (.int .i64 80) ∧ w = w' := by
  obtain ⟨c0, c1, c2, c3, fr⟩ := h.cells
  obtain ⟨l, hh, hl, d0, d1, d2, d3, fr2⟩ := hq.cells
  rw [ho] at d0
  clear h hq hh hl
  go_enter Tryz.func45, Tryz.ntmps45
  go_wp2
  go_ret
  exact ⟨rfl, rfl⟩
theorem rflush_goes (h : RvAt w G E q n S rd wx gs vs) (hq : Qw w q s) (hf : ∀ k, s.fuse = some k → k ≤ 1048576) (hd : s.done < 1000000000000) (ho : s.off = false) (hg : s.goes = true) : Calls Tryz.prog 45 #[.pointer (some ⟨E, 0, none⟩)] w (QTurned w q s.spend (.int .i64 80)) := by
  have HQ := Lib.hid hq
  have HF := Lib.hid hf
  obtain ⟨c0, c1, c2, c3, fr⟩ := h.cells
  obtain ⟨l, hh, hl, d0, d1, d2, d3, fr2⟩ := hq.cells
  rw [ho] at d0
  clear h hq hh hl hf
  go_enter Tryz.func45, Tryz.ntmps45
  go_wp2_with fail
  refine (rspend_any HQ.out HF.out hd).mono ?_; rintro e w1 ⟨rfl, q1, g1, z1⟩
  have Q1 := Lib.hid q1
  have G1 := Lib.hid g1
  have Z1 := Lib.hid z1
  clear q1 g1 z1
  rw [hg]
  go_wp2
  go_ret
  exact ⟨rfl, Q1.out, G1.out, Z1.out⟩
/-- the first j sectors are flushed -/
def rmid (S : Nat → Sec) (j i : Nat) : Sec := if i < j then flushS S i else S i
theorem rmid_skip {S : Nat → Sec} {j : Nat} (h : (S j).loose = []) : rmid S j = rmid S (j + 1) := by
  funext i
  unfold rmid
  by_cases e : i = j
  · subst e
    rw [if_neg (by omega), if_pos (by omega), flushS, if_pos h]
  · by_cases h1 : i < j
    · rw [if_pos h1, if_pos (by omega)]
    · rw [if_neg h1, if_neg (by omega)]
theorem rmid_step {S : Nat → Sec} {j : Nat} (h : (S j).loose ≠ []) : upd (rmid S j) j ⟨(S j).stands, [], false⟩ = rmid S (j + 1) := by
  funext i
  unfold upd
  show (if i = j then _ else rmid S j i) = _
  unfold rmid
  by_cases e : i = j
  · subst e
    rw [if_pos rfl, if_pos (by omega), flushS, if_neg h]
  · rw [if_neg e]
    by_cases h1 : i < j
    · rw [if_pos h1, if_pos (by omega)]
    · rw [if_neg h1, if_neg (by omega)]
theorem RvAt.congrS {S' : Nat → Sec} (h : RvAt w G E q n S rd wx gs vs) (e : ∀ i, i < n → S' i = S i) : RvAt w G E q n S' rd wx gs vs :=
  { h with
    row := h.row.congr (fun j hj => by unfold oc; rw [e (j / 3) (by omega)])
    loose := fun i hi => by rw [e i hi]; exact h.loose i hi }
theorem rflush_ok (h : RvAt w G E q n S rd wx gs vs) (hGq : ¬ G q) (hq : Qw w q s) (hf : ∀ k, s.fuse = some k → k ≤ 1048576) (hd : s.done < 1000000000000) (ho : s.off = false) (hg : s.goes = false) : Calls Tryz.prog 45 #[.pointer (some ⟨E, 0, none⟩)] w fun e w' => e = .returned (.int .i64 0) ∧ Qw w' q s.spend ∧ (∃ vs', RvAt w' G E q n (flushS S) rd wx gs vs') ∧ Chg (fun k => k = q ∨ k = gs) w w' := by
  have HQ := Lib.hid hq
  have HF := Lib.hid hf
  have H := Lib.hid h
  obtain ⟨c0, c1, c2, c3, fr⟩ := h.cells
  obtain ⟨l, hh, hl, d0, d1, d2, d3, fr2⟩ := hq.cells
  have hn := h.hn
  rw [ho] at d0
  clear h hq hh hl hf
  go_enter Tryz.func45, Tryz.ntmps45
  go_wp2_with fail
  refine (rspend_any HQ.out HF.out hd).mono ?_; rintro e w1 ⟨rfl, q1, g1, z1⟩
  have Q1 := Lib.hid q1
  have C1 : Hid (Chg (fun k => k = q ∨ k = gs) w w1) := Chg.of_grown g1 (fun k e _ => by injection e with e; exact .inl e.symm)
  have H1 : Hid (RvAt w1 G E q n S rd wx gs vs) := H.out.kept (F := fun k => k = q) (Chg.of_grown g1 (fun k e _ => by injection e with e; exact e.symm)) (fun k x e => hGq (e ▸ x))
  clear q1 g1 z1 c0 c1 c2 c3 fr d0 d1 d2 d3 fr2 HQ HF H
  rw [hg]
  go_wp2
  go_loopw [3] (fun p wr => ∃ j : Nat, j ≤ n ∧ p = .int .i64 (j : Int) ∧ Hid (∃ vs', RvAt wr G E q n (rmid S j) rd wx gs vs') ∧ Hid (Qw wr q s.spend) ∧ Hid (Chg (fun k => k = q ∨ k = gs) w wr)) (fun p _ => n - (intOf p).toNat)
  case atStart => exact ⟨0, Nat.zero_le _, rfl, ⟨vs, H1.out⟩, Q1, C1⟩
  case round =>
    obtain ⟨j, hj, rfl, HJ, QJ, CJ⟩ := hrel
    clear H1 Q1 C1
    obtain ⟨vs', hv⟩ := HJ.out
    have HV := Lib.hid hv
    obtain ⟨c0, c1, c2, c3, fr⟩ := hv.cells
    clear hv HJ
    by_cases hlt : j < n
    · have hlt2 : (j : Int) < (n : Int) := by omega
      obtain ⟨A, c, hv, hlc, hcm, hsl, hG⟩ := HV.out.loose j hlt
      obtain ⟨s0, s1, s2, sf⟩ := HV.out.sec hlt
      rw [hv] at s1
      have er : rmid S j j = S j := if_neg (by omega)
      rw [er] at s1 s0 s2
      by_cases he : (S j).loose = []
      · rw [he, List.length_nil] at s1
        clear hv hlc hsl hG s0
        go_wp2
        go_roundw
        case rel => exact ⟨j + 1, by omega, by go_num, ⟨vs', rmid_skip he ▸ HV.out⟩, QJ, CJ⟩
        case measure => simp [intOf]; omega
      · have hpos := List.length_pos_iff.2 he
        have hpos2 : (0 : Int) < ((S j).loose.length : Int) := by omega
        have RS : Hid (∀ w2, RvAt w2 G E q n (rmid S j) rd wx gs vs' → Calls Tryz.prog 98 #[.pointer (some ⟨E, 0, none⟩), .int .i64 (j : Int)] w2 fun e w' => e = .returned (.string (bstr (S j).stands)) ∧ w2 = w') := fun w2 h2 => by
          have := rstands_any h2 j hlt
          rw [er] at this
          exact this
        have EB : Hid (∀ B, bstr (S j).stands = B → tx (S j).stands = .string B) := fun B e => by rw [← e]; rfl
        obtain ⟨B0, hB0⟩ : ∃ B, bstr (S j).stands = B := ⟨_, rfl⟩
        have EB0 := Lib.hid (EB.out B0 hB0)
        rw [hB0] at RS
        have s0' : wr.cell? ⟨gs, j * 3, none⟩ = some (.string (bstr (S j).fixed)) := s0
        have hne := HV.out.ne.1
        have hne2 : gs ≠ E := fun e => hne e.symm
        have HE := Lib.hid he
        generalize (S j).loose.length = k at s1 hpos hpos2
        generalize bstr (S j).fixed = B1 at s0'
        clear hv hlc hsl hG s0 EB hB0 er
        go_wp2_with fail
        go_region_held (fun w' => w'.cell? ⟨E, 1, none⟩ = some (.slice (some ⟨gs, 0, none⟩) n n)) (first | go_keep | (simp [World.setCell, *]; done))
          (first | (go_at_call 98; (with_reducible refine (RS.out _ (HV.out.below (Below.refl _ _).drew)).mono ?_); rintro e w' ⟨rfl, rfl⟩))
        all_goals
          go_wp2
          go_roundw
          case rel => exact ⟨j + 1, by omega, by go_num, ⟨_, rmid_step HE.out ▸ (put3_at HV.out hlt ⟨(S j).stands, [], false⟩ rfl EB0.out).1⟩, QJ.out.heap ((put3_at HV.out hlt ⟨(S j).stands, [], false⟩ rfl EB0.out).2.1 q (fun e => hGq (e ▸ HV.out.inG.2))), CJ.out.trans (put3_at HV.out hlt ⟨(S j).stands, [], false⟩ rfl EB0.out).2.2 (fun i _ e => .inr e)⟩
          case measure => simp [intOf]; omega
    · have hlt2 : ¬ (j : Int) < (n : Int) := by omega
      have HE : Hid (RvAt wr G E q n (flushS S) rd wx gs vs') := HV.out.congrS (fun i hi => (if_pos (by omega) : rmid S j i = flushS S i).symm)
      go_wp2
      go_ret
      exact ⟨rfl, QJ.out, ⟨vs', HE.out⟩, CJ.out⟩
end
end Go.Proofs.YtapklelkcicjlaaGreatDoor.Dw

/-! The document's devices: Loose. No conditions. -/
namespace Go.Proofs.YtapklelkcicjlaaGreatDoor.Dw
set_option maxRecDepth 100000
open Go.RowKit Oc Dm Gt
set_option linter.unusedVariables false
set_option maxRecDepth 100000
theorem loose_step (S : Nat → Sec) (j : Nat) : looseOf (j + 1) S = looseOf j S ++ (if (S j).loose = [] then [] else [(j, (S j).loose.length)]) := by
  unfold looseOf
  rw [List.range_succ, List.filterMap_append]
  congr 1
  by_cases h : (S j).loose = []
  · simp [h]
  · simp [h]
theorem lo_owned {w : World} {base : Nat} {v : Value} {ps : List (Nat × Nat)} (h : w.ownsRow base 131 2 v ps.length (flatL ps)) : ∃ A c, v = .slice A ps.length c ∧ Lo w A ps.length ps ∧ ps.length ≤ c ∧ c ≤ maxLen := by
  have h0 := h
  obtain ⟨hol, hor⟩ := h
  rcases hor with ⟨e, hn⟩ | ⟨b, cap, cur, rfl, hb, hg', h1, h2, h3, h4⟩
  · exact ⟨none, 0, by rw [e, hn], ⟨rfl, fun h => by omega⟩, by omega, by decide⟩
  · refine ⟨_, cap, rfl, ⟨rfl, fun _ => ⟨b, rfl, fun j x hx => ?_⟩⟩, h1, h2⟩
    obtain ⟨f1, f2⟩ := flat_get ps j x hx
    exact ⟨(owns_cells h0 f1).1, (owns_cells h0 f2).1⟩
/-- the row that the document tells -/
def RToldL (w : World) (ps : List (Nat × Nat)) (e : Ending) (w' : World) : Prop := ∃ A c, e = .returned (.slice A ps.length c) ∧ Lo w' A ps.length ps ∧ Below w.heap.size w w'
section
variable {w w' : World} {G G' : Nat → Prop} {E q n : Nat} {S : Nat → Sec} {rd wx gs : Nat} {vs : Nat → Value} {s : PS}
theorem rloose_any (h : RvAt w G E q n S rd wx gs vs) : Calls Tryz.prog 99 #[.pointer (some ⟨E, 0, none⟩)] w (RToldL w (looseOf n S)) := by
  have H := Lib.hid h
  have hn := h.hn
  obtain ⟨i0, hi0, hz0, hz1, hz2⟩ := info_parts lo_info
  have HI := Lib.hid hi0
  have HZ0 := Lib.hid hz0
  have HZ1 := Lib.hid hz1
  have HZ2 := Lib.hid hz2
  clear h hi0 hz0 hz1 hz2
  go_enter Tryz.func99, Tryz.ntmps99
  go_wp2
  go_loopw [3, 4] (fun v p wr => ∃ j : Nat, j ≤ n ∧ p = .int .i64 (j : Int) ∧ Hid (wr.ownsRow w.heap.size 131 2 v (looseOf j S).length (flatL (looseOf j S))) ∧ Hid (Below w.heap.size w wr)) (fun _ p _ => n - (intOf p).toNat)
  case atStart => exact ⟨0, Nat.zero_le _, rfl, World.ownsRow_nil _ _ _ _, Below.refl _ _⟩
  case round =>
    obtain ⟨j, hj, rfl, OJ, BJ⟩ := hrel
    have HJ := Lib.hid (H.out.below BJ.out)
    obtain ⟨c0, c1, c2, c3, fr⟩ := HJ.out.cells
    by_cases hlt : j < n
    · have hlt2 : (j : Int) < (n : Int) := by omega
      obtain ⟨A, c, hv, hlc, hcm, hsl, hG⟩ := HJ.out.loose j hlt
      obtain ⟨s0, s1, s2, sf⟩ := HJ.out.sec hlt
      rw [hv] at s1
      clear s0 s2 hv hsl hG
      have STEP := Lib.hid (loose_step S j)
      by_cases he : (S j).loose = []
      · rw [he, List.length_nil] at s1
        have ST : Hid (looseOf (j + 1) S = looseOf j S) := Lib.hid (by rw [STEP.out, if_pos he, List.append_nil])
        clear STEP hlc he
        go_wp2
        go_roundw
        case rel => exact ⟨j + 1, by omega, by go_num, by rw [ST.out]; exact OJ, BJ⟩
        case measure => simp [intOf]; omega
      · have hpos := List.length_pos_iff.2 he
        have ST : Hid (looseOf (j + 1) S = looseOf j S ++ [(j, (S j).loose.length)]) := Lib.hid (by rw [STEP.out, if_neg he])
        have hmx : maxLen ≤ 9223372036854775807 := by decide
        have hk9 : ((S j).loose.length : Int) ≤ 9223372036854775807 := by omega
        have hpos2 : (0 : Int) < ((S j).loose.length : Int) := by omega
        have HLEN := Lib.hid (loose_len j S)
        clear STEP he hlc hcm hmx
        generalize (S j).loose.length = k at s1 hpos hpos2 ST hk9
        go_wp2_with (at_builtin; refine wpList_append_own_at _ rfl _ _ 65 rfl w.heap.size 131 i0 _ 2 16 Tryz.underlying65 HI.out HZ0.out HZ1.out HZ2.out rfl (by decide) _ _ _ rfl (OJ.out.alloc _) ⟨wr.heap.size, 0, none⟩ 1 1 [.int .i64 (j : Int), .int .i64 (k : Int)] rfl rfl (cell_two_new _ _ _ _) (two_one _ _) (by unfold maxLen; have := HLEN.out; omega) (by have := HLEN.out; omega) (by have := BJ.out.size; simp; omega) ?_; intro v' w4 o4 g4 nil4 loc4; have O4 := Lib.hid o4; have G4 := Lib.hid g4; clear o4 g4 nil4 loc4)
        go_roundw
        case rel =>
          have g34 : wr.grownBy w4 _ := (World.grownBy_alloc wr _ _).trans G4.out
          refine ⟨j + 1, by omega, by go_num, ?_, BJ.out.grown g34 BJ.out.size (fun i e => (OJ.out.lt _ e).1)⟩
          have := O4.out
          rw [ST.out, flat_app, show (looseOf j S ++ [(j, k)]).length = (looseOf j S).length + 1 by simp]
          exact this
        case measure => simp [intOf]; omega
    · have hlt2 : ¬ (j : Int) < (n : Int) := by omega
      have hjn : j = n := by omega
      subst hjn
      obtain ⟨A, c, rfl, lo, _, _⟩ := lo_owned OJ.out
      have LO := Lib.hid lo
      clear lo
      go_wp2
      go_ret
      exact ⟨A, c, rfl, LO.out, BJ.out⟩
end
end Go.Proofs.YtapklelkcicjlaaGreatDoor.Dw

/-! Fates made to fit. No conditions. -/
namespace Go.Proofs.YtapklelkcicjlaaGreatDoor.Dw
set_option maxRecDepth 100000
open Go.RowKit Oc Dm Gt
set_option linter.unusedVariables false
set_option maxRecDepth 100000
theorem itt : Rw.ElTy Tryz.prog 24 3 (.int .i64 0) 8 := ⟨Tryz.underlying24, by kernel_rfl, rfl, by decide⟩
/-- one fate that fits -/
def fit1 (f : Int) (m : Nat) : Int := ((f.tmod ((m : Int) + 1)).natAbs : Int)
theorem fit1_le (f : Int) (m : Nat) : 0 ≤ fit1 f m ∧ fit1 f m ≤ (m : Int) := by
  unfold fit1
  refine ⟨Int.natCast_nonneg _, ?_⟩
  have h1 : (f.tmod ((m : Int) + 1)).natAbs = f.natAbs % (m + 1) := by
    have := Int.natAbs_tmod f ((m : Int) + 1)
    rw [this]
    congr 1
  have h2 : f.natAbs % (m + 1) < m + 1 := Nat.mod_lt _ (by omega)
  omega
def fitOf (ps : List (Nat × Nat)) (fs : List Int) (k : Nat) : List Int := ((List.range k).map fun j => fit1 (fs.getD j 0) (ps.getD j (0, 0)).2)
theorem fitOf_len (ps : List (Nat × Nat)) (fs : List Int) (k : Nat) : (fitOf ps fs k).length = k := by simp [fitOf]
theorem fitOf_step (ps : List (Nat × Nat)) (fs : List Int) (k : Nat) : fitOf ps fs (k + 1) = fitOf ps fs k ++ [fit1 (fs.getD k 0) (ps.getD k (0, 0)).2] := by simp [fitOf, List.range_succ]
theorem fitOf_good (ps : List (Nat × Nat)) (fs : List Int) (k j : Nat) : Good ps (fitOf ps fs k) j := by
  intro f x hf hx
  unfold fitOf at hf
  rw [List.getElem?_map] at hf
  obtain ⟨i, hi, rfl⟩ := Option.map_eq_some_iff.1 hf
  have : i = j := by
    have := List.getElem?_eq_some_iff.1 hi
    obtain ⟨h1, h2⟩ := this
    simpa using h2.symm
  subst this
  have e : ps.getD i (0, 0) = x := by simp [List.getD, hx]
  rw [e]
  exact fit1_le _ _
/-- what Fit tells -/
def Fitted (w : World) (fs : List Int) (e : Ending) (w' : World) : Prop := ∃ A c, e = .returned (.slice A fs.length c) ∧ Fi w' A fs.length fs ∧ Below w.heap.size w w'
theorem fit_any (w : World) (A B : Option Addr) (k c l c2 : Nat) (ps : List (Nat × Nat)) (fs : List Int) (hp : Lo w A k ps) (hf : Fi w B l fs) (hk : k ≤ 4096) (hm : ∀ x ∈ ps, x.2 ≤ 1000000000) (hl9 : l ≤ 9223372036854775807) :
    Calls Tryz.prog 19 #[.slice A k c, .slice B l c2] w (Fitted w (fitOf ps fs (min l k))) := by
  have HP := Lib.hid hp
  have HF := Lib.hid hf
  have HM := Lib.hid hm
  have hk2 := hp.1
  clear hp hf hm
  go_enter Tryz.func19, Tryz.ntmps19
  go_wp2
  go_loopw [5, 6] (fun v p wr => ∃ j : Nat, j ≤ l ∧ j ≤ k ∧ p = .int .i64 (j : Int) ∧ Hid (Rw.OwnV wr 3 w.heap.size v ((fitOf ps fs j).map (Value.int .i64))) ∧ Hid (Below w.heap.size w wr)) (fun _ p _ => k - (intOf p).toNat)
  case atStart => exact ⟨0, Nat.zero_le _, Nat.zero_le _, rfl, Rw.OwnV.nil _ _ _, Below.refl _ _⟩
  case round =>
    obtain ⟨j, hj, hj2, rfl, OJ, BJ⟩ := hrel
    have hcase : (j < l ∧ j < k) ∨ (l ≤ j) ∨ (j < l ∧ k ≤ j) := by omega
    rcases hcase with ⟨h1, h2⟩ | hend
    · have hfl := HF.out.len
      obtain ⟨f, hf⟩ : ∃ f, fs[j]? = some f := ⟨_, List.getElem?_eq_getElem (by omega)⟩
      obtain ⟨x, hx⟩ : ∃ x, ps[j]? = some x := ⟨_, List.getElem?_eq_getElem (by omega)⟩
      obtain ⟨b1, o1, rfl, cf⟩ := (HF.out.below BJ.out).at_ hf
      obtain ⟨b2, rfl, _, cx⟩ := (HP.out.below BJ.out).at_ hx
      have hx9 := HM.out x (List.mem_of_getElem? hx)
      have ST := Lib.hid (fitOf_step ps fs j)
      rw [show fs.getD j 0 = f by simp [List.getD, hf], show (ps.getD j (0, 0)).2 = x.2 by simp [List.getD, hx]] at ST
      have hj3 : (j : Int) < (l : Int) := by omega
      have hj4 : (j : Int) < (k : Int) := by omega
      have LEN := Lib.hid (fitOf_len ps fs j)
      clear hf hx hfl
      obtain ⟨x1, m⟩ := x
      dsimp only at cx hx9 ST
      have hm1 : ¬ ((m : Int) + 1 = 0) := by omega
      obtain ⟨t, ht⟩ : ∃ t, f.tmod ((m : Int) + 1) = t := ⟨_, rfl⟩
      have hb := fit1_le f m
      have ef : fit1 f m = (t.natAbs : Int) := by rw [fit1, ht]
      rw [ef] at hb ST
      by_cases htn : t < 0
      · have hneg : 0 - t = (t.natAbs : Int) := by omega
        have hlow : -9223372036854775808 ≤ t := by omega
        generalize (t.natAbs : Int) = y at hneg ST hb
        clear ef
        go_wp2_with fail
        go_region
        go_wp2_with (at_builtin; refine Rw.wpList_append_one rfl _ _ 24 rfl itt rfl OJ.out BJ.out.drew _ rfl rfl (by rw [List.length_map, LEN.out]; omega) ?_; intro v2 w2 o2 b2; have O2 := Lib.hid o2; have B2 := Lib.hid b2; clear o2 b2)
        go_roundw
        case rel => exact ⟨j + 1, by omega, by omega, by go_num, by rw [ST.out, List.map_append]; exact O2, B2⟩
        case measure => simp [intOf]; omega
      · have hneg : (t.natAbs : Int) = t := by omega
        rw [hneg] at ST hb
        clear ef hneg
        go_wp2_with fail
        go_region
        go_wp2_with (at_builtin; refine Rw.wpList_append_one rfl _ _ 24 rfl itt rfl OJ.out BJ.out.drew _ rfl rfl (by rw [List.length_map, LEN.out]; omega) ?_; intro v2 w2 o2 b2; have O2 := Lib.hid o2; have B2 := Lib.hid b2; clear o2 b2)
        go_roundw
        case rel => exact ⟨j + 1, by omega, by omega, by go_num, by rw [ST.out, List.map_append]; exact O2, B2⟩
        case measure => simp [intOf]; omega
    · have HJM : Hid (min l k = j) := Lib.hid (by omega)
      have LEN : ((fitOf ps fs j).map (Value.int .i64)).length = (fitOf ps fs j).length := by simp
      obtain ⟨A2, c3, rfl, _, _, sl⟩ := OJ.out.form LEN
      have SL := Lib.hid sl
      clear sl LEN
      rcases hend with hend | ⟨hend, hend2⟩
      all_goals
        go_wp2
        go_ret
        rw [HJM.out]
        exact ⟨A2, c3, rfl, SL.out, BJ.out⟩
end Go.Proofs.YtapklelkcicjlaaGreatDoor.Dw
