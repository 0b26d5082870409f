/-
  Elder texts, one behind the other: DvSt, DvPow, DvStands, DvPeek, DvNew. No conditions.
-/
import Derived.Test.YtapklelkcicjlaaGreatDoorKDm
import Derived.RegionTactic
import Derived.Deep.QuietTactic
import Derived.BigQuiet
import Derived.StillTailTactics
import Derived.Laws.Bits64
import Derived.Laws.BitsAllLaws
import Derived.Test.YtapklelkcicjlaaGreatDoorKRow
/-! Powers and devices behind pointers; the contracts of what only asks. No conditions. -/
namespace Go.Proofs.YtapklelkcicjlaaGreatDoor.Dw
set_option maxRecDepth 100000
open Go.RowKit Oc Dm
set_option linter.unusedVariables false

theorem ret_int {k : IntKind} {a b : Int} (h : a = b) : Ending.returned (.int k a) = .returned (.int k b) := by rw [h]
theorem lt_of_heap {w : World} {b : Nat} {o : Obj} (h : w.heap[b]? = some o) : b < w.heap.size := (Array.getElem?_eq_some_iff.1 h).1

/-- A POWER BEHIND A POINTER -/
structure Pw (w : World) (p : Nat) (s : PS) : Prop where
  head : w.heap[p]? = some (.cells #[.bool (!s.off), .bool true, .int .i64 (fz s.fuse), .int .i64 (s.done : Int)] 112 (0, 0))
  hf : ∀ k, s.fuse = some k → k ≤ 1048576
  hd : s.done ≤ 1000000000000
section
variable {w w' : World} {p : Nat} {s : PS}
theorem Pw.lt (h : Pw w p s) : p < w.heap.size := lt_of_heap h.head
theorem Pw.heap (h : Pw w p s) (e : w'.heap[p]? = w.heap[p]?) : Pw w' p s := ⟨e.trans h.head, h.hf, h.hd⟩
theorem Pw.cells (h : Pw w p s) : w.cell? ⟨p, 0, none⟩ = some (.bool (!s.off)) ∧ w.cell? ⟨p, 1, none⟩ = some (.bool true) ∧ w.cell? ⟨p, 2, none⟩ = some (.int .i64 (fz s.fuse)) ∧ w.cell? ⟨p, 3, none⟩ = some (.int .i64 (s.done : Int)) ∧ (∀ i, w.frozen? ⟨p, i, none⟩ = false) := by
  refine ⟨?_, ?_, ?_, ?_, fun i => frozen_of_row w p i _ _ h.head⟩ <;> rw [cell_of_row w p _ _ _ (0, 0) h.head] <;> rfl
end

/-- A DEVICE BEHIND A POINTER, with its parts -/
structure DvAt (w : World) (F : Nat → Prop) (D p n N : Nat) (S : Nat → Sec) (rd wr fx m r : Nat) (g : Nat → Option Pl) : Prop where
  head : w.heap[D]? = some (.cells #[.pointer (some ⟨p, 0, none⟩), .slice (some ⟨fx, 0, none⟩) n n, .map (some m), .map (some r), .int .u64 (rd : Int), .int .u64 (wr : Int)] 125 (0, 0))
  fixd : SRow w fx n n (fun i => (S i).fixed)
  lm : LM w m N n g
  rm : RM w r N n (fun i => (S i).rotten)
  none_ : ∀ i, i < n → g i = none → (S i).loose = []
  some_ : ∀ i t, i < n → g i = some t → (S i).loose ≠ [] ∧ t.2.1 = (S i).loose.length ∧ SRow w t.1 t.2.1 t.2.2 (fun j => (S i).loose.getD j []) ∧ F t.1 ∧ t.1 ≠ fx
  apart : ∀ i j s t, i < n → j < n → i ≠ j → g i = some s → g j = some t → s.1 ≠ t.1
  mr : m ≠ r
  hn : n ≤ 4096
  hN : N ≤ 1000000000
  hl : ∀ i, i < n → (S i).loose.length ≤ N
  hrd : rd < 18446744073709551616
  hwr : wr < 18446744073709551616
  inF : F D ∧ F fx ∧ F m ∧ F r
  bound : ∀ k, F k → k < w.heap.size
/-- A DEVICE BEHIND A POINTER -/
def Dv (w : World) (F : Nat → Prop) (D p n N : Nat) (S : Nat → Sec) (rd wr : Nat) : Prop := ∃ fx m r g, DvAt w F D p n N S rd wr fx m r g
section
variable {w w' : World} {F F' : Nat → Prop} {D p n N : Nat} {S : Nat → Sec} {rd wr fx m r : Nat} {g : Nat → Option Pl}
theorem DvAt.frame (h : DvAt w F D p n N S rd wr fx m r g) (hF : ∀ k, F k → F' k) (hb : ∀ k, F' k → k < w'.heap.size) (hk : ∀ k, F k → w'.heap[k]? = w.heap[k]?) : DvAt w' F' D p n N S rd wr fx m r g where
  head := (hk _ h.inF.1).trans h.head
  fixd := h.fixd.heap (hk _ h.inF.2.1)
  lm := h.lm.heap (hk _ h.inF.2.2.1)
  rm := h.rm.heap (hk _ h.inF.2.2.2)
  none_ := h.none_
  some_ := fun i t hi e => by
    obtain ⟨a, b, c, d, f⟩ := h.some_ i t hi e
    exact ⟨a, b, c.heap (hk _ d), hF _ d, f⟩
  apart := h.apart
  mr := h.mr
  hn := h.hn
  hN := h.hN
  hl := h.hl
  hrd := h.hrd
  hwr := h.hwr
  inF := ⟨hF _ h.inF.1, hF _ h.inF.2.1, hF _ h.inF.2.2.1, hF _ h.inF.2.2.2⟩
  bound := hb
theorem Dv.frame (h : Dv w F D p n N S rd wr) (hF : ∀ k, F k → F' k) (hb : ∀ k, F' k → k < w'.heap.size) (hk : ∀ k, F k → w'.heap[k]? = w.heap[k]?) : Dv w' F' D p n N S rd wr := by
  obtain ⟨fx, m, r, g, h⟩ := h
  exact ⟨fx, m, r, g, h.frame hF hb hk⟩
theorem DvAt.kept (h : DvAt w F D p n N S rd wr fx m r g) {G : Nat → Prop} (hc : Chg G w w') (hG : ∀ k, F k → ¬ G k) : DvAt w' F D p n N S rd wr fx m r g :=
  h.frame (fun _ x => x) (fun k x => Nat.lt_of_lt_of_le (h.bound k x) hc.size) (fun k x => hc.block k (h.bound k x) (hG k x))
theorem Dv.kept (h : Dv w F D p n N S rd wr) {G : Nat → Prop} (hc : Chg G w w') (hG : ∀ k, F k → ¬ G k) : Dv w' F D p n N S rd wr := by
  obtain ⟨fx, m, r, g, h⟩ := h
  exact ⟨fx, m, r, g, h.kept hc hG⟩
theorem Dv.below (h : Dv w F D p n N S rd wr) (hc : Below w.heap.size w w') : Dv w' F D p n N S rd wr := h.kept (G := fun _ => False) (Chg.of_below hc) (fun _ _ x => x)
theorem DvAt.more {N' : Nat} (h : DvAt w F D p n N S rd wr fx m r g) (hN : N ≤ N') (hb : N' ≤ 1000000000) : DvAt w F D p n N' S rd wr fx m r g :=
  { h with lm := h.lm.more hN, rm := h.rm.more hN, hN := hb, hl := fun i hi => Nat.le_trans (h.hl i hi) hN }
theorem Dv.more {N' : Nat} (h : Dv w F D p n N S rd wr) (hN : N ≤ N') (hb : N' ≤ 1000000000) : Dv w F D p n N' S rd wr := by
  obtain ⟨fx, m, r, g, h⟩ := h
  exact ⟨fx, m, r, g, h.more hN hb⟩
theorem DvAt.cells (h : DvAt w F D p n N S rd wr fx m r g) : w.cell? ⟨D, 0, none⟩ = some (.pointer (some ⟨p, 0, none⟩)) ∧ w.cell? ⟨D, 1, none⟩ = some (.slice (some ⟨fx, 0, none⟩) n n) ∧ w.cell? ⟨D, 2, none⟩ = some (.map (some m)) ∧ w.cell? ⟨D, 3, none⟩ = some (.map (some r)) ∧
    w.cell? ⟨D, 4, none⟩ = some (.int .u64 (rd : Int)) ∧ w.cell? ⟨D, 5, none⟩ = some (.int .u64 (wr : Int)) ∧ (∀ i, w.frozen? ⟨D, i, none⟩ = false) := by
  refine ⟨?_, ?_, ?_, ?_, ?_, ?_, fun i => frozen_of_row w D i _ _ h.head⟩ <;> rw [cell_of_row w D _ _ _ (0, 0) h.head] <;> rfl
end

/-! what only asks -/
section
variable {w : World} {p : Nat} {s : PS}
theorem pmade_any (h : Pw w p s) : Calls Tryz.prog 57 #[.pointer (some ⟨p, 0, none⟩)] w fun e w' => e = .returned (.bool true) ∧ w = w' := by
  obtain ⟨c0, c1, c2, c3, fr⟩ := h.cells
  go_enter Tryz.func57, Tryz.ntmps57
  go_wp2
  go_ret
  exact ⟨rfl, rfl⟩
theorem pmade_nil (w : World) : Calls Tryz.prog 57 #[.pointer none] w fun e w' => e = .returned (.bool false) ∧ w = w' := by
  go_enter Tryz.func57, Tryz.ntmps57
  go_wp2
  go_ret
  exact ⟨rfl, rfl⟩
theorem pmade_odd (w : World) (p : Nat) (c1 : w.cell? ⟨p, 1, none⟩ = some (.bool false)) : Calls Tryz.prog 57 #[.pointer (some ⟨p, 0, none⟩)] w fun e w' => e = .returned (.bool false) ∧ w = w' := by
  go_enter Tryz.func57, Tryz.ntmps57
  go_wp2
  go_ret
  exact ⟨rfl, rfl⟩
theorem down_any (h : Pw w p s) : Calls Tryz.prog 15 #[.pointer (some ⟨p, 0, none⟩)] w fun e w' => e = .returned (.bool s.off) ∧ w = w' := by
  have H := Lib.hid h
  obtain ⟨c0, c1, c2, c3, fr⟩ := h.cells
  clear h
  go_enter Tryz.func15, Tryz.ntmps15
  go_wp2_with fail
  refine (pmade_any H.out).mono ?_; rintro e w' ⟨rfl, rfl⟩
  go_wp2
  go_ret
  exact ⟨by simp, rfl⟩
theorem done_any (h : Pw w p s) : Calls Tryz.prog 56 #[.pointer (some ⟨p, 0, none⟩)] w fun e w' => e = .returned (.int .i64 (s.done : Int)) ∧ w = w' := by
  have H := Lib.hid h
  obtain ⟨c0, c1, c2, c3, fr⟩ := h.cells
  clear h
  go_enter Tryz.func56, Tryz.ntmps56
  go_wp2_with fail
  refine (pmade_any H.out).mono ?_; rintro e w' ⟨rfl, rfl⟩
  go_wp2
  go_ret
  exact ⟨rfl, rfl⟩
end
section
variable {w : World} {F : Nat → Prop} {D p n N : Nat} {S : Nat → Sec} {rd wr fx m r : Nat} {g : Nat → Option Pl} {s : PS}
theorem dmade_any (h : DvAt w F D p n N S rd wr fx m r g) : Calls Tryz.prog 71 #[.pointer (some ⟨D, 0, none⟩)] w fun e w' => e = .returned (.bool true) ∧ w = w' := by
  obtain ⟨c0, c1, c2, c3, c4, c5, fr⟩ := h.cells
  clear h
  go_enter Tryz.func71, Tryz.ntmps71
  go_wp2
  go_ret
  exact ⟨rfl, rfl⟩
theorem size_any (h : DvAt w F D p n N S rd wr fx m r g) : Calls Tryz.prog 119 #[.pointer (some ⟨D, 0, none⟩)] w fun e w' => e = .returned (.int .i64 (n : Int)) ∧ w = w' := by
  have H := Lib.hid h
  obtain ⟨c0, c1, c2, c3, c4, c5, fr⟩ := h.cells
  clear h
  go_enter Tryz.func119, Tryz.ntmps119
  go_wp2_with fail
  refine (dmade_any H.out).mono ?_; rintro e w' ⟨rfl, rfl⟩
  go_wp2
  go_ret
  exact ⟨rfl, rfl⟩
theorem has_yes (h : DvAt w F D p n N S rd wr fx m r g) (i : Nat) (hi : i < n) : Calls Tryz.prog 78 #[.pointer (some ⟨D, 0, none⟩), .int .i64 (i : Int)] w fun e w' => e = .returned (.bool true) ∧ w = w' := by
  have H := Lib.hid h
  clear h
  go_enter Tryz.func78, Tryz.ntmps78
  go_wp2_with fail
  refine (size_any H.out).mono ?_; rintro e w' ⟨rfl, rfl⟩
  go_wp2
  go_ret
  exact ⟨rfl, rfl⟩
theorem has_no (h : DvAt w F D p n N S rd wr fx m r g) (i : Int) (hi : i < 0 ∨ (n : Int) ≤ i) : Calls Tryz.prog 78 #[.pointer (some ⟨D, 0, none⟩), .int .i64 i] w fun e w' => e = .returned (.bool false) ∧ w = w' := by
  have H := Lib.hid h
  clear h
  by_cases h0 : i < 0
  · clear hi
    go_enter Tryz.func78, Tryz.ntmps78
    go_wp2
    go_ret
    exact ⟨rfl, rfl⟩
  · have h1 : ¬ i < (n : Int) := by omega
    have hd : decide (i < (n : Int)) = false := by simp; omega
    clear hi
    go_enter Tryz.func78, Tryz.ntmps78
    go_wp2_with fail
    refine (size_any H.out).mono ?_; rintro e w' ⟨rfl, rfl⟩
    go_wp2
    go_ret
    exact ⟨rfl, rfl⟩
theorem ready_any (h : DvAt w F D p n N S rd wr fx m r g) (hp : Pw w p s) : Calls Tryz.prog 67 #[.pointer (some ⟨D, 0, none⟩)] w fun e w' => e = .returned (.int .i64 (if s.off then 80 else 0)) ∧ w = w' := by
  have H := Lib.hid h
  have HP := Lib.hid hp
  obtain ⟨c0, c1, c2, c3, c4, c5, fr⟩ := h.cells
  clear h hp
  cases ho : s.off
  all_goals
    go_enter Tryz.func67, Tryz.ntmps67
    go_wp2_with fail
    refine (dmade_any H.out).mono ?_; rintro e w' ⟨rfl, rfl⟩
    go_wp2_with fail
    refine (down_any HP.out).mono ?_; rintro e w' ⟨rfl, rfl⟩
    go_wp2
    go_ret
    exact ⟨rfl, rfl⟩
theorem rotten_any (h : DvAt w F D p n N S rd wr fx m r g) (i : Nat) (hi : i < n) : Calls Tryz.prog 79 #[.pointer (some ⟨D, 0, none⟩), .int .i64 (i : Int)] w fun e w' => e = .returned (.bool (S i).rotten) ∧ Below w.heap.size w w' := by
  have H := Lib.hid h
  obtain ⟨c0, c1, c2, c3, c4, c5, fr⟩ := h.cells
  have hrm := h.rm.look hi h.hn
  clear h
  go_enter Tryz.func79, Tryz.ntmps79
  go_wp2_with fail
  refine (dmade_any H.out).mono ?_; rintro e w' ⟨rfl, rfl⟩
  go_wp2
  go_ret
  exact ⟨rfl, (Below.refl _ w).alloc (Nat.le_refl _) _⟩
end
end Go.Proofs.YtapklelkcicjlaaGreatDoor.Dw

/-! Contracts of what turns a power, of patterns, and of devices that nobody made. No conditions. -/
namespace Go.Proofs.YtapklelkcicjlaaGreatDoor.Dw
set_option maxRecDepth 100000
open Go.RowKit Oc Dm
set_option linter.unusedVariables false

/-- what a call leaves that turns a power -/
def PTurned (w : World) (p : Nat) (s' : PS) (v : Value) (e : Ending) (w' : World) : Prop := e = .returned v ∧ Pw w' p s' ∧ w.grownBy w' (some p) ∧ w'.heap.size = w.heap.size
theorem grown_cell (w : World) (p i : Nat) (v : Value) : w.grownBy (w.setCell ⟨p, i, none⟩ v) (some p) := ⟨rfl, rfl, rfl, by simp [World.setCell], fun k _ hk => heap_setCell_other w _ k v (fun e => hk (by rw [e]))⟩
theorem size_cell (w : World) (a : Addr) (v : Value) : (w.setCell a v).heap.size = w.heap.size := by simp [World.setCell]
theorem fz_none : fz none = -1 := rfl
theorem fz_some (k : Nat) : fz (some k) = (k : Int) := rfl
theorem grown2 {a b c : World} {R : Option Nat} (h : a.grownBy b R) (k : b.grownBy c R) : a.grownBy c R := h.trans k

section
variable {w : World} {p : Nat} {s : PS}
theorem newpower_any (w : World) : Calls Tryz.prog 18 #[] w fun e w' => e = .returned (.pointer (some ⟨w.heap.size, 0, none⟩)) ∧ Pw w' w.heap.size ⟨false, none, 0⟩ ∧ Below w.heap.size w w' ∧ w'.heap.size = w.heap.size + 1 := by
  go_enter Tryz.func18, Tryz.ntmps18
  go_wp2
  go_ret
  exact ⟨rfl, ⟨heap_alloc_new w _, (fun k e => by cases e), Nat.zero_le _⟩, (Below.refl _ w).alloc (Nat.le_refl _) _, by simp⟩
theorem cut_any (h : Pw w p s) : Calls Tryz.prog 29 #[.pointer (some ⟨p, 0, none⟩)] w (PTurned w p { s with off := true } (.tuple #[])) := by
  have H := Lib.hid h
  obtain ⟨c0, c1, c2, c3, fr⟩ := h.cells
  clear h
  go_enter Tryz.func29, Tryz.ntmps29
  go_wp2_with fail
  refine (pmade_any H.out).mono ?_; rintro e w' ⟨rfl, rfl⟩
  go_wp2
  go_end0
  exact ⟨rfl, ⟨by rw [heap_setCell_same _ _ _ _ _ _ H.out.head]; rfl, H.out.hf, H.out.hd⟩, grown_cell .., size_cell ..⟩
theorem cut_nil (w : World) : Calls Tryz.prog 29 #[.pointer none] w fun e w' => e = .returned (.tuple #[]) ∧ w = w' := by
  go_enter Tryz.func29, Tryz.ntmps29
  go_wp2_with fail
  refine (pmade_nil w).mono ?_; rintro e w' ⟨rfl, rfl⟩
  go_wp2
  go_end0
  exact ⟨rfl, rfl⟩
theorem down_nil (w : World) : Calls Tryz.prog 15 #[.pointer none] w fun e w' => e = .returned (.bool true) ∧ w = w' := by
  go_enter Tryz.func15, Tryz.ntmps15
  go_wp2_with fail
  refine (pmade_nil w).mono ?_; rintro e w' ⟨rfl, rfl⟩
  go_wp2
  go_ret
  exact ⟨rfl, rfl⟩
theorem done_nil (w : World) : Calls Tryz.prog 56 #[.pointer none] w fun e w' => e = .returned (.int .i64 0) ∧ w = w' := by
  go_enter Tryz.func56, Tryz.ntmps56
  go_wp2_with fail
  refine (pmade_nil w).mono ?_; rintro e w' ⟨rfl, rfl⟩
  go_wp2
  go_ret
  exact ⟨rfl, rfl⟩
theorem fuse_nil (w : World) (z : Int) : Calls Tryz.prog 11 #[.pointer none, .int .i64 z] w fun e w' => e = .returned (.int .i64 2) ∧ w = w' := by
  go_enter Tryz.func11, Tryz.ntmps11
  go_wp2_with fail
  refine (pmade_nil w).mono ?_; rintro e w' ⟨rfl, rfl⟩
  go_wp2
  go_ret
  exact ⟨rfl, rfl⟩

/-- a fuse is put in: what is answered, and what becomes of the power -/
def PS.fuseE (s : PS) (z : Int) : Int := if s.off then 80 else if z < -1 ∨ 1048576 < z then 1 else 0
def PS.fuseS (s : PS) (z : Int) : PS := if s.off then s else if z < -1 ∨ 1048576 < z then s else { s with fuse := if z < 0 then none else some z.toNat }
theorem fuse_any (h : Pw w p s) (z : Int) : Calls Tryz.prog 11 #[.pointer (some ⟨p, 0, none⟩), .int .i64 z] w (PTurned w p (PS.fuseS s z) (.int .i64 (PS.fuseE s z))) := by
  have H := Lib.hid h
  obtain ⟨c0, c1, c2, c3, fr⟩ := h.cells
  clear h
  cases ho : s.off
  · by_cases h1 : z < -1
    · go_enter Tryz.func11, Tryz.ntmps11
      go_wp2_with fail
      refine (pmade_any H.out).mono ?_; rintro e w' ⟨rfl, rfl⟩
      go_wp2
      go_ret
      refine ⟨ret_int (by unfold PS.fuseE; simp [ho, h1]), ?_, World.grownBy.refl _ _, rfl⟩
      have e : PS.fuseS s z = s := by unfold PS.fuseS; simp [ho, h1]
      rw [e]; exact H.out
    · by_cases h2 : 1048576 < z
      · go_enter Tryz.func11, Tryz.ntmps11
        go_wp2_with fail
        refine (pmade_any H.out).mono ?_; rintro e w' ⟨rfl, rfl⟩
        go_wp2
        go_ret
        refine ⟨ret_int (by unfold PS.fuseE; simp [ho, h2]), ?_, World.grownBy.refl _ _, rfl⟩
        have e : PS.fuseS s z = s := by unfold PS.fuseS; simp [ho, h2]
        rw [e]; exact H.out
      · have h3 : ¬ (z < -1 ∨ 1048576 < z) := by omega
        have H3 := Lib.hid h3
        clear h3
        go_enter Tryz.func11, Tryz.ntmps11
        go_wp2_with fail
        refine (pmade_any H.out).mono ?_; rintro e w' ⟨rfl, rfl⟩
        go_wp2
        go_ret
        refine ⟨ret_int (by unfold PS.fuseE; rw [ho, if_neg H3.out]; rfl), ?_, grown_cell .., size_cell ..⟩
        have e : PS.fuseS s z = { s with fuse := if z < 0 then none else some z.toNat } := by unfold PS.fuseS; rw [ho, if_neg H3.out]; rfl
        have ef : fz (if z < 0 then none else some z.toNat) = z := by
          by_cases hz : z < 0
          · rw [if_pos hz, fz_none]; omega
          · rw [if_neg hz, fz_some]; omega
        rw [e]
        refine ⟨?_, fun k ek => ?_, H.out.hd⟩
        · rw [heap_setCell_same _ _ _ _ _ _ H.out.head]
          simp [ef]
        · by_cases hz : z < 0
          · simp [hz] at ek
          · simp [hz] at ek; omega
  · go_enter Tryz.func11, Tryz.ntmps11
    go_wp2_with fail
    refine (pmade_any H.out).mono ?_; rintro e w' ⟨rfl, rfl⟩
    go_wp2
    go_ret
    refine ⟨ret_int (by unfold PS.fuseE; simp [ho]), ?_, World.grownBy.refl _ _, rfl⟩
    have e : PS.fuseS s z = s := by unfold PS.fuseS; simp [ho]
    rw [e]; exact H.out
theorem spend_any (h : Pw w p s) (hd : s.done < 1000000000000) : Calls Tryz.prog 68 #[.pointer (some ⟨p, 0, none⟩)] w (PTurned w p s.spend (.bool (!s.goes))) := by
  have H := Lib.hid h
  obtain ⟨c0, c1, c2, c3, fr⟩ := h.cells
  have hf := h.hf
  clear h
  obtain ⟨off, fuse, done⟩ := s
  dsimp only at hd c0 c1 c2 c3 hf
  rcases fuse with _ | _ | k
  · rw [fz_none] at c2
    go_enter Tryz.func68, Tryz.ntmps68
    go_wp2
    go_ret
    refine ⟨rfl, ⟨?_, (fun k e => by cases e), by show done + 1 ≤ _; omega⟩, grown_cell .., size_cell ..⟩
    rw [heap_setCell_same _ _ _ _ _ _ H.out.head]
    simp [PS.spend]
  · rw [fz_some] at c2
    go_enter Tryz.func68, Tryz.ntmps68
    go_wp2
    go_ret
    refine ⟨rfl, ⟨?_, hf, H.out.hd⟩, grown_cell .., size_cell ..⟩
    rw [heap_setCell_same _ _ _ _ _ _ H.out.head]
    rfl
  · have hk := hf (k + 1) rfl
    rw [fz_some] at c2
    have hne : ¬ (((k + 1 : Nat) : Int) = 0) := by omega
    have hpo : (0 : Int) < ((k + 1 : Nat) : Int) := by omega
    have hsub : ((k + 1 : Nat) : Int) - 1 = (k : Int) := by omega
    go_enter Tryz.func68, Tryz.ntmps68
    go_wp2
    go_ret
    refine ⟨rfl, ⟨?_, fun j e => ?_, by show done + 1 ≤ _; omega⟩, grown2 (grown_cell ..) (grown_cell ..), by rw [size_cell, size_cell]⟩
    · rw [heap_setCell_same _ _ _ _ _ _ (heap_setCell_same _ _ _ _ _ _ H.out.head)]
      simp [PS.spend, fz]
    · injection e with e; omega
end
/-- a pattern: whether the next one fails, and the rest -/
theorem next_any (w : World) (b o u : Nat) (hu : u < 18446744073709551616) (c : w.cell? ⟨b, o, none⟩ = some (.int .u64 (u : Int))) (fr : w.frozen? ⟨b, o, none⟩ = false) :
    Calls Tryz.prog 106 #[.pointer (some ⟨b, o, none⟩)] w fun e w' => e = .returned (.bool (u % 2 == 1)) ∧ w' = w.setCell ⟨b, o, none⟩ (.int .u64 ((u / 2 : Nat) : Int)) := by
  have e1 : bits BinOp.and IntKind.u64 (u : Int) 1 = ((u % 2 : Nat) : Int) := by rw [← nat_mask1]; exact u64_and_nat u 1 hu (by decide)
  go_enter Tryz.func106, Tryz.ntmps106
  go_wp2
  go_ret
  refine ⟨?_, rfl⟩
  rcases Nat.mod_two_eq_zero_or_one u with h | h
  · simp [h]; omega
  · simp [h]; omega
section
variable {w : World} {F : Nat → Prop} {D p n N : Nat} {S : Nat → Sec} {rd wr fx m r : Nat} {g : Nat → Option Pl} {s : PS}
theorem DvAt.set4 (h : DvAt w F D p n N S rd wr fx m r g) (u : Nat) (hu : u < 18446744073709551616) : DvAt (w.setCell ⟨D, 4, none⟩ (.int .u64 (u : Int))) F D p n N S u wr fx m r g := by
  have hne : ∀ k, k ≠ D → (w.setCell ⟨D, 4, none⟩ (.int .u64 (u : Int))).heap[k]? = w.heap[k]? := fun k hk => heap_setCell_other w _ k _ hk
  have ht : ∀ b (cur : Array Value), w.heap[b]? = some (.cells cur 128 (0, 0)) → b ≠ D := fun b cur hb e => by rw [e, h.head] at hb; cases hb
  have hm : ∀ b es c, w.heap[b]? = some (.map es c) → b ≠ D := fun b es c hb e => by rw [e, h.head] at hb; cases hb
  exact { h with
    head := by rw [heap_setCell_same _ _ _ _ _ _ h.head]; simp
    fixd := h.fixd.heap (hne _ (by obtain ⟨cur, hg, _⟩ := h.fixd; exact ht _ _ hg))
    lm := h.lm.heap (hne _ (by obtain ⟨_, ⟨es, c, hb, _⟩, _⟩ := h.lm; exact hm _ _ _ hb))
    rm := h.rm.heap (hne _ (by obtain ⟨_, ⟨es, c, hb, _⟩, _⟩ := h.rm; exact hm _ _ _ hb))
    some_ := fun i t hi e => by
      obtain ⟨a, b, c, d, f⟩ := h.some_ i t hi e
      exact ⟨a, b, c.heap (hne _ (by obtain ⟨cur, hg, _⟩ := c; exact ht _ _ hg)), d, f⟩
    hrd := hu
    bound := fun k x => by rw [size_cell]; exact h.bound k x }
theorem DvAt.set5 (h : DvAt w F D p n N S rd wr fx m r g) (u : Nat) (hu : u < 18446744073709551616) : DvAt (w.setCell ⟨D, 5, none⟩ (.int .u64 (u : Int))) F D p n N S rd u fx m r g := by
  have hne : ∀ k, k ≠ D → (w.setCell ⟨D, 5, none⟩ (.int .u64 (u : Int))).heap[k]? = w.heap[k]? := fun k hk => heap_setCell_other w _ k _ hk
  have ht : ∀ b (cur : Array Value), w.heap[b]? = some (.cells cur 128 (0, 0)) → b ≠ D := fun b cur hb e => by rw [e, h.head] at hb; cases hb
  have hm : ∀ b es c, w.heap[b]? = some (.map es c) → b ≠ D := fun b es c hb e => by rw [e, h.head] at hb; cases hb
  exact { h with
    head := by rw [heap_setCell_same _ _ _ _ _ _ h.head]; simp
    fixd := h.fixd.heap (hne _ (by obtain ⟨cur, hg, _⟩ := h.fixd; exact ht _ _ hg))
    lm := h.lm.heap (hne _ (by obtain ⟨_, ⟨es, c, hb, _⟩, _⟩ := h.lm; exact hm _ _ _ hb))
    rm := h.rm.heap (hne _ (by obtain ⟨_, ⟨es, c, hb, _⟩, _⟩ := h.rm; exact hm _ _ _ hb))
    some_ := fun i t hi e => by
      obtain ⟨a, b, c, d, f⟩ := h.some_ i t hi e
      exact ⟨a, b, c.heap (hne _ (by obtain ⟨cur, hg, _⟩ := c; exact ht _ _ hg)), d, f⟩
    hwr := hu
    bound := fun k x => by rw [size_cell]; exact h.bound k x }
/-- what a call leaves that turns a device -/
def DTurned (w : World) (F : Nat → Prop) (D p n N : Nat) (S : Nat → Sec) (rd wr : Nat) (v : Value) (e : Ending) (w' : World) : Prop := e = .returned v ∧ Dv w' (Ext F w w') D p n N S rd wr ∧ Chg F w w'
theorem ext_self {F : Nat → Prop} (w w' : World) (k : Nat) (h : F k) : Ext F w w' k := .inl h
theorem DvAt.ext {w' : World} (h : DvAt w' F D p n N S rd wr fx m r g) (hs : w.heap.size ≤ w'.heap.size) : DvAt w' (Ext F w w') D p n N S rd wr fx m r g :=
  h.frame (fun k x => .inl x) (fun k x => x.elim (h.bound k) (fun y => y.2)) (fun k _ => rfl)
theorem fail_any (h : DvAt w F D p n N S rd wr fx m r g) (u v : Nat) (hu : u < 18446744073709551616) (hv : v < 18446744073709551616) :
    Calls Tryz.prog 46 #[.pointer (some ⟨D, 0, none⟩), .int .u64 (u : Int), .int .u64 (v : Int)] w (DTurned w F D p n N S u v (.tuple #[])) := by
  have H := Lib.hid h
  obtain ⟨c0, c1, c2, c3, c4, c5, fr⟩ := h.cells
  clear h
  go_enter Tryz.func46, Tryz.ntmps46
  go_wp2_with fail
  refine (dmade_any H.out).mono ?_; rintro e w' ⟨rfl, rfl⟩
  go_wp2
  go_end0
  refine ⟨rfl, ⟨_, _, _, _, (((H.out.set4 u hu).set5 v hv).ext (by rw [size_cell, size_cell]; exact Nat.le_refl _))⟩, Chg.of_grown (grown2 (grown_cell ..) (grown_cell ..)) (fun k e _ => by injection e with e; subst e; exact H.out.inF.1)⟩
end
/-! of a device that nobody made -/
theorem dmade_nil (w : World) : Calls Tryz.prog 71 #[.pointer none] w fun e w' => e = .returned (.bool false) ∧ w = w' := by
  go_enter Tryz.func71, Tryz.ntmps71
  go_wp2
  go_ret
  exact ⟨rfl, rfl⟩
theorem dmade_odd (w : World) (D : Nat) (c0 : w.cell? ⟨D, 0, none⟩ = some (.pointer none)) : Calls Tryz.prog 71 #[.pointer (some ⟨D, 0, none⟩)] w fun e w' => e = .returned (.bool false) ∧ w = w' := by
  go_enter Tryz.func71, Tryz.ntmps71
  go_wp2
  go_ret
  exact ⟨rfl, rfl⟩
end Go.Proofs.YtapklelkcicjlaaGreatDoor.Dw

/-! Contracts of stands, Peek, Read and fix. No conditions. -/
namespace Go.Proofs.YtapklelkcicjlaaGreatDoor.Dw
set_option maxRecDepth 100000
open Go.RowKit Oc Dm
set_option linter.unusedVariables false

theorem srow_one {w : World} {b : Nat} {f : Nat → List UInt8} (h : SRow w b 1 1 f) : w.heap[b]? = some (.cells ((f 0).map ov).toArray 128 (0, 0)) := by
  obtain ⟨cur, hg, h1, h2, h3, h4⟩ := h
  obtain ⟨hl, hc⟩ := h4 0 (by decide)
  rw [hg]
  congr 2
  apply Array.ext_getElem?
  intro j
  by_cases hj : j < 64
  · obtain ⟨x, hx⟩ : ∃ x, (f 0)[j]? = some x := ⟨_, List.getElem?_eq_getElem (by omega)⟩
    have := hc j x hx
    simp at this
    rw [this]
    simp [hx]
  · rw [Array.getElem?_eq_none (by omega), Array.getElem?_eq_none (by simp [hl]; omega)]
theorem sec_size {x : List UInt8} (h : x.length = 64) : (Tryz.prog.info? 128).map (·.size) = some x.length := by rw [h]; kernel_rfl
section
variable {w w' : World} {F : Nat → Prop} {D p n N : Nat} {S : Nat → Sec} {rd wr fx m r : Nat} {g : Nat → Option Pl} {s : PS}
theorem DvAt.grown0 (h : DvAt w F D p n N S rd wr fx m r g) (hg : w.grownBy w' none) : DvAt w' F D p n N S rd wr fx m r g := h.kept (G := fun _ => False) (Chg.of_grown hg (fun k e => by cases e)) (fun _ _ x => x)
theorem DvAt.new (h : DvAt w F D p n N S rd wr fx m r g) {b : Nat} (hb : w.heap.size ≤ b) (hg : w.grownBy w' (some b)) : DvAt w' F D p n N S rd wr fx m r g := h.kept (G := fun k => k = b) (Chg.of_grown hg (fun k e _ => by injection e with e; exact e.symm)) (fun k x e => by have := h.bound k x; omega)
theorem DvAt.below (h : DvAt w F D p n N S rd wr fx m r g) (hc : Below w.heap.size w w') : DvAt w' F D p n N S rd wr fx m r g := h.kept (G := fun _ => False) (Chg.of_below hc) (fun _ _ x => x)
theorem DvAt.sec (h : DvAt w F D p n N S rd wr fx m r g) {i : Nat} (hi : i < n) : (S i).fixed.length = 64 ∧ (∀ x ∈ (S i).loose, x.length = 64) ∧ (S i).stands.length = 64 := by
  have h1 := h.fixd.len hi
  have h2 : ∀ x ∈ (S i).loose, x.length = 64 := by
    intro x hx
    cases hg : g i with
    | none => rw [h.none_ i hi hg] at hx; cases hx
    | some t =>
      obtain ⟨_, e, c, _⟩ := h.some_ i t hi hg
      obtain ⟨j, hj, rfl⟩ := List.mem_iff_getElem.1 hx
      have := c.len (i := j) (by omega)
      simpa [List.getD_eq_getElem?_getD, hj] using this
  refine ⟨h1, h2, ?_⟩
  by_cases e : (S i).loose = []
  · rw [Sec.stands_fixed e]; exact h1
  · rw [Sec.stands_loose e]
    have hl : 0 < (S i).loose.length := List.length_pos_iff.2 e
    apply h2
    rw [List.getD_eq_getElem?_getD, List.getElem?_eq_getElem (by omega)]
    exact List.getElem_mem _
set_option maxRecDepth 100000 in
set_option maxHeartbeats 2000000 in
theorem stands_any (h : DvAt w F D p n N S rd wr fx m r g) (i : Nat) (hi : i < n) :
    Calls Tryz.prog 70 #[.pointer (some ⟨D, 0, none⟩), .int .i64 (i : Int)] w fun e w' => e = .returned (sv (S i).stands) ∧ Below w.heap.size w w' := by
  have H := Lib.hid h
  have hn := h.hn
  have hi2 : (i : Int) < (n : Int) := by omega
  have hw : (i : Int) ≤ 4096 := by omega
  clear h
  cases hg : g i with
  | none =>
    have e0 := H.out.none_ i hi hg
    have ES := Lib.hid (Sec.stands_fixed e0)
    have HV : Hid (slv (g i) = .slice none 0 0) := Lib.hid (congrArg slv hg)
    clear e0
    go_enter Tryz.func70, Tryz.ntmps70
    go_wp2_with (first | ((with_reducible refine L_alloc ?_); intro w1 r1 g1 s1; have H1 := Lib.hid (H.out.grown0 g1); have R1 := Lib.hid r1; have G1 := Lib.hid g1; obtain ⟨c0, c1, c2, c3, c4, c5, fr⟩ := H1.out.cells; clear r1 g1 s1) | ((with_reducible refine L_look ?_ ?_ H1.out.lm hi hn HV.out ?_); exact rfl; exact rfl) | ((with_reducible refine L_load ?_ (H1.out.fixd.oct hi) ?_); exact rfl) | ((with_reducible refine L_store (i := 0) (xs := (S i).fixed) ?_ ?_ R1.out ?_ ?_ ?_); exact rfl; exact rfl; decide; exact (H1.out.sec hi).1; intro w2 r2 g2 s2; have R2 := Lib.hid r2; have G2 := Lib.hid g2; clear r2 g2 s2))
    refine bodyPost_ret (results_cell_row rfl _ _ _ _ _ _ _ rfl (srow_one R2.out) Tryz.underlying128 rfl (by rw [List.size_toArray, List.length_map]; exact sec_size ((H1.out.sec hi).1))) rfl ?_
    refine ⟨by rw [ES.out]; rfl, ?_⟩
    exact ((Below.refl _ w).grown G1.out (Nat.le_refl _) (fun j e => by cases e)).grown G2.out G1.out.size (fun j e => by injection e with e; omega)
  | some t =>
    obtain ⟨b, k, c⟩ := t
    obtain ⟨e0, e1, row, hF, hfx⟩ := H.out.some_ i _ hi hg
    dsimp only at e1 row hF hfx
    have hk : 0 < k := by rw [e1]; exact List.length_pos_iff.2 e0
    have hk2 : k ≤ 1000000000 := by rw [e1]; exact Nat.le_trans (H.out.hl i hi) H.out.hN
    obtain ⟨k', rfl⟩ : ∃ k', k = k' + 1 := ⟨k - 1, by omega⟩
    have ES := Lib.hid (show (S i).stands = (S i).loose.getD k' [] by rw [Sec.stands_loose e0, ← e1]; rfl)
    have ROW := Lib.hid row
    have HV : Hid (slv (g i) = .slice (some ⟨b, 0, none⟩) (k' + 1) c) := Lib.hid (congrArg slv hg)
    have HB := Lib.hid (H.out.bound _ hF)
    have EL := Lib.hid (row.len (i := k') (by omega))
    clear e0 e1 row hfx
    have hcast : ((k' + 1 : Nat) : Int) = (k' : Int) + 1 := by omega
    go_enter Tryz.func70, Tryz.ntmps70
    go_wp2_with (first | ((with_reducible refine L_alloc ?_); intro w1 r1 g1 s1; have H1 := Lib.hid (H.out.grown0 g1); have ROW1 := Lib.hid (ROW.out.heap (g1.block _ HB.out (by simp))); have R1 := Lib.hid r1; have G1 := Lib.hid g1; obtain ⟨c0, c1, c2, c3, c4, c5, fr⟩ := H1.out.cells; clear r1 g1 s1) | ((with_reducible refine L_look ?_ ?_ H1.out.lm hi hn HV.out ?_); exact rfl; exact rfl) | ((with_reducible refine L_load ?_ (ROW1.out.oct (i := k') (by omega)) ?_); exact rfl) | ((with_reducible refine L_store (i := 0) (xs := (S i).loose.getD k' []) ?_ ?_ R1.out ?_ ?_ ?_); exact rfl; exact rfl; decide; exact EL.out; intro w2 r2 g2 s2; have R2 := Lib.hid r2; have G2 := Lib.hid g2; clear r2 g2 s2))
    refine bodyPost_ret (results_cell_row rfl _ _ _ _ _ _ _ rfl (srow_one R2.out) Tryz.underlying128 rfl (by rw [List.size_toArray, List.length_map]; exact sec_size EL.out)) rfl ?_
    refine ⟨by rw [ES.out]; rfl, ?_⟩
    exact ((Below.refl _ w).grown G1.out (Nat.le_refl _) (fun j e => by cases e)).grown G2.out G1.out.size (fun j e => by injection e with e; omega)
end
end Go.Proofs.YtapklelkcicjlaaGreatDoor.Dw

/-! Contracts of Peek, Read and fix. No conditions. -/
namespace Go.Proofs.YtapklelkcicjlaaGreatDoor.Dw
set_option maxRecDepth 100000
open Go.RowKit Oc Dm Gt
set_option linter.unusedVariables false

/-- a sector is told, in new memory, with u behind it -/
def Told (w : World) (xs : List UInt8) (u : Value) (e : Ending) (w' : World) : Prop := ∃ b, e = .returned (.tuple #[.slice (some ⟨b, 0, none⟩) 64 64, u]) ∧ w.heap.size ≤ b ∧ SRow w' b 1 1 (fun _ => xs) ∧ Below w.heap.size w w'
theorem bthen {w a b : World} (h : Below w.heap.size w a) (k : Below a.heap.size a b) : Below w.heap.size w b := h.trans (k.mono h.size)
section
variable {w w' : World} {F : Nat → Prop} {D p n N : Nat} {S : Nat → Sec} {rd wr fx m r : Nat} {g : Nat → Option Pl} {s : PS}
/-- nothing is read: the error -/
theorem read_off (h : DvAt w F D p n N S rd wr fx m r g) (hp : Pw w p s) (ho : s.off = true) (z : Int) : Calls Tryz.prog 118 #[.pointer (some ⟨D, 0, none⟩), .int .i64 z] w fun e w' => e = .returned (.tuple #[.slice none 0 0, .int .i64 80]) ∧ w = w' := by
  have H := Lib.hid h
  have HP := Lib.hid hp
  clear h hp
  go_enter Tryz.func118, Tryz.ntmps118
  go_wp2_with fail
  refine (ready_any H.out HP.out).mono ?_; rintro e w' ⟨rfl, rfl⟩
  rw [ho]
  go_wp2
  go_ret2
  exact ⟨rfl, rfl⟩
theorem read_no (h : DvAt w F D p n N S rd wr fx m r g) (hp : Pw w p s) (ho : s.off = false) (z : Int) (hz : z < 0 ∨ (n : Int) ≤ z) : Calls Tryz.prog 118 #[.pointer (some ⟨D, 0, none⟩), .int .i64 z] w fun e w' => e = .returned (.tuple #[.slice none 0 0, .int .i64 3]) ∧ w = w' := by
  have H := Lib.hid h
  have HP := Lib.hid hp
  have HZ := Lib.hid hz
  clear h hp hz
  go_enter Tryz.func118, Tryz.ntmps118
  go_wp2_with fail
  refine (ready_any H.out HP.out).mono ?_; rintro e w' ⟨rfl, rfl⟩
  rw [ho]
  go_wp2_with fail
  refine (has_no H.out z HZ.out).mono ?_; rintro e w' ⟨rfl, rfl⟩
  go_wp2
  go_ret2
  exact ⟨rfl, rfl⟩
theorem read_io (h : DvAt w F D p n N S rd wr fx m r g) (hp : Pw w p s) (ho : s.off = false) (i : Nat) (hi : i < n) (hr : rd % 2 = 1) :
    Calls Tryz.prog 118 #[.pointer (some ⟨D, 0, none⟩), .int .i64 (i : Int)] w fun e w' => e = .returned (.tuple #[.slice none 0 0, .int .i64 81]) ∧ DvAt w' F D p n N S (rd / 2) wr fx m r g ∧ w.grownBy w' (some D) ∧ w'.heap.size = w.heap.size := by
  have H := Lib.hid h
  have HP := Lib.hid hp
  obtain ⟨c0, c1, c2, c3, c4, c5, fr⟩ := h.cells
  have hrd := h.hrd
  clear h hp
  have hb : (rd % 2 == 1) = true := by simp [hr]
  go_enter Tryz.func118, Tryz.ntmps118
  go_wp2_with fail
  refine (ready_any H.out HP.out).mono ?_; rintro e w' ⟨rfl, rfl⟩
  rw [ho]
  go_wp2_with fail
  refine (has_yes H.out i hi).mono ?_; rintro e w' ⟨rfl, rfl⟩
  go_wp2_with fail
  refine (next_any w D 4 rd hrd c4 (fr 4)).mono ?_; rintro e w' ⟨rfl, rfl⟩
  rw [hb]
  go_wp2
  go_ret2
  exact ⟨rfl, H.out.set4 (rd / 2) (Nat.lt_of_le_of_lt (Nat.div_le_self _ _) hrd), grown_cell .., size_cell ..⟩
set_option maxRecDepth 100000 in
theorem read_yes (h : DvAt w F D p n N S rd wr fx m r g) (hp : Pw w p s) (ho : s.off = false) (i : Nat) (hi : i < n) (hr : rd % 2 = 0) :
    Calls Tryz.prog 118 #[.pointer (some ⟨D, 0, none⟩), .int .i64 (i : Int)] w fun e w' => ∃ w1, Told w1 (S i).stands (.int .i64 0) e w' ∧ DvAt w1 F D p n N S (rd / 2) wr fx m r g ∧ w.grownBy w1 (some D) ∧ w1.heap.size = w.heap.size := by
  have H := Lib.hid h
  have HP := Lib.hid hp
  have HL := Lib.hid (h.sec hi).2.2
  obtain ⟨c0, c1, c2, c3, c4, c5, fr⟩ := h.cells
  have hrd := h.hrd
  clear h hp
  have hb : (rd % 2 == 1) = false := by simp [hr]
  go_enter Tryz.func118, Tryz.ntmps118
  go_wp2_with fail
  refine (ready_any H.out HP.out).mono ?_; rintro e w' ⟨rfl, rfl⟩
  rw [ho]
  go_wp2_with fail
  refine (has_yes H.out i hi).mono ?_; rintro e w' ⟨rfl, rfl⟩
  go_wp2_with fail
  refine (next_any w D 4 rd hrd c4 (fr 4)).mono ?_; rintro e w' ⟨rfl, rfl⟩
  rw [hb]
  have H4 := Lib.hid (H.out.set4 (rd / 2) (by omega))
  have G4 := Lib.hid (grown_cell w D 4 (.int .u64 ((rd / 2 : Nat) : Int)))
  have Z4 := Lib.hid (size_cell w ⟨D, 4, none⟩ (.int .u64 ((rd / 2 : Nat) : Int)))
  generalize w.setCell ⟨D, 4, none⟩ (.int .u64 ((rd / 2 : Nat) : Int)) = w4 at H4 G4 Z4 ⊢
  clear c0 c1 c2 c3 c4 c5 fr
  go_wp2_with fail
  refine (stands_any H4.out i hi).mono ?_; rintro e w0 ⟨rfl, b0⟩
  have B0 := Lib.hid b0
  clear b0
  go_wp2_with (first | ((with_reducible refine L_alloc ?_); intro w1 r1 g1 s1; have R1 := Lib.hid r1; have G1 := Lib.hid g1; clear r1 g1 s1) | ((with_reducible refine L_store (i := 0) (xs := (S i).stands) ?_ ?_ R1.out ?_ ?_ ?_); exact rfl; exact rfl; decide; exact HL.out; intro w2 r2 g2 s2; have R2 := Lib.hid r2; have G2 := Lib.hid g2; clear r2 g2 s2) | ((with_reducible refine L_slice (b := w0.heap.size) (off := 0) ?_ ?_); exact rfl))
  go_ret2
  refine ⟨w4, ⟨_, rfl, B0.out.size, R2.out.congr (fun j hj => by rw [show j = 0 by omega]; exact (upd_same _ _ _).symm), ?_⟩, H4.out, G4.out, Z4.out⟩
  exact (B0.out.grown G1.out B0.out.size (fun j e => by cases e)).grown G2.out (B0.out.grown G1.out B0.out.size (fun j e => by cases e)).size (fun j e => by injection e with e; have := B0.out.size; omega)

/-- a sector is fixed anew -/
theorem DvAt.refix (h : DvAt w F D p n N S rd wr fx m r g) {N' i : Nat} {x : List UInt8} {b : Bool} (hi : i < n) (hN : N ≤ N') (hN' : N' ≤ 1000000000) (r1 : SRow w' fx n n (upd (fun i => (S i).fixed) i x)) (r2 : RM w' r N' n (upd (fun i => (S i).rotten) i b)) (hc : Chg (fun k => k = fx ∨ k = r) w w') :
    DvAt w' F D p n N' (upd S i ⟨x, (S i).loose, b⟩) rd wr fx m r g := by
  have hs : ∀ (c : Array Value), w.heap[fx]? = some (.cells c 125 (0, 0)) → False := fun c hb => by obtain ⟨cur, hg, _⟩ := h.fixd; rw [hg] at hb; cases hb
  have hr : ∀ (c : Array Value) t, w.heap[r]? = some (.cells c t (0, 0)) → False := fun c t hb => by obtain ⟨_, ⟨es, c, hg, _⟩, _⟩ := h.rm; rw [hg] at hb; cases hb
  have hm : ∀ es c, w.heap[fx]? = some (.map es c) → False := fun es c hb => by obtain ⟨cur, hg, _⟩ := h.fixd; rw [hg] at hb; cases hb
  have hd : D ≠ fx ∧ D ≠ r := ⟨fun e => hs _ (e ▸ h.head), fun e => hr _ _ (e ▸ h.head)⟩
  have hmm : m ≠ fx := fun e => by obtain ⟨_, ⟨es, c, hb, _⟩, _⟩ := h.lm; exact hm _ _ (e ▸ hb)
  have hk : ∀ k, k < w.heap.size → k ≠ fx → k ≠ r → w'.heap[k]? = w.heap[k]? := fun k h1 h2 h3 => hc.block k h1 (fun x => x.elim h2 h3)
  have hl : ∀ j, ((upd S i ⟨x, (S i).loose, b⟩) j).loose = (S j).loose := fun j => by
    by_cases e : j = i
    · subst e; rw [upd_same]
    · rw [upd_other _ _ e]
  exact {
    head := (hk D (lt_of_heap h.head) hd.1 hd.2).trans h.head
    fixd := r1.congr (fun j hj => by
      by_cases e : j = i
      · subst e; rw [upd_same, upd_same]
      · rw [upd_other _ _ e, upd_other _ _ e])
    lm := (h.lm.more hN).heap (hk m h.lm.lt hmm h.mr)
    rm := r2.congr (fun j hj => by
      by_cases e : j = i
      · subst e; rw [upd_same, upd_same]
      · rw [upd_other _ _ e, upd_other _ _ e])
    none_ := fun j hj e => by rw [hl]; exact h.none_ j hj e
    some_ := fun j t hj e => by
      rw [hl]
      obtain ⟨a1, a2, a3, a4, a5⟩ := h.some_ j t hj e
      refine ⟨a1, a2, a3.heap (hk _ a3.lt a5 (fun e' => ?_)), a4, a5⟩
      obtain ⟨cur, hg, _⟩ := a3
      exact hr _ _ (e' ▸ hg)
    apart := h.apart
    mr := h.mr
    hn := h.hn
    hN := hN'
    hl := fun j hj => by rw [hl]; exact Nat.le_trans (h.hl j hj) hN
    hrd := h.hrd
    hwr := h.hwr
    inF := h.inF
    bound := fun k x => Nat.lt_of_lt_of_le (h.bound k x) hc.size }

theorem taken_nil {P : Program} {ops : Array Oper} {S : World → Prop} {K : Act → Prop} {a : Act} (h : K a) : Taken P ops S [] K a := h
theorem gate_last {P : Program} {md : Region.Mode} {ops : Array Oper} {Q : Exit → Act → World → Prop} {S : World → Prop} {t i fuel : Nat} {o : Oper} {listed : Array Bool} {a : Act} {w : World} (hr : Region.ready md ops listed = [i]) (hr2 : Region.ready md ops (listed.setIfInBounds i true) = []) (hit : i = t) (ho : ops[i]? = some o) (hg : o.guard = none)
    (h : ∀ K : Act → World → Prop, (∀ a' w', Q .normal a' w' → K a' w') → Oper.wp P o a w K Q) : Gate P md ops Q S t (fuel + 1) listed a w :=
  Gate.next hr ho hg (fun K hK => h K (fun a' w' hq => hK a' w' (fun hne => absurd hit hne) (Gate.done hr2 hq)))
theorem ex_load {o : Oper} {a : Act} {x : Operand} {b off : Nat} {xs : List UInt8} (ho : o.op = .load 128 x) (hx : a.eval x = .pointer (some ⟨b, off, none⟩)) (h : Oct w (some ⟨b, off, none⟩) 64 xs) : (execOp a.eval o).run Tryz.prog w = .ok (.value (sv xs)) w := by
  simp [execOp, ho, hx, run_load_sec h, Result.andThen]
theorem still_load {ops : Array Oper} {rest : List Oper} {a : Act} {w : World} {Q : Act → Prop} {dst : Option Tmp} {ty : TypeId} {pos : String} {af : Array Edge} {x : Operand} {b off : Nat} {xs : List UInt8} (hx : a.eval x = .pointer (some ⟨b, off, none⟩)) (h : Oct w (some ⟨b, off, none⟩) 64 xs)
    (hK : wpStill Tryz.prog ops w Q rest (a.put dst (sv xs))) : wpStill Tryz.prog ops w Q (⟨dst, .load 128 x, ty, pos, af, none⟩ :: rest) a := by
  refine wpStill_step (fun K hK' => ?_)
  rw [if_pos (by simp [Region.wanted])]
  have e := ex_load (o := ⟨dst, .load 128 x, ty, pos, af, none⟩) rfl hx h
  unfold Oper.still
  rw [e, Oper.stillUpon_value]
  exact hK' _ hK
theorem W_store {o : Oper} {a : Act} {K : Act → World → Prop} {Q : Exit → Act → World → Prop} {x y : Operand} {b i cap : Nat} {xs : List UInt8} {f : Nat → List UInt8} (ho : o.op = .store 128 x y) (hp : a.eval x = .pointer (some ⟨b, i * 64, none⟩)) (hy : a.eval y = sv xs) (h : SRow w b n cap f) (hi : i < n) (hx : xs.length = 64)
    (hK : ∀ w', SRow w' b n cap (upd f i xs) → w.grownBy w' (some b) → w'.heap.size = w.heap.size → K (a.put o.dst undef) w') : o.wp Tryz.prog a w K Q := by
  obtain ⟨w', hrun, r1, r2, r3⟩ := run_store_sec h hi hx
  unfold Oper.wp
  simp [execOp, ho, hp, hy, hrun, Result.andThen]
  exact hK w' r1 r2 r3

set_option maxRecDepth 100000 in
set_option maxHeartbeats 2000000 in
theorem fix_any (h : DvAt w F D p n N S rd wr fx m r g) (i : Nat) (hi : i < n) (x : List UInt8) (hx : x.length = 64) :
    Calls Tryz.prog 69 #[.pointer (some ⟨D, 0, none⟩), .int .i64 (i : Int), sv x] w fun e w' => e = .returned (.tuple #[]) ∧ DvAt w' F D p n N (upd S i ⟨x, (S i).loose, false⟩) rd wr fx m r g ∧ Chg (fun k => k = fx ∨ k = r) w w' := by
  have H := Lib.hid h
  have hn := h.hn
  have hi2 : (i : Int) < (n : Int) := by omega
  clear h
  go_enter Tryz.func69, Tryz.ntmps69
  go_wp2_with ((with_reducible refine L_box (xs := x) ?_ hx ?_); exact rfl; intro w1 r1 g1 s1; have H1 := Lib.hid (H.out.grown0 g1); have R1 := Lib.hid r1; have G1 := Lib.hid g1; obtain ⟨c0, c1, c2, c3, c4, c5, fr⟩ := H1.out.cells; clear r1 g1 s1)
  refine wp_region_still_tail 7 (by kernel_rfl) (by kernel_rfl) ?_
  simp only [List.take_succ_cons, List.take_zero, List.drop_succ_cons, List.drop_zero]
  iterate 5 still_step
  refine still_load rfl (R1.out.oct (i := 0) (by decide)) ?_
  still_step
  refine wpStill_nil ?_
  change wpList _ _ _ _ _ w1.drew
  refine L_store (i := i) (xs := x) ?_ ?_ (show SRow w1.drew fx n n (fun i => (S i).fixed) from H1.out.fixd) hi hx ?_
  · rfl
  · rfl
  intro w2 r2 g2 s2
  have g2' : w1.grownBy w2 (some fx) := ⟨g2.os, g2.tape, g2.output, g2.size, g2.block⟩
  have RM2 := Lib.hid (H1.out.rm.heap (g2'.block _ H1.out.rm.lt (fun e => by
    obtain ⟨cur, hb, _⟩ := H1.out.fixd
    obtain ⟨_, ⟨es, c, hb2, _⟩, _⟩ := H1.out.rm
    injection e with e
    rw [e, hb] at hb2
    cases hb2)))
  have D2 := Lib.hid (g2'.block D (lt_of_heap H1.out.head) (fun e => by
    obtain ⟨cur, hb, _⟩ := H1.out.fixd
    have hb2 := H1.out.head
    injection e with e
    rw [e, hb] at hb2
    cases hb2))
  have d3 : w2.cell? ⟨D, 3, none⟩ = some (.map (some r)) := (World.cell?_of_block (a := ⟨D, 3, none⟩) D2.out).trans c3
  have R2 := Lib.hid r2
  have G2 := Lib.hid g2'
  clear r2 g2 g2' s2
  go_wp2_with ((with_reducible refine L_dropr ?_ ?_ RM2.out hi hn ?_); exact rfl; exact rfl; intro w3 r3 g3)
  go_end0
  have hc : Chg (fun k => k = fx ∨ k = r) w w3 := ((Chg.of_grown G1.out (fun k e => by cases e)).trans (Chg.of_grown G2.out (fun k e _ => .inl (by injection e with e; exact e.symm))) (fun _ _ x => x)).trans (Chg.of_grown g3 (fun k e _ => .inr (by injection e with e; exact e.symm))) (fun _ _ x => x)
  have hc1 : Chg (fun k => k = fx ∨ k = r) w1 w3 := (Chg.of_grown G2.out (fun k e _ => .inl (by injection e with e; exact e.symm))).trans (Chg.of_grown g3 (fun k e _ => .inr (by injection e with e; exact e.symm))) (fun _ _ x => x)
  refine ⟨rfl, H1.out.refix hi (Nat.le_refl _) H1.out.hN (R2.out.heap (g3.block _ R2.out.lt (fun e => ?_))) r3 hc1, hc⟩
  obtain ⟨cur, hb, _⟩ := R2.out
  obtain ⟨_, ⟨es, c, hb2, _⟩, _⟩ := RM2.out
  injection e with e
  rw [e, hb2] at hb
  cases hb
end
end Go.Proofs.YtapklelkcicjlaaGreatDoor.Dw

/-! Contracts of blank and New. No conditions. -/
namespace Go.Proofs.YtapklelkcicjlaaGreatDoor.Dw
set_option maxRecDepth 100000
open Go.RowKit Oc Dm
set_option linter.unusedVariables false

theorem zs_get (k : Nat) : ((zs.map ov).toArray)[k % 64]! = .int .u8 0 := by
  have h : k % 64 < 64 := Nat.mod_lt _ (by decide)
  rw [zs_cells]
  simp [h]
theorem made_get (k j : Nat) (h : j < k) : (madeCells (sv zs).cells k)[j]? = some (.int .u8 0) := by
  unfold madeCells
  rw [sv_cells]
  have hs : ((zs.map ov).toArray).size = 64 := by rw [zs_cells]; simp
  simp only [hs]
  rw [Array.getElem?_map]
  simp only [Array.getElem?_range, h, if_true, Option.map_some]
  rw [zs_get]
theorem sec_info : ∃ i, Tryz.prog.info? 128 = some i ∧ i.zero = some (sv zs) ∧ i.size = 64 ∧ i.bytes = 64 := by
  have h : (Tryz.prog.info? 128).map (fun i => (i.zero, i.size, i.bytes)) = some (some (.agg (Array.replicate 64 (.int .u8 0))), 64, 64) := by kernel_rfl
  cases hq : Tryz.prog.info? 128 with
  | none => simp [hq] at h
  | some i =>
    simp only [hq, Option.map_some, Option.some.injEq, Prod.mk.injEq] at h
    refine ⟨i, rfl, ?_, h.2.1, h.2.2⟩
    unfold sv
    rw [zs_cells]
    exact h.1
theorem run_make_sec (w : World) (n : Nat) (hn : n ≤ 4096) : ∃ w', (Instr.makeSlice 121 (.int .i64 (n : Int)) (.int .i64 (n : Int))).run Tryz.prog w = .ok (.slice (some ⟨w.heap.size, 0, none⟩) n n) w' ∧ SRow w' w.heap.size n n (fun _ => zs) ∧ w.grownBy w' none ∧ w'.heap.size = w.heap.size + 1 := by
  obtain ⟨i, hi, hz, hs, hb⟩ := sec_info
  have := run_make (P := Tryz.prog) w 121 128 i (sv zs) Tryz.underlying121 hi hz .i64 .i64 (n : Int) (n : Int) (by omega) (Int.le_refl _) (by rw [hb]; omega) (by omega)
  rw [Int.toNat_natCast, hs] at this
  refine ⟨_, this, ⟨_, heap_alloc_new w _, size_madeCells _ _, Nat.le_refl _, by unfold maxLen; omega, fun k hk => ⟨rfl, fun j x hx => ?_⟩⟩, World.grownBy_alloc w _ none, by simp⟩
  have hj : j < 64 := (List.getElem?_eq_some_iff.1 hx).1
  rw [made_get _ _ (by omega)]
  have : x = 0 := by
    have := List.getElem?_eq_some_iff.1 hx
    obtain ⟨h1, h2⟩ := this
    rw [← h2]
    exact List.getElem_replicate ..
  rw [this]
  rfl
theorem wpList_make_sec {ops : Array Oper} {rest : List Oper} {o : Oper} {a : Act} {w : World} {Q : Exit → Act → World → Prop} (hgd : o.guard = none) (x y : Operand) (ho : o.op = .makeSlice 121 x y) {n : Nat} (hx : a.eval x = .int .i64 (n : Int)) (hy : a.eval y = .int .i64 (n : Int)) (hn : n ≤ 4096)
    (hK : ∀ w', SRow w' w.heap.size n n (fun _ => zs) → w.grownBy w' none → w'.heap.size = w.heap.size + 1 → wpList Tryz.prog ops Q rest (a.put o.dst (.slice (some ⟨w.heap.size, 0, none⟩) n n)) w') : wpList Tryz.prog ops Q (o :: rest) a w := by
  refine wpList_plain hgd fun K hK' => ?_
  obtain ⟨w', hrun, r1, r2, r3⟩ := run_make_sec w n hn
  unfold Oper.wp
  simp [execOp, ho, hx, hy, hrun, Result.andThen]
  exact hK' _ _ (hK w' r1 r2 r3)
theorem L_make {ops : Array Oper} {rest : List Oper} {a : Act} {w : World} {Q : Exit → Act → World → Prop} {dst : Option Tmp} {ty : TypeId} {pos : String} {af : Array Edge} {x y : Operand} {n : Nat} (hx : a.eval x = .int .i64 (n : Int)) (hy : a.eval y = .int .i64 (n : Int)) (hn : n ≤ 4096)
    (hK : ∀ w', SRow w' w.heap.size n n (fun _ => zs) → w.grownBy w' none → w'.heap.size = w.heap.size + 1 → wpList Tryz.prog ops Q rest (a.put dst (.slice (some ⟨w.heap.size, 0, none⟩) n n)) w') : wpList Tryz.prog ops Q (⟨dst, .makeSlice 121 x y, ty, pos, af, none⟩ :: rest) a w := wpList_make_sec rfl x y rfl hx hy hn hK
theorem ha_old (w : World) (o : Obj) (k : Nat) (h : k < w.heap.size) : (w.alloc o).heap[k]? = w.heap[k]? := Below.heap_alloc w o k h
/-- what is new -/
def Fresh (w w' : World) (k : Nat) : Prop := w.heap.size ≤ k ∧ k < w'.heap.size
/-- a sector as it is at first -/
def sec0 : Sec := ⟨zs, [], false⟩
theorem heap_alloc_mid (w : World) (o : Obj) {k : Nat} {v : Obj} (h : w.heap[k]? = some v) : (w.alloc o).heap[k]? = some v := (ha_old w o k (lt_of_heap h)).trans h
set_option maxRecDepth 100000 in
set_option maxHeartbeats 2000000 in
theorem blank_any (w : World) (n p : Nat) (hn : n ≤ 4096) : Calls Tryz.prog 86 #[.int .i64 (n : Int), .pointer (some ⟨p, 0, none⟩)] w fun e w' => ∃ D fx m r, e = .returned (.pointer (some ⟨D, 0, none⟩)) ∧ w.heap.size ≤ D ∧ DvAt w' (Fresh w w') D p n 0 (fun _ => sec0) 0 0 fx m r (fun _ => none) ∧ Below w.heap.size w w' := by
  have hmm := @run_makeMap Tryz.prog
  go_enter Tryz.func86, Tryz.ntmps86
  go_wp2_with ((with_reducible refine L_make (n := n) ?_ ?_ hn ?_); exact rfl; exact rfl; intro w1 r1 g1 s1; have R1 := Lib.hid r1; have G1 := Lib.hid g1; have Z1 := Lib.hid s1; clear r1 g1 s1)
  go_ret
  have b1 : Below w.heap.size w w1 := (Below.refl _ w).grown G1.out (Nat.le_refl _) (fun j e => by cases e)
  have z1 := Z1.out
  have l1 := LM.made w1 n
  have m1 := RM.made (w1.alloc (.map #[] 0)) n
  refine ⟨_, w.heap.size, w1.heap.size, w1.heap.size + 1, rfl, by omega, ?_, ((b1.alloc b1.size _).alloc (b1.alloc b1.size _).size _).alloc ((b1.alloc b1.size _).alloc (b1.alloc b1.size _).size _).size _⟩
  have e2 : (w1.alloc (.map #[] 0)).heap.size = w1.heap.size + 1 := by simp
  rw [e2] at m1
  exact {
    head := by
      have := heap_alloc_new ((w1.alloc (.map #[] 0)).alloc (.map #[] 0)) (.cells #[.pointer (some ⟨p, 0, none⟩), .slice (some ⟨w.heap.size, 0, none⟩) n n, .map (some w1.heap.size), .map (some (w1.heap.size + 1)), .int .u64 ((0 : Nat) : Int), .int .u64 ((0 : Nat) : Int)] 125 (0, 0))
      simpa using this
    fixd := R1.out.heap ((ha_old _ _ _ (by simp; omega)).trans ((ha_old _ _ _ (by simp; omega)).trans (ha_old _ _ _ (by omega))))
    lm := l1.heap ((ha_old _ _ _ (by simp; omega)).trans (ha_old _ _ _ (by simp)))
    rm := m1.heap (ha_old _ _ _ (by simp))
    none_ := fun i hi e => rfl
    some_ := fun i t hi e => by cases e
    apart := fun i j s t hi hj hne e => by cases e
    mr := by omega
    hn := hn
    hN := by decide
    hl := fun i hi => Nat.le_refl _
    hrd := by decide
    hwr := by decide
    inF := by unfold Fresh; simp; omega
    bound := fun k x => x.2 }
theorem new_yes {w : World} {n p : Nat} {s : PS} (hp : Pw w p s) (hn : n ≤ 4096) : Calls Tryz.prog 28 #[.int .i64 (n : Int), .pointer (some ⟨p, 0, none⟩)] w fun e w' => ∃ D fx m r, e = .returned (.tuple #[.pointer (some ⟨D, 0, none⟩), .int .i64 0]) ∧ w.heap.size ≤ D ∧ DvAt w' (Fresh w w') D p n 0 (fun _ => sec0) 0 0 fx m r (fun _ => none) ∧ Below w.heap.size w w' := by
  have HP := Lib.hid hp
  clear hp
  have h1 : ¬ (4096 : Int) < (n : Int) := by omega
  go_enter Tryz.func28, Tryz.ntmps28
  go_wp2_with fail
  refine (pmade_any HP.out).mono ?_; rintro e w' ⟨rfl, rfl⟩
  go_wp2_with fail
  refine (blank_any w n p hn).mono ?_; rintro e w' ⟨D, fx, m, r, rfl, hD, H, b⟩
  have HH := Lib.hid H
  clear H
  go_wp2
  go_ret2
  exact ⟨D, fx, m, r, rfl, hD, HH.out, b⟩
theorem new_arg (w : World) (z : Int) (u : Value) (hz : z < 0 ∨ 4096 < z) : Calls Tryz.prog 28 #[.int .i64 z, u] w fun e w' => e = .returned (.tuple #[.pointer none, .int .i64 1]) ∧ w = w' := by
  by_cases h0 : z < 0
  · clear hz
    go_enter Tryz.func28, Tryz.ntmps28
    go_wp2
    go_ret2
    exact ⟨rfl, rfl⟩
  · have h1 : 4096 < z := by omega
    clear hz
    go_enter Tryz.func28, Tryz.ntmps28
    go_wp2
    go_ret2
    exact ⟨rfl, rfl⟩
theorem new_nil (w : World) : Calls Tryz.prog 28 #[.int .i64 1, .pointer none] w fun e w' => e = .returned (.tuple #[.pointer none, .int .i64 2]) ∧ w = w' := by
  go_enter Tryz.func28, Tryz.ntmps28
  go_wp2_with fail
  refine (pmade_nil w).mono ?_; rintro e w' ⟨rfl, rfl⟩
  go_wp2
  go_ret2
  exact ⟨rfl, rfl⟩
theorem new_odd (w : World) (p : Nat) (c1 : w.cell? ⟨p, 1, none⟩ = some (.bool false)) : Calls Tryz.prog 28 #[.int .i64 1, .pointer (some ⟨p, 0, none⟩)] w fun e w' => e = .returned (.tuple #[.pointer none, .int .i64 2]) ∧ w = w' := by
  go_enter Tryz.func28, Tryz.ntmps28
  go_wp2_with fail
  refine (pmade_odd w p c1).mono ?_; rintro e w' ⟨rfl, rfl⟩
  go_wp2
  go_ret2
  exact ⟨rfl, rfl⟩
end Go.Proofs.YtapklelkcicjlaaGreatDoor.Dw
