/-
  Powers and devices behind pointers; the contracts of what only asks. No conditions.
-/
import Derived.Test.YtdkniholeaiemaaDvNum
import Derived.Test.YtdkniholeaiemaaDvMap
import Derived.RegionTactic
import Derived.Deep.QuietTactic
import Derived.BigQuiet
import Derived.StillTailTactics
import Derived.Laws.Bits64
namespace Go.Proofs.Ytdkniholeaiemaa.W
open Go.RowKit Oc Dm
set_option linter.unusedVariables false

theorem ret_int {k : IntKind} {a b : Int} (h : a = b) : Ending.returned (.int k a) = .returned (.int k b) := by rw [h]
theorem lt_of_heap {w : World} {b : Nat} {o : Obj} (h : w.heap[b]? = some o) : b < w.heap.size := (Array.getElem?_eq_some_iff.1 h).1

/-- A POWER BEHIND A POINTER -/
structure Pw (w : World) (p : Nat) (s : PS) : Prop where
  head : w.heap[p]? = some (.cells #[.bool (!s.off), .bool true, .int .i64 (fz s.fuse), .int .i64 (s.done : Int)] 67 (0, 0))
  hf : ∀ k, s.fuse = some k → k ≤ 1048576
  hd : s.done ≤ 1000000000000
section
variable {w w' : World} {p : Nat} {s : PS}
theorem Pw.lt (h : Pw w p s) : p < w.heap.size := lt_of_heap h.head
theorem Pw.heap (h : Pw w p s) (e : w'.heap[p]? = w.heap[p]?) : Pw w' p s := ⟨e.trans h.head, h.hf, h.hd⟩
theorem Pw.cells (h : Pw w p s) : w.cell? ⟨p, 0, none⟩ = some (.bool (!s.off)) ∧ w.cell? ⟨p, 1, none⟩ = some (.bool true) ∧ w.cell? ⟨p, 2, none⟩ = some (.int .i64 (fz s.fuse)) ∧ w.cell? ⟨p, 3, none⟩ = some (.int .i64 (s.done : Int)) ∧ (∀ i, w.frozen? ⟨p, i, none⟩ = false) := by
  refine ⟨?_, ?_, ?_, ?_, fun i => frozen_of_row w p i _ _ h.head⟩ <;> rw [cell_of_row w p _ _ _ (0, 0) h.head] <;> rfl
end

/-- A DEVICE BEHIND A POINTER, with its parts -/
structure DvAt (w : World) (F : Nat → Prop) (D p n N : Nat) (S : Nat → Sec) (rd wr fx m r : Nat) (g : Nat → Option Pl) : Prop where
  head : w.heap[D]? = some (.cells #[.pointer (some ⟨p, 0, none⟩), .slice (some ⟨fx, 0, none⟩) n n, .map (some m), .map (some r), .int .u64 (rd : Int), .int .u64 (wr : Int)] 72 (0, 0))
  fixd : SRow w fx n n (fun i => (S i).fixed)
  lm : LM w m N n g
  rm : RM w r N n (fun i => (S i).rotten)
  none_ : ∀ i, i < n → g i = none → (S i).loose = []
  some_ : ∀ i t, i < n → g i = some t → (S i).loose ≠ [] ∧ t.2.1 = (S i).loose.length ∧ SRow w t.1 t.2.1 t.2.2 (fun j => (S i).loose.getD j []) ∧ F t.1 ∧ t.1 ≠ fx
  apart : ∀ i j s t, i < n → j < n → i ≠ j → g i = some s → g j = some t → s.1 ≠ t.1
  mr : m ≠ r
  hn : n ≤ 4096
  hN : N ≤ 1000000000
  hl : ∀ i, i < n → (S i).loose.length ≤ N
  hrd : rd < 18446744073709551616
  hwr : wr < 18446744073709551616
  inF : F D ∧ F fx ∧ F m ∧ F r
  bound : ∀ k, F k → k < w.heap.size
/-- A DEVICE BEHIND A POINTER -/
def Dv (w : World) (F : Nat → Prop) (D p n N : Nat) (S : Nat → Sec) (rd wr : Nat) : Prop := ∃ fx m r g, DvAt w F D p n N S rd wr fx m r g
section
variable {w w' : World} {F F' : Nat → Prop} {D p n N : Nat} {S : Nat → Sec} {rd wr fx m r : Nat} {g : Nat → Option Pl}
theorem DvAt.frame (h : DvAt w F D p n N S rd wr fx m r g) (hF : ∀ k, F k → F' k) (hb : ∀ k, F' k → k < w'.heap.size) (hk : ∀ k, F k → w'.heap[k]? = w.heap[k]?) : DvAt w' F' D p n N S rd wr fx m r g where
  head := (hk _ h.inF.1).trans h.head
  fixd := h.fixd.heap (hk _ h.inF.2.1)
  lm := h.lm.heap (hk _ h.inF.2.2.1)
  rm := h.rm.heap (hk _ h.inF.2.2.2)
  none_ := h.none_
  some_ := fun i t hi e => by
    obtain ⟨a, b, c, d, f⟩ := h.some_ i t hi e
    exact ⟨a, b, c.heap (hk _ d), hF _ d, f⟩
  apart := h.apart
  mr := h.mr
  hn := h.hn
  hN := h.hN
  hl := h.hl
  hrd := h.hrd
  hwr := h.hwr
  inF := ⟨hF _ h.inF.1, hF _ h.inF.2.1, hF _ h.inF.2.2.1, hF _ h.inF.2.2.2⟩
  bound := hb
theorem Dv.frame (h : Dv w F D p n N S rd wr) (hF : ∀ k, F k → F' k) (hb : ∀ k, F' k → k < w'.heap.size) (hk : ∀ k, F k → w'.heap[k]? = w.heap[k]?) : Dv w' F' D p n N S rd wr := by
  obtain ⟨fx, m, r, g, h⟩ := h
  exact ⟨fx, m, r, g, h.frame hF hb hk⟩
theorem DvAt.kept (h : DvAt w F D p n N S rd wr fx m r g) {G : Nat → Prop} (hc : Chg G w w') (hG : ∀ k, F k → ¬ G k) : DvAt w' F D p n N S rd wr fx m r g :=
  h.frame (fun _ x => x) (fun k x => Nat.lt_of_lt_of_le (h.bound k x) hc.size) (fun k x => hc.block k (h.bound k x) (hG k x))
theorem Dv.kept (h : Dv w F D p n N S rd wr) {G : Nat → Prop} (hc : Chg G w w') (hG : ∀ k, F k → ¬ G k) : Dv w' F D p n N S rd wr := by
  obtain ⟨fx, m, r, g, h⟩ := h
  exact ⟨fx, m, r, g, h.kept hc hG⟩
theorem Dv.below (h : Dv w F D p n N S rd wr) (hc : Below w.heap.size w w') : Dv w' F D p n N S rd wr := h.kept (G := fun _ => False) (Chg.of_below hc) (fun _ _ x => x)
theorem DvAt.more {N' : Nat} (h : DvAt w F D p n N S rd wr fx m r g) (hN : N ≤ N') (hb : N' ≤ 1000000000) : DvAt w F D p n N' S rd wr fx m r g :=
  { h with lm := h.lm.more hN, rm := h.rm.more hN, hN := hb, hl := fun i hi => Nat.le_trans (h.hl i hi) hN }
theorem Dv.more {N' : Nat} (h : Dv w F D p n N S rd wr) (hN : N ≤ N') (hb : N' ≤ 1000000000) : Dv w F D p n N' S rd wr := by
  obtain ⟨fx, m, r, g, h⟩ := h
  exact ⟨fx, m, r, g, h.more hN hb⟩
theorem DvAt.cells (h : DvAt w F D p n N S rd wr fx m r g) : w.cell? ⟨D, 0, none⟩ = some (.pointer (some ⟨p, 0, none⟩)) ∧ w.cell? ⟨D, 1, none⟩ = some (.slice (some ⟨fx, 0, none⟩) n n) ∧ w.cell? ⟨D, 2, none⟩ = some (.map (some m)) ∧ w.cell? ⟨D, 3, none⟩ = some (.map (some r)) ∧
    w.cell? ⟨D, 4, none⟩ = some (.int .u64 (rd : Int)) ∧ w.cell? ⟨D, 5, none⟩ = some (.int .u64 (wr : Int)) ∧ (∀ i, w.frozen? ⟨D, i, none⟩ = false) := by
  refine ⟨?_, ?_, ?_, ?_, ?_, ?_, fun i => frozen_of_row w D i _ _ h.head⟩ <;> rw [cell_of_row w D _ _ _ (0, 0) h.head] <;> rfl
end

/-! what only asks -/
section
variable {w : World} {p : Nat} {s : PS}
theorem pmade_any (h : Pw w p s) : Calls Try.prog 41 #[.pointer (some ⟨p, 0, none⟩)] w fun e w' => e = .returned (.bool true) ∧ w = w' := by
  obtain ⟨c0, c1, c2, c3, fr⟩ := h.cells
  go_enter Try.func41, Try.ntmps41
  go_wp2
  go_ret
  exact ⟨rfl, rfl⟩
theorem pmade_nil (w : World) : Calls Try.prog 41 #[.pointer none] w fun e w' => e = .returned (.bool false) ∧ w = w' := by
  go_enter Try.func41, Try.ntmps41
  go_wp2
  go_ret
  exact ⟨rfl, rfl⟩
theorem pmade_odd (w : World) (p : Nat) (c1 : w.cell? ⟨p, 1, none⟩ = some (.bool false)) : Calls Try.prog 41 #[.pointer (some ⟨p, 0, none⟩)] w fun e w' => e = .returned (.bool false) ∧ w = w' := by
  go_enter Try.func41, Try.ntmps41
  go_wp2
  go_ret
  exact ⟨rfl, rfl⟩
theorem down_any (h : Pw w p s) : Calls Try.prog 20 #[.pointer (some ⟨p, 0, none⟩)] w fun e w' => e = .returned (.bool s.off) ∧ w = w' := by
  have H := Lib.hid h
  obtain ⟨c0, c1, c2, c3, fr⟩ := h.cells
  clear h
  go_enter Try.func20, Try.ntmps20
  go_wp2_with fail
  refine (pmade_any H.out).mono ?_; rintro e w' ⟨rfl, rfl⟩
  go_wp2
  go_ret
  exact ⟨by simp, rfl⟩
theorem done_any (h : Pw w p s) : Calls Try.prog 23 #[.pointer (some ⟨p, 0, none⟩)] w fun e w' => e = .returned (.int .i64 (s.done : Int)) ∧ w = w' := by
  have H := Lib.hid h
  obtain ⟨c0, c1, c2, c3, fr⟩ := h.cells
  clear h
  go_enter Try.func23, Try.ntmps23
  go_wp2_with fail
  refine (pmade_any H.out).mono ?_; rintro e w' ⟨rfl, rfl⟩
  go_wp2
  go_ret
  exact ⟨rfl, rfl⟩
end
section
variable {w : World} {F : Nat → Prop} {D p n N : Nat} {S : Nat → Sec} {rd wr fx m r : Nat} {g : Nat → Option Pl} {s : PS}
theorem dmade_any (h : DvAt w F D p n N S rd wr fx m r g) : Calls Try.prog 40 #[.pointer (some ⟨D, 0, none⟩)] w fun e w' => e = .returned (.bool true) ∧ w = w' := by
  obtain ⟨c0, c1, c2, c3, c4, c5, fr⟩ := h.cells
  clear h
  go_enter Try.func40, Try.ntmps40
  go_wp2
  go_ret
  exact ⟨rfl, rfl⟩
theorem size_any (h : DvAt w F D p n N S rd wr fx m r g) : Calls Try.prog 17 #[.pointer (some ⟨D, 0, none⟩)] w fun e w' => e = .returned (.int .i64 (n : Int)) ∧ w = w' := by
  have H := Lib.hid h
  obtain ⟨c0, c1, c2, c3, c4, c5, fr⟩ := h.cells
  clear h
  go_enter Try.func17, Try.ntmps17
  go_wp2_with fail
  refine (dmade_any H.out).mono ?_; rintro e w' ⟨rfl, rfl⟩
  go_wp2
  go_ret
  exact ⟨rfl, rfl⟩
theorem has_yes (h : DvAt w F D p n N S rd wr fx m r g) (i : Nat) (hi : i < n) : Calls Try.prog 44 #[.pointer (some ⟨D, 0, none⟩), .int .i64 (i : Int)] w fun e w' => e = .returned (.bool true) ∧ w = w' := by
  have H := Lib.hid h
  clear h
  go_enter Try.func44, Try.ntmps44
  go_wp2_with fail
  refine (size_any H.out).mono ?_; rintro e w' ⟨rfl, rfl⟩
  go_wp2
  go_ret
  exact ⟨rfl, rfl⟩
theorem has_no (h : DvAt w F D p n N S rd wr fx m r g) (i : Int) (hi : i < 0 ∨ (n : Int) ≤ i) : Calls Try.prog 44 #[.pointer (some ⟨D, 0, none⟩), .int .i64 i] w fun e w' => e = .returned (.bool false) ∧ w = w' := by
  have H := Lib.hid h
  clear h
  by_cases h0 : i < 0
  · clear hi
    go_enter Try.func44, Try.ntmps44
    go_wp2
    go_ret
    exact ⟨rfl, rfl⟩
  · have h1 : ¬ i < (n : Int) := by omega
    have hd : decide (i < (n : Int)) = false := by simp; omega
    clear hi
    go_enter Try.func44, Try.ntmps44
    go_wp2_with fail
    refine (size_any H.out).mono ?_; rintro e w' ⟨rfl, rfl⟩
    go_wp2
    go_ret
    exact ⟨rfl, rfl⟩
theorem ready_any (h : DvAt w F D p n N S rd wr fx m r g) (hp : Pw w p s) : Calls Try.prog 46 #[.pointer (some ⟨D, 0, none⟩)] w fun e w' => e = .returned (.int .i64 (if s.off then 80 else 0)) ∧ w = w' := by
  have H := Lib.hid h
  have HP := Lib.hid hp
  obtain ⟨c0, c1, c2, c3, c4, c5, fr⟩ := h.cells
  clear h hp
  cases ho : s.off
  all_goals
    go_enter Try.func46, Try.ntmps46
    go_wp2_with fail
    refine (dmade_any H.out).mono ?_; rintro e w' ⟨rfl, rfl⟩
    go_wp2_with fail
    refine (down_any HP.out).mono ?_; rintro e w' ⟨rfl, rfl⟩
    go_wp2
    go_ret
    exact ⟨rfl, rfl⟩
theorem rotten_any (h : DvAt w F D p n N S rd wr fx m r g) (i : Nat) (hi : i < n) : Calls Try.prog 29 #[.pointer (some ⟨D, 0, none⟩), .int .i64 (i : Int)] w fun e w' => e = .returned (.bool (S i).rotten) ∧ Below w.heap.size w w' := by
  have H := Lib.hid h
  obtain ⟨c0, c1, c2, c3, c4, c5, fr⟩ := h.cells
  have hrm := h.rm.look hi h.hn
  clear h
  go_enter Try.func29, Try.ntmps29
  go_wp2_with fail
  refine (dmade_any H.out).mono ?_; rintro e w' ⟨rfl, rfl⟩
  go_wp2
  go_ret
  exact ⟨rfl, (Below.refl _ w).alloc (Nat.le_refl _) _⟩
end
end Go.Proofs.Ytdkniholeaiemaa.W
