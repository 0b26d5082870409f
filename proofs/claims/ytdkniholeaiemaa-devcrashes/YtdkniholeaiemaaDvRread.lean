/-
  The document's devices: Read. No conditions.
-/
import Derived.Test.YtdkniholeaiemaaDvRask
namespace Go.Proofs.Ytdkniholeaiemaa.W
open Go.RowKit Oc Dm Gt
set_option linter.unusedVariables false
set_option maxRecDepth 100000
section
variable {w w' : World} {G G' : Nat → Prop} {E q n : Nat} {S : Nat → Sec} {rd wr gs : Nat} {vs : Nat → Value} {s : PS}
theorem rread_off (h : RvAt w G E q n S rd wr gs vs) (hq : Qw w q s) (ho : s.off = true) (z : Int) : Calls Try.prog 31 #[.pointer (some ⟨E, 0, none⟩), .int .i64 z] w fun e w' => e = .returned (.tuple #[.string ⟨#[]⟩, .int .i64 80]) ∧ w = w' := by
  obtain ⟨c0, c1, c2, c3, fr⟩ := h.cells
  obtain ⟨l, hh, hl, d0, d1, d2, d3, fr2⟩ := hq.cells
  rw [ho] at d0
  clear h hq hh hl
  go_enter Try.func31, Try.ntmps31
  go_wp2
  go_ret2
  exact ⟨rfl, rfl⟩
theorem rread_no (h : RvAt w G E q n S rd wr gs vs) (hq : Qw w q s) (ho : s.off = false) (z : Int) (hz : z < 0 ∨ (n : Int) ≤ z) : Calls Try.prog 31 #[.pointer (some ⟨E, 0, none⟩), .int .i64 z] w fun e w' => e = .returned (.tuple #[.string ⟨#[]⟩, .int .i64 3]) ∧ w = w' := by
  have H := Lib.hid h
  obtain ⟨c0, c1, c2, c3, fr⟩ := h.cells
  obtain ⟨l, hh, hl, d0, d1, d2, d3, fr2⟩ := hq.cells
  rw [ho] at d0
  have hd : decide (0 ≤ z ∧ z < (n : Int)) = false := by simp; omega
  clear h hq hh hl hz
  go_enter Try.func31, Try.ntmps31
  go_wp2_with fail
  refine (rhas_any H.out z).mono ?_; rintro e w' ⟨rfl, rfl⟩
  rw [hd]
  go_wp2
  go_ret2
  exact ⟨rfl, rfl⟩
theorem rread_io (h : RvAt w G E q n S rd wr gs vs) (hq : Qw w q s) (ho : s.off = false) (i : Nat) (hi : i < n) (hr : rd % 2 = 1) : Calls Try.prog 31 #[.pointer (some ⟨E, 0, none⟩), .int .i64 (i : Int)] w fun e w' => e = .returned (.tuple #[.string ⟨#[]⟩, .int .i64 81]) ∧ RvAt w' G E q n S (rd / 2) wr gs vs ∧ w.grownBy w' (some E) ∧ w'.heap.size = w.heap.size := by
  have H := Lib.hid h
  obtain ⟨c0, c1, c2, c3, fr⟩ := h.cells
  obtain ⟨l, hh, hl, d0, d1, d2, d3, fr2⟩ := hq.cells
  rw [ho] at d0
  have hd : decide (0 ≤ (i : Int) ∧ (i : Int) < (n : Int)) = true := by simp; omega
  have hrd := h.hrd
  have hm : (rd : Int) % 2 = 1 := by omega
  obtain ⟨u, hu⟩ : ∃ u, rd / 2 = u := ⟨_, rfl⟩
  have hq2 : (rd : Int) / 2 = (u : Int) := by omega
  have hu2 : u < 18446744073709551616 := by omega
  rw [hu]
  clear h hq hh hl hu
  go_enter Try.func31, Try.ntmps31
  go_wp2_with fail
  refine (rhas_any H.out i).mono ?_; rintro e w' ⟨rfl, rfl⟩
  rw [hd]
  go_wp2
  go_ret2
  exact ⟨rfl, H.out.set2 u hu2, grown_cell .., size_cell ..⟩
theorem rread_yes (h : RvAt w G E q n S rd wr gs vs) (hq : Qw w q s) (ho : s.off = false) (i : Nat) (hi : i < n) (hr : rd % 2 = 0) : Calls Try.prog 31 #[.pointer (some ⟨E, 0, none⟩), .int .i64 (i : Int)] w fun e w' => e = .returned (.tuple #[tx (S i).stands, .int .i64 0]) ∧ RvAt w' G E q n S (rd / 2) wr gs vs ∧ w.grownBy w' (some E) ∧ w'.heap.size = w.heap.size := by
  have H := Lib.hid h
  obtain ⟨c0, c1, c2, c3, fr⟩ := h.cells
  obtain ⟨l, hh, hl, d0, d1, d2, d3, fr2⟩ := hq.cells
  rw [ho] at d0
  have hd : decide (0 ≤ (i : Int) ∧ (i : Int) < (n : Int)) = true := by simp; omega
  have hrd := h.hrd
  have hm : (rd : Int) % 2 = 0 := by omega
  obtain ⟨u, hu⟩ : ∃ u, rd / 2 = u := ⟨_, rfl⟩
  have hq2 : (rd : Int) / 2 = (u : Int) := by omega
  have hu2 : u < 18446744073709551616 := by omega
  rw [hu]
  have H4 := Lib.hid (h.set2 u hu2)
  clear h hq hh hl hu
  go_enter Try.func31, Try.ntmps31
  go_wp2_with fail
  refine (rhas_any H.out i).mono ?_; rintro e w' ⟨rfl, rfl⟩
  rw [hd]
  go_wp2_with fail
  refine (rstands_any H4.out i hi).mono ?_; rintro e w' ⟨rfl, rfl⟩
  go_wp2
  go_ret2
  exact ⟨rfl, H4.out, grown_cell .., size_cell ..⟩
end
end Go.Proofs.Ytdkniholeaiemaa.W
