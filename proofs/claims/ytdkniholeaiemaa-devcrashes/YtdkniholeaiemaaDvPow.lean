/-
  Contracts of what turns a power, of patterns, and of devices that nobody made. No conditions.
-/
import Derived.Test.YtdkniholeaiemaaDvSt
import Derived.Laws.BitsAllLaws
namespace Go.Proofs.Ytdkniholeaiemaa.W
open Go.RowKit Oc Dm
set_option linter.unusedVariables false

/-- what a call leaves that turns a power -/
def PTurned (w : World) (p : Nat) (s' : PS) (v : Value) (e : Ending) (w' : World) : Prop := e = .returned v ∧ Pw w' p s' ∧ w.grownBy w' (some p) ∧ w'.heap.size = w.heap.size
theorem grown_cell (w : World) (p i : Nat) (v : Value) : w.grownBy (w.setCell ⟨p, i, none⟩ v) (some p) := ⟨rfl, rfl, rfl, by simp [World.setCell], fun k _ hk => heap_setCell_other w _ k v (fun e => hk (by rw [e]))⟩
theorem size_cell (w : World) (a : Addr) (v : Value) : (w.setCell a v).heap.size = w.heap.size := by simp [World.setCell]
theorem fz_none : fz none = -1 := rfl
theorem fz_some (k : Nat) : fz (some k) = (k : Int) := rfl
theorem grown2 {a b c : World} {R : Option Nat} (h : a.grownBy b R) (k : b.grownBy c R) : a.grownBy c R := h.trans k

section
variable {w : World} {p : Nat} {s : PS}
theorem newpower_any (w : World) : Calls Try.prog 12 #[] w fun e w' => e = .returned (.pointer (some ⟨w.heap.size, 0, none⟩)) ∧ Pw w' w.heap.size ⟨false, none, 0⟩ ∧ Below w.heap.size w w' ∧ w'.heap.size = w.heap.size + 1 := by
  go_enter Try.func12, Try.ntmps12
  go_wp2
  go_ret
  exact ⟨rfl, ⟨heap_alloc_new w _, (fun k e => by cases e), Nat.zero_le _⟩, (Below.refl _ w).alloc (Nat.le_refl _) _, by simp⟩
theorem cut_any (h : Pw w p s) : Calls Try.prog 26 #[.pointer (some ⟨p, 0, none⟩)] w (PTurned w p { s with off := true } (.tuple #[])) := by
  have H := Lib.hid h
  obtain ⟨c0, c1, c2, c3, fr⟩ := h.cells
  clear h
  go_enter Try.func26, Try.ntmps26
  go_wp2_with fail
  refine (pmade_any H.out).mono ?_; rintro e w' ⟨rfl, rfl⟩
  go_wp2
  go_end0
  exact ⟨rfl, ⟨by rw [heap_setCell_same _ _ _ _ _ _ H.out.head]; rfl, H.out.hf, H.out.hd⟩, grown_cell .., size_cell ..⟩
theorem cut_nil (w : World) : Calls Try.prog 26 #[.pointer none] w fun e w' => e = .returned (.tuple #[]) ∧ w = w' := by
  go_enter Try.func26, Try.ntmps26
  go_wp2_with fail
  refine (pmade_nil w).mono ?_; rintro e w' ⟨rfl, rfl⟩
  go_wp2
  go_end0
  exact ⟨rfl, rfl⟩
theorem down_nil (w : World) : Calls Try.prog 20 #[.pointer none] w fun e w' => e = .returned (.bool true) ∧ w = w' := by
  go_enter Try.func20, Try.ntmps20
  go_wp2_with fail
  refine (pmade_nil w).mono ?_; rintro e w' ⟨rfl, rfl⟩
  go_wp2
  go_ret
  exact ⟨rfl, rfl⟩
theorem done_nil (w : World) : Calls Try.prog 23 #[.pointer none] w fun e w' => e = .returned (.int .i64 0) ∧ w = w' := by
  go_enter Try.func23, Try.ntmps23
  go_wp2_with fail
  refine (pmade_nil w).mono ?_; rintro e w' ⟨rfl, rfl⟩
  go_wp2
  go_ret
  exact ⟨rfl, rfl⟩
theorem fuse_nil (w : World) (z : Int) : Calls Try.prog 19 #[.pointer none, .int .i64 z] w fun e w' => e = .returned (.int .i64 2) ∧ w = w' := by
  go_enter Try.func19, Try.ntmps19
  go_wp2_with fail
  refine (pmade_nil w).mono ?_; rintro e w' ⟨rfl, rfl⟩
  go_wp2
  go_ret
  exact ⟨rfl, rfl⟩

/-- a fuse is put in: what is answered, and what becomes of the power -/
def PS.fuseE (s : PS) (z : Int) : Int := if s.off then 80 else if z < -1 ∨ 1048576 < z then 1 else 0
def PS.fuseS (s : PS) (z : Int) : PS := if s.off then s else if z < -1 ∨ 1048576 < z then s else { s with fuse := if z < 0 then none else some z.toNat }
theorem fuse_any (h : Pw w p s) (z : Int) : Calls Try.prog 19 #[.pointer (some ⟨p, 0, none⟩), .int .i64 z] w (PTurned w p (PS.fuseS s z) (.int .i64 (PS.fuseE s z))) := by
  have H := Lib.hid h
  obtain ⟨c0, c1, c2, c3, fr⟩ := h.cells
  clear h
  cases ho : s.off
  · by_cases h1 : z < -1
    · go_enter Try.func19, Try.ntmps19
      go_wp2_with fail
      refine (pmade_any H.out).mono ?_; rintro e w' ⟨rfl, rfl⟩
      go_wp2
      go_ret
      refine ⟨ret_int (by unfold PS.fuseE; simp [ho, h1]), ?_, World.grownBy.refl _ _, rfl⟩
      have e : PS.fuseS s z = s := by unfold PS.fuseS; simp [ho, h1]
      rw [e]; exact H.out
    · by_cases h2 : 1048576 < z
      · go_enter Try.func19, Try.ntmps19
        go_wp2_with fail
        refine (pmade_any H.out).mono ?_; rintro e w' ⟨rfl, rfl⟩
        go_wp2
        go_ret
        refine ⟨ret_int (by unfold PS.fuseE; simp [ho, h2]), ?_, World.grownBy.refl _ _, rfl⟩
        have e : PS.fuseS s z = s := by unfold PS.fuseS; simp [ho, h2]
        rw [e]; exact H.out
      · have h3 : ¬ (z < -1 ∨ 1048576 < z) := by omega
        have H3 := Lib.hid h3
        clear h3
        go_enter Try.func19, Try.ntmps19
        go_wp2_with fail
        refine (pmade_any H.out).mono ?_; rintro e w' ⟨rfl, rfl⟩
        go_wp2
        go_ret
        refine ⟨ret_int (by unfold PS.fuseE; rw [ho, if_neg H3.out]; rfl), ?_, grown_cell .., size_cell ..⟩
        have e : PS.fuseS s z = { s with fuse := if z < 0 then none else some z.toNat } := by unfold PS.fuseS; rw [ho, if_neg H3.out]; rfl
        have ef : fz (if z < 0 then none else some z.toNat) = z := by
          by_cases hz : z < 0
          · rw [if_pos hz, fz_none]; omega
          · rw [if_neg hz, fz_some]; omega
        rw [e]
        refine ⟨?_, fun k ek => ?_, H.out.hd⟩
        · rw [heap_setCell_same _ _ _ _ _ _ H.out.head]
          simp [ef]
        · by_cases hz : z < 0
          · simp [hz] at ek
          · simp [hz] at ek; omega
  · go_enter Try.func19, Try.ntmps19
    go_wp2_with fail
    refine (pmade_any H.out).mono ?_; rintro e w' ⟨rfl, rfl⟩
    go_wp2
    go_ret
    refine ⟨ret_int (by unfold PS.fuseE; simp [ho]), ?_, World.grownBy.refl _ _, rfl⟩
    have e : PS.fuseS s z = s := by unfold PS.fuseS; simp [ho]
    rw [e]; exact H.out
theorem spend_any (h : Pw w p s) (hd : s.done < 1000000000000) : Calls Try.prog 47 #[.pointer (some ⟨p, 0, none⟩)] w (PTurned w p s.spend (.bool (!s.goes))) := by
  have H := Lib.hid h
  obtain ⟨c0, c1, c2, c3, fr⟩ := h.cells
  have hf := h.hf
  clear h
  obtain ⟨off, fuse, done⟩ := s
  dsimp only at hd c0 c1 c2 c3 hf
  rcases fuse with _ | _ | k
  · rw [fz_none] at c2
    go_enter Try.func47, Try.ntmps47
    go_wp2
    go_ret
    refine ⟨rfl, ⟨?_, (fun k e => by cases e), by show done + 1 ≤ _; omega⟩, grown_cell .., size_cell ..⟩
    rw [heap_setCell_same _ _ _ _ _ _ H.out.head]
    simp [PS.spend]
  · rw [fz_some] at c2
    go_enter Try.func47, Try.ntmps47
    go_wp2
    go_ret
    refine ⟨rfl, ⟨?_, hf, H.out.hd⟩, grown_cell .., size_cell ..⟩
    rw [heap_setCell_same _ _ _ _ _ _ H.out.head]
    rfl
  · have hk := hf (k + 1) rfl
    rw [fz_some] at c2
    have hne : ¬ (((k + 1 : Nat) : Int) = 0) := by omega
    have hpo : (0 : Int) < ((k + 1 : Nat) : Int) := by omega
    have hsub : ((k + 1 : Nat) : Int) - 1 = (k : Int) := by omega
    go_enter Try.func47, Try.ntmps47
    go_wp2
    go_ret
    refine ⟨rfl, ⟨?_, fun j e => ?_, by show done + 1 ≤ _; omega⟩, grown2 (grown_cell ..) (grown_cell ..), by rw [size_cell, size_cell]⟩
    · rw [heap_setCell_same _ _ _ _ _ _ (heap_setCell_same _ _ _ _ _ _ H.out.head)]
      simp [PS.spend, fz]
    · injection e with e; omega
end
/-- a pattern: whether the next one fails, and the rest -/
theorem next_any (w : World) (b o u : Nat) (hu : u < 18446744073709551616) (c : w.cell? ⟨b, o, none⟩ = some (.int .u64 (u : Int))) (fr : w.frozen? ⟨b, o, none⟩ = false) :
    Calls Try.prog 50 #[.pointer (some ⟨b, o, none⟩)] w fun e w' => e = .returned (.bool (u % 2 == 1)) ∧ w' = w.setCell ⟨b, o, none⟩ (.int .u64 ((u / 2 : Nat) : Int)) := by
  have e1 : bits BinOp.and IntKind.u64 (u : Int) 1 = ((u % 2 : Nat) : Int) := by rw [← nat_mask1]; exact u64_and_nat u 1 hu (by decide)
  go_enter Try.func50, Try.ntmps50
  go_wp2
  go_ret
  refine ⟨?_, rfl⟩
  rcases Nat.mod_two_eq_zero_or_one u with h | h
  · simp [h]; omega
  · simp [h]; omega
section
variable {w : World} {F : Nat → Prop} {D p n N : Nat} {S : Nat → Sec} {rd wr fx m r : Nat} {g : Nat → Option Pl} {s : PS}
theorem DvAt.set4 (h : DvAt w F D p n N S rd wr fx m r g) (u : Nat) (hu : u < 18446744073709551616) : DvAt (w.setCell ⟨D, 4, none⟩ (.int .u64 (u : Int))) F D p n N S u wr fx m r g := by
  have hne : ∀ k, k ≠ D → (w.setCell ⟨D, 4, none⟩ (.int .u64 (u : Int))).heap[k]? = w.heap[k]? := fun k hk => heap_setCell_other w _ k _ hk
  have ht : ∀ b (cur : Array Value), w.heap[b]? = some (.cells cur 95 (0, 0)) → b ≠ D := fun b cur hb e => by rw [e, h.head] at hb; cases hb
  have hm : ∀ b es c, w.heap[b]? = some (.map es c) → b ≠ D := fun b es c hb e => by rw [e, h.head] at hb; cases hb
  exact { h with
    head := by rw [heap_setCell_same _ _ _ _ _ _ h.head]; simp
    fixd := h.fixd.heap (hne _ (by obtain ⟨cur, hg, _⟩ := h.fixd; exact ht _ _ hg))
    lm := h.lm.heap (hne _ (by obtain ⟨_, ⟨es, c, hb, _⟩, _⟩ := h.lm; exact hm _ _ _ hb))
    rm := h.rm.heap (hne _ (by obtain ⟨_, ⟨es, c, hb, _⟩, _⟩ := h.rm; exact hm _ _ _ hb))
    some_ := fun i t hi e => by
      obtain ⟨a, b, c, d, f⟩ := h.some_ i t hi e
      exact ⟨a, b, c.heap (hne _ (by obtain ⟨cur, hg, _⟩ := c; exact ht _ _ hg)), d, f⟩
    hrd := hu
    bound := fun k x => by rw [size_cell]; exact h.bound k x }
theorem DvAt.set5 (h : DvAt w F D p n N S rd wr fx m r g) (u : Nat) (hu : u < 18446744073709551616) : DvAt (w.setCell ⟨D, 5, none⟩ (.int .u64 (u : Int))) F D p n N S rd u fx m r g := by
  have hne : ∀ k, k ≠ D → (w.setCell ⟨D, 5, none⟩ (.int .u64 (u : Int))).heap[k]? = w.heap[k]? := fun k hk => heap_setCell_other w _ k _ hk
  have ht : ∀ b (cur : Array Value), w.heap[b]? = some (.cells cur 95 (0, 0)) → b ≠ D := fun b cur hb e => by rw [e, h.head] at hb; cases hb
  have hm : ∀ b es c, w.heap[b]? = some (.map es c) → b ≠ D := fun b es c hb e => by rw [e, h.head] at hb; cases hb
  exact { h with
    head := by rw [heap_setCell_same _ _ _ _ _ _ h.head]; simp
    fixd := h.fixd.heap (hne _ (by obtain ⟨cur, hg, _⟩ := h.fixd; exact ht _ _ hg))
    lm := h.lm.heap (hne _ (by obtain ⟨_, ⟨es, c, hb, _⟩, _⟩ := h.lm; exact hm _ _ _ hb))
    rm := h.rm.heap (hne _ (by obtain ⟨_, ⟨es, c, hb, _⟩, _⟩ := h.rm; exact hm _ _ _ hb))
    some_ := fun i t hi e => by
      obtain ⟨a, b, c, d, f⟩ := h.some_ i t hi e
      exact ⟨a, b, c.heap (hne _ (by obtain ⟨cur, hg, _⟩ := c; exact ht _ _ hg)), d, f⟩
    hwr := hu
    bound := fun k x => by rw [size_cell]; exact h.bound k x }
/-- what a call leaves that turns a device -/
def DTurned (w : World) (F : Nat → Prop) (D p n N : Nat) (S : Nat → Sec) (rd wr : Nat) (v : Value) (e : Ending) (w' : World) : Prop := e = .returned v ∧ Dv w' (Ext F w w') D p n N S rd wr ∧ Chg F w w'
theorem ext_self {F : Nat → Prop} (w w' : World) (k : Nat) (h : F k) : Ext F w w' k := .inl h
theorem DvAt.ext {w' : World} (h : DvAt w' F D p n N S rd wr fx m r g) (hs : w.heap.size ≤ w'.heap.size) : DvAt w' (Ext F w w') D p n N S rd wr fx m r g :=
  h.frame (fun k x => .inl x) (fun k x => x.elim (h.bound k) (fun y => y.2)) (fun k _ => rfl)
theorem fail_any (h : DvAt w F D p n N S rd wr fx m r g) (u v : Nat) (hu : u < 18446744073709551616) (hv : v < 18446744073709551616) :
    Calls Try.prog 25 #[.pointer (some ⟨D, 0, none⟩), .int .u64 (u : Int), .int .u64 (v : Int)] w (DTurned w F D p n N S u v (.tuple #[])) := by
  have H := Lib.hid h
  obtain ⟨c0, c1, c2, c3, c4, c5, fr⟩ := h.cells
  clear h
  go_enter Try.func25, Try.ntmps25
  go_wp2_with fail
  refine (dmade_any H.out).mono ?_; rintro e w' ⟨rfl, rfl⟩
  go_wp2
  go_end0
  refine ⟨rfl, ⟨_, _, _, _, (((H.out.set4 u hu).set5 v hv).ext (by rw [size_cell, size_cell]; exact Nat.le_refl _))⟩, Chg.of_grown (grown2 (grown_cell ..) (grown_cell ..)) (fun k e _ => by injection e with e; subst e; exact H.out.inF.1)⟩
end
/-! of a device that nobody made -/
theorem dmade_nil (w : World) : Calls Try.prog 40 #[.pointer none] w fun e w' => e = .returned (.bool false) ∧ w = w' := by
  go_enter Try.func40, Try.ntmps40
  go_wp2
  go_ret
  exact ⟨rfl, rfl⟩
theorem dmade_odd (w : World) (D : Nat) (c0 : w.cell? ⟨D, 0, none⟩ = some (.pointer none)) : Calls Try.prog 40 #[.pointer (some ⟨D, 0, none⟩)] w fun e w' => e = .returned (.bool false) ∧ w = w' := by
  go_enter Try.func40, Try.ntmps40
  go_wp2
  go_ret
  exact ⟨rfl, rfl⟩
end Go.Proofs.Ytdkniholeaiemaa.W
