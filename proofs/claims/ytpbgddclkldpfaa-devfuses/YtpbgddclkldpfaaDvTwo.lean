/-
  Two devices on one power, behind a fuse: their contracts. No conditions.
-/
import Derived.Test.YtpbgddclkldpfaaDvActs
namespace Go.Proofs.Ytpbgddclkldpfaa.W
open Go.RowKit Oc Dm
set_option linter.unusedVariables false

/-- a fuse of f calls, c of them done -/
structure FS (f c : Nat) (s : PS) : Prop where
  fuse : s.fuse = some (f - c)
  done : s.done = c
  le : c ≤ f
  off : s.off = true → c = f
def fstep (f c : Nat) : Nat := if c < f then c + 1 else c
theorem FS.lt {f c : Nat} {s : PS} (h : FS f c s) (hc : c < f) : s.off = false ∧ s.goes = false ∧ FS f (c + 1) s.spend ∧ s.spend.off = false := by
  obtain ⟨off, fuse, done⟩ := s
  obtain ⟨h1, h2, h3, h4⟩ := h
  dsimp only at h1 h2 h4
  subst h1 h2
  have ho : off = false := by cases off with | false => rfl | true => exact absurd (h4 rfl) (by omega)
  subst ho
  obtain ⟨k, hk⟩ : ∃ k, f - done = k + 1 := ⟨f - done - 1, by omega⟩
  refine ⟨rfl, ?_, ?_, ?_⟩
  · simp [PS.goes]; omega
  · rw [PS.spend]; simp only [hk]; exact ⟨by simp; omega, rfl, by omega, fun h => by cases h⟩
  · rw [PS.spend]; simp only [hk]
theorem FS.eq {f c : Nat} {s : PS} (h : FS f c s) (hc : c = f) : s.goes = true ∧ FS f c s.spend ∧ s.spend.off = true := by
  obtain ⟨off, fuse, done⟩ := s
  obtain ⟨h1, h2, h3, h4⟩ := h
  dsimp only at h1 h2 h4
  subst h1 h2 hc
  refine ⟨by simp [PS.goes], ?_, ?_⟩
  · simp [PS.spend]; exact ⟨by simp, rfl, by omega, fun _ => rfl⟩
  · simp [PS.spend]

/-- TWO DEVICES ON ONE POWER -/
structure Tw (w0 w : World) (T p : Nat) (D : Nat → Nat) (N : Nat) (s : PS) (F : Nat → Nat → Prop) : Prop where
  head : ∃ q e0 e1, w.heap[T]? = some (.cells (tc (some p) (some (D 0)) (some (D 1)) q e0 e1) 41 (0, 0))
  pw : Pw w p s
  dev : ∀ k, k < 2 → ∃ S rd, Dv w (F k) (D k) p 4 N S rd 0
  out : ∀ k, k < 2 → ∀ b, F k b → w0.heap.size ≤ b ∧ b ≠ T ∧ b ≠ p
  apart : ∀ b, F 0 b → ¬ F 1 b
  pT : p ≠ T ∧ w0.heap.size ≤ p ∧ w0.heap.size ≤ T
  below : Below w0.heap.size w0 w
section
variable {w0 w w' : World} {T p N : Nat} {D : Nat → Nat} {s s' : PS} {F : Nat → Nat → Prop} {f c : Nat}
theorem Tw.lt (h : Tw w0 w T p D N s F) : T < w.heap.size := by
  obtain ⟨q, e0, e1, h1⟩ := h.head
  exact lt_of_heap h1
theorem Tw.cell (h : Tw w0 w T p D N s F) : w.cell? ⟨T, 0, none⟩ = some (.pointer (some ⟨p, 0, none⟩)) ∧ ∀ k, k < 2 → w.cell? ⟨T, 1 + k, none⟩ = some (.pointer (some ⟨D k, 0, none⟩)) := by
  obtain ⟨q, e0, e1, h1⟩ := h.head
  refine ⟨by rw [cell_of_row w T _ _ _ (0, 0) h1]; rfl, fun k hk => ?_⟩
  match k, hk with
  | 0, _ => rw [cell_of_row w T _ _ _ (0, 0) h1]; rfl
  | 1, _ => rw [cell_of_row w T _ _ _ (0, 0) h1]; rfl
theorem Tw.keep (h : Tw w0 w T p D N s F) (hb : Below w.heap.size w w') : Tw w0 w' T p D N s F where
  head := by obtain ⟨q, e0, e1, h1⟩ := h.head; exact ⟨q, e0, e1, (hb.block _ h.lt).trans h1⟩
  pw := h.pw.heap (hb.block _ h.pw.lt)
  dev := fun k hk => by obtain ⟨S, rd, x⟩ := h.dev k hk; exact ⟨S, rd, x.below hb⟩
  out := h.out
  apart := h.apart
  pT := h.pT
  below := bthen h.below hb
/-- only the power turned -/
theorem Tw.power (h : Tw w0 w T p D N s F) (hp : Pw w' p s') (hg : w.grownBy w' (some p)) : Tw w0 w' T p D N s' F := by
  have hc : Chg (fun k => k = p) w w' := Chg.of_grown hg (fun k e _ => by injection e with e; exact e.symm)
  refine ⟨?_, hp, fun k hk => ?_, h.out, h.apart, h.pT, ?_⟩
  · obtain ⟨q, e0, e1, h1⟩ := h.head
    exact ⟨q, e0, e1, (hc.block T h.lt (fun e => h.pT.1 e.symm)).trans h1⟩
  · obtain ⟨S, rd, x⟩ := h.dev k hk
    exact ⟨S, rd, x.kept hc (fun b hb e => (h.out k hk b hb).2.2 e)⟩
  · exact chg_below h.below hc (fun k e => by rw [e]; exact h.pT.2.1)
/-- device k turned, and the power -/
theorem Tw.spent {N' rd : Nat} {S : Nat → Sec} (h : Tw w0 w T p D N s F) (hN : N ≤ N') (hb : N' ≤ 1000000000) {k : Nat} (hk : k < 2) (hp : Pw w' p s') (hd : Dv w' (Ext (F k) w w') (D k) p 4 N' S rd 0) (hc : Chg (fun b => F k b ∨ b = p) w w') :
    Tw w0 w' T p D N' s' (fun j => if j = k then Ext (F k) w w' else F j) := by
  have old : ∀ j, j < 2 → ∀ b, F j b → b < w.heap.size := fun j hj b hb => by
    obtain ⟨S', rd', fx, m, r, g, x⟩ := h.dev j hj
    exact x.bound b hb
  have ap : ∀ j, j < 2 → j ≠ k → ∀ b, F j b → ¬ F k b := fun j hj hjk b hb hb2 => by
    match j, k, hj, hk with
    | 0, 1, _, _ => exact h.apart b hb hb2
    | 1, 0, _, _ => exact h.apart b hb2 hb
    | 0, 0, _, _ => exact hjk rfl
    | 1, 1, _, _ => exact hjk rfl
  refine ⟨?_, hp, fun j hj => ?_, fun j hj b hb => ?_, fun b h0 h1 => ?_, h.pT, ?_⟩
  · obtain ⟨q, e0, e1, h1⟩ := h.head
    exact ⟨q, e0, e1, (hc.block T h.lt (fun e => e.elim (fun e => (h.out k hk T e).2.1 rfl) (fun e => h.pT.1 e.symm))).trans h1⟩
  · by_cases e : j = k
    · subst e; rw [if_pos rfl]; exact ⟨S, rd, hd⟩
    · rw [if_neg e]
      obtain ⟨S', rd', x⟩ := h.dev j hj
      exact ⟨S', rd', (x.more hN hb).kept hc (fun b hb e2 => e2.elim (fun e2 => ap j hj e b hb e2) (fun e2 => (h.out j hj b hb).2.2 e2))⟩
  · by_cases e : j = k
    · rw [if_pos e] at hb
      rcases hb with hb | hb
      · exact h.out k hk b hb
      · have := h.below.size; have := h.lt; have := h.pw.lt
        exact ⟨by omega, by omega, by omega⟩
    · rw [if_neg e] at hb
      exact h.out j hj b hb
  · have key : ∀ j, j < 2 → j ≠ k → ∀ b, F j b → Ext (F k) w w' b → False := fun j hj hjk b hb hx => by
      rcases hx with hx | hx
      · exact ap j hj hjk b hb hx
      · have := old j hj b hb; omega
    match k, hk with
    | 0, _ => exact key 1 (by decide) (by decide) b (by simpa using h1) (by simpa using h0)
    | 1, _ => exact key 0 (by decide) (by decide) b (by simpa using h0) (by simpa using h1)
  · exact chg_below h.below hc (fun b e => e.elim (fun e => (h.out k hk b e).1) (fun e => by rw [e]; exact h.pT.2.1))

/-- what a writing call leaves -/
def Went (w0 : World) (T p : Nat) (D : Nat → Nat) (N f c : Nat) (e : Ending) (w' : World) : Prop := e = .returned (.int .i64 (if c < f then 0 else 80)) ∧ ∃ s' F', FS f (fstep f c) s' ∧ s'.off = !decide (c < f) ∧ Tw w0 w' T p D N s' F'
theorem tw_flush (h : Tw w0 w T p D N s F) (hf : FS f c s) (hfm : f < 20) {k : Nat} (hk : k < 2) : Calls Try.prog 16 #[.pointer (some ⟨D k, 0, none⟩)] w (Went w0 T p D N f c) := by
  obtain ⟨S, rd, fx, m, r, g, x⟩ := h.dev k hk
  have hd : s.done < 1000000000000 := by have := hf.done; have := hf.le; omega
  have hN : N ≤ 1000000000 := x.hN
  rcases Nat.lt_or_ge c f with hc | hc
  · obtain ⟨ho, hg, h1, h2⟩ := hf.lt hc
    refine (flush_ok x (fun e => (h.out k hk p e).2.2 rfl) h.pw hd ho hg).mono ?_
    rintro e w' ⟨rfl, p1, d1, c1⟩
    exact ⟨by rw [if_pos hc], _, _, by rw [fstep, if_pos hc]; exact h1, by rw [h2]; simp [hc], h.spent (Nat.le_refl _) hN hk p1 d1 c1⟩
  · have hcf : c = f := by have := hf.le; omega
    obtain ⟨hg, h1, h2⟩ := hf.eq hcf
    cases ho : s.off with
    | false =>
      refine (flush_goes x h.pw hd ho hg).mono ?_
      rintro e w' ⟨rfl, p1, g1, _⟩
      exact ⟨by rw [if_neg (by omega)], _, F, by rw [fstep, if_neg (by omega)]; exact h1, by rw [h2]; simp [hcf], h.power p1 g1⟩
    | true =>
      refine (flush_off x h.pw ho).mono ?_
      rintro e w' ⟨rfl, rfl⟩
      exact ⟨by rw [if_neg (by omega)], s, F, by rw [fstep, if_neg (by omega)]; exact hf, by rw [ho]; simp [hcf], h⟩
theorem tw_write {xs : List UInt8} {b c1 i : Nat} {A : Option Addr} (h : Tw w0 w T p D N s F) (hN : N + 1 ≤ 1000000000) (hf : FS f c s) (hfm : f < 20) {k : Nat} (hk : k < 2) (hi : i < 4) (hA : A = some ⟨b, 0, none⟩) (hb : ∀ j, j < 2 → ¬ F j b) (hbp : b ≠ p) (hx : Oct w A 64 xs) :
    Calls Try.prog 21 #[.pointer (some ⟨D k, 0, none⟩), .int .i64 (i : Int), .slice A 64 c1] w (Went w0 T p D (N + 1) f c) := by
  obtain ⟨S, rd, fx, m, r, g, x⟩ := h.dev k hk
  have hd : s.done < 1000000000000 := by have := hf.done; have := hf.le; omega
  have hm : Tw w0 w T p D (N + 1) s F := ⟨h.head, h.pw, fun j hj => by obtain ⟨S', rd', y⟩ := h.dev j hj; exact ⟨S', rd', y.more (Nat.le_succ _) hN⟩, h.out, h.apart, h.pT, h.below⟩
  rcases Nat.lt_or_ge c f with hc | hc
  · obtain ⟨ho, hg, h1, h2⟩ := hf.lt hc
    refine (write_ok x hN (fun e => (h.out k hk p e).2.2 rfl) h.pw hd ho i hi hg rfl hA hx hbp (hb k hk)).mono ?_
    rintro e w' ⟨rfl, p1, d1, c1⟩
    exact ⟨by rw [if_pos hc], _, _, by rw [fstep, if_pos hc]; exact h1, by rw [h2]; simp [hc], h.spent (Nat.le_succ _) hN hk p1 d1 c1⟩
  · have hcf : c = f := by have := hf.le; omega
    obtain ⟨hg, h1, h2⟩ := hf.eq hcf
    cases ho : s.off with
    | false =>
      refine (write_goes x h.pw hd ho i hi hg).mono ?_
      rintro e w' ⟨rfl, p1, g1, _⟩
      exact ⟨by rw [if_neg (by omega)], _, F, by rw [fstep, if_neg (by omega)]; exact h1, by rw [h2]; simp [hcf], hm.power p1 g1⟩
    | true =>
      refine (write_off x h.pw ho _ _).mono ?_
      rintro e w' ⟨rfl, rfl⟩
      exact ⟨by rw [if_neg (by omega)], s, F, by rw [fstep, if_neg (by omega)]; exact hf, by rw [ho]; simp [hcf], hm⟩
/-- .. behind a fill -/
theorem tw_fill {w1 : World} {T p N : Nat} {x : UInt8} {b i : Nat} (h : Tw w0 w T p D N s F) (hN : N + 1 ≤ 1000000000) (hf : FS f c s) (hfm : f < 20) {k : Nat} (hk : k < 2) (hi : i < 4) (hw : Below w.heap.size w w1) (hb : w.heap.size ≤ b) (hx : Rw.OwnV w1 5 w.heap.size (.slice (some ⟨b, 0, none⟩) 64 64) (List.replicate 64 (ov x))) :
    Calls Try.prog 21 #[.pointer (some ⟨D k, 0, none⟩), .int .i64 (i : Int), .slice (some ⟨b, 0, none⟩) 64 64] w1 (Went w0 T p D (N + 1) f c) :=
  tw_write (h.keep hw) hN hf hfm hk hi rfl (fun j hj e => by
    obtain ⟨S', rd', fx, m, r, g, y⟩ := h.dev j hj
    have := y.bound b e; omega) (by have := h.pw.lt; omega) (oct_own (xs := List.replicate 64 x) (by rw [List.map_replicate]; exact hx) (by simp))
end

theorem tw_begun {w w' : World} {T p q D0 D1 E0 E1 x1 x2 x3 x4 : Nat} (h : Begun w w' T p q D0 D1 E0 E1 4 4 x1 x2 x3 x4) : Tw w w' T p (fun k => if k = 0 then D0 else D1) 0 ⟨false, none, 0⟩ (fun k b => if k = 0 then T < b ∧ b < x1 else x1 ≤ b ∧ b < x2) := by
  obtain ⟨a1, a2, a3, a4, a5, a6, a7, a8⟩ := h.at_
  refine ⟨⟨some q, some E0, some E1, h.head⟩, h.pw, fun k hk => ?_, fun k hk b hb => ?_, fun b h0 h1 => ?_, ⟨by omega, by omega, by omega⟩, h.below⟩
  · match k, hk with
    | 0, _ => exact ⟨_, _, h.d0⟩
    | 1, _ => exact ⟨_, _, h.d1⟩
  · match k, hk with
    | 0, _ => simp only [if_pos] at hb; omega
    | 1, _ => simp at hb; omega
  · simp at h0 h1; omega
end Go.Proofs.Ytpbgddclkldpfaa.W
