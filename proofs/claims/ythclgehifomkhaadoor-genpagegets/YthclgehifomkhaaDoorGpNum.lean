/-
  Generation pages: plain facts on which octets are one, and which of two is newer. No conditions.
-/
import Derived.Test.YthclgehifomkhaaDoorPgGet
namespace Go.Proofs.YthclgehifomkhaaDoor.W
open Go.RowKit Oc
set_option linter.unusedVariables false

/-- a generation page: its number, its version, its generations (those below 6) -/
structure Gp where
  no : Int
  v : Nat
  g : Nat → Nat
/-- the page of zeros -/
def zp : Gp := ⟨0, 0, fun _ => 0⟩
/-- may a version, a generation be? -/
abbrev isG (n : Nat) : Prop := 1 ≤ n ∧ n ≤ 4611686018427387904
/-- may a page be? -/
def MayBe (p : Gp) : Prop := (0 ≤ p.no ∧ p.no < 65536) ∧ isG p.v ∧ ∀ i, i < 6 → isG (p.g i)
/-- two that tell the same -/
def Like (p d : Gp) : Prop := p.no = d.no ∧ p.v = d.v ∧ ∀ i, i < 6 → p.g i = d.g i
theorem Like.refl (p : Gp) : Like p p := ⟨rfl, rfl, fun _ _ => rfl⟩
theorem Like.may {p d : Gp} (h : Like p d) (hm : MayBe d) : MayBe p := by
  obtain ⟨h1, h2, h3⟩ := h
  obtain ⟨m1, m2, m3⟩ := hm
  refine ⟨by rw [h1]; exact m1, by rw [h2]; exact m2, fun i hi => by rw [h3 i hi]; exact m3 i hi⟩
/-- the first generations, as octets -/
def gens (g : Nat → Nat) : Nat → List UInt8
  | 0 => []
  | j + 1 => gens g j ++ octs (g j) 8
theorem gens_length (g : Nat → Nat) (j : Nat) : (gens g j).length = 8 * j := by
  induction j with
  | zero => rfl
  | succ j ih => simp [gens, ih, octs_length]; omega
/-- a page's payload, as far as the generation j -/
def pay (p : Gp) (j : Nat) : List UInt8 := octs p.no.toNat 2 ++ octs p.v 8 ++ gens p.g j
theorem pay_length (p : Gp) (j : Nat) : (pay p j).length = 10 + 8 * j := by
  simp [pay, octs_length, gens_length]
  omega
theorem pay_succ (p : Gp) (j : Nat) : pay p (j + 1) = pay p j ++ octs (p.g j) 8 := by simp [pay, gens]
/-- what stands in a payload -/
def dec (ps : List UInt8) : Gp := ⟨(num (ps.take 2) : Int), num ((ps.drop 2).take 8), fun i => num ((ps.drop (10 + 8 * i)).take 8)⟩
theorem gens_at (g : Nat → Nat) (i : Nat) : ∀ j, i < j → ((gens g j).drop (8 * i)).take 8 = octs (g i) 8
  | 0, h => by omega
  | j + 1, h => by
    unfold gens
    have hl := gens_length g j
    by_cases hi : i = j
    · subst hi
      rw [← hl, List.drop_left, List.take_of_length_le (by rw [octs_length]; exact Nat.le_refl _)]
    · rw [List.drop_append_of_le_length (by omega), List.take_append_of_le_length (by rw [List.length_drop]; omega)]
      exact gens_at g i j (by omega)
theorem num_two {n : Nat} (h : n < 65536) : num (octs n 2) = n := by rw [num_octs]; exact Nat.mod_eq_of_lt (by omega)
theorem num_eight {n : Nat} (h : isG n) : num (octs n 8) = n := by rw [num_octs]; exact Nat.mod_eq_of_lt (by have := h.2; omega)
/-- what is put is got -/
theorem dec_pay {p : Gp} (h : MayBe p) : Like p (dec (pay p 6)) := by
  obtain ⟨⟨h0, h1⟩, h2, h3⟩ := h
  have l2 := octs_length p.no.toNat 2
  have l8 := octs_length p.v 8
  refine ⟨?_, ?_, fun i hi => ?_⟩
  · show p.no = ((num ((pay p 6).take 2) : Nat) : Int)
    unfold pay
    rw [List.append_assoc, List.take_append_of_le_length (by omega), List.take_of_length_le (by omega), num_two (by omega)]
    omega
  · show p.v = num (((pay p 6).drop 2).take 8)
    unfold pay
    rw [List.append_assoc, List.drop_left' l2, List.take_append_of_le_length (by omega), List.take_of_length_le (by omega), num_eight h2]
  · show p.g i = num (((pay p 6).drop (10 + 8 * i)).take 8)
    unfold pay
    have l10 : (octs p.no.toNat 2 ++ octs p.v 8).length = 10 := by rw [List.length_append, l2, l8]
    rw [← List.drop_drop, List.drop_left' l10, gens_at p.g i 6 hi, num_eight (h3 i hi)]

/-- what a call that gets a page tells of a sector: the page, and the error -/
def GWay (ys : List UInt8) (no : Int) (p : Gp) (E : Int) : Prop :=
  (getE ys 1 ≠ 0 ∧ E = getE ys 1 ∧ p = zp) ∨ (getE ys 1 = 0 ∧ E = 31 ∧ p = zp ∧ ¬ (MayBe (dec (getL ys 1)) ∧ (dec (getL ys 1)).no = no)) ∨
    (getE ys 1 = 0 ∧ E = 0 ∧ Like p (dec (getL ys 1)) ∧ MayBe p ∧ p.no = no)
theorem gway_some (ys : List UInt8) (no : Int) : ∃ p E, GWay ys no p E := by
  by_cases h : getE ys 1 = 0
  · by_cases h2 : MayBe (dec (getL ys 1)) ∧ (dec (getL ys 1)).no = no
    · exact ⟨_, 0, .inr (.inr ⟨h, rfl, Like.refl _, h2.1, h2.2⟩)⟩
    · exact ⟨zp, 31, .inr (.inl ⟨h, rfl, rfl, h2⟩)⟩
  · exact ⟨zp, _, .inl ⟨h, rfl, rfl⟩⟩
theorem gway_facts {ys : List UInt8} {no : Int} {p : Gp} {E : Int} (h : GWay ys no p E) : (E ≠ 0 ∧ p = zp) ∨ (E = 0 ∧ isG p.v) := by
  rcases h with ⟨h1, h2, h3⟩ | ⟨h1, h2, h3, _⟩ | ⟨h1, h2, h3, h4, h5⟩
  · exact .inl ⟨by rw [h2]; exact h1, h3⟩
  · exact .inl ⟨by rw [h2]; decide, h3⟩
  · exact .inr ⟨h2, h4.2.1⟩
/-- a page's sector -/
def sect (p : Gp) : List UInt8 := sealed (body 1 (pay p 6))
theorem r1 : Right ((1 : Nat) : Int) := by unfold Right; omega
theorem pay58 (p : Gp) : (pay p 6).length = 58 := pay_length p 6
theorem sect_length (p : Gp) : (sect p).length = 64 := (page_facts (k := 1) r1 (by rw [pay58]; exact Nat.le_refl _)).1
theorem sect_get (p : Gp) : getE (sect p) 1 = 0 := page_get (k := 1) r1 (by rw [pay58]; exact Nat.le_refl _)
theorem sect_got (p : Gp) : getL (sect p) 1 = pay p 6 := by
  have h := page_got (k := 1) r1 (ps := pay p 6) (by rw [pay58]; exact Nat.le_refl _)
  rw [pay58] at h
  simpa [sect] using h
theorem way_own {p : Gp} (h : MayBe p) : GWay (sect p) p.no p 0 := .inr (.inr ⟨sect_get p, rfl, by rw [sect_got]; exact dec_pay h, h, rfl⟩)
theorem way_else {p : Gp} (h : MayBe p) {no : Int} (hn : no ≠ p.no) : GWay (sect p) no zp 31 := by
  refine .inr (.inl ⟨sect_get p, rfl, rfl, fun h2 => hn ?_⟩)
  have h3 := h2.2
  rw [sect_got, ← (dec_pay h).1] at h3
  exact h3.symm
theorem way_rot (p : Gp) (at_ T : Nat) (h : ¬ sect p = turned (sect p) at_ T 32) (no : Int) : GWay (turned (sect p) at_ T 32) no zp 40 := by
  have h1 := (page_rots (k := 1) (ps := pay p 6) (by rw [pay58]; exact Nat.le_refl _) at_ T h 1).1
  exact .inl ⟨by rw [sect, h1]; decide, by rw [sect, h1], rfl⟩

/-- which one of two is told -/
def NWay (p : Gp) (E : Int) (q : Gp) (F : Int) (x : Gp) (k : Int) (ok : Bool) : Prop :=
  (E = 0 ∧ F ≠ 0 ∧ q = zp ∧ isG p.v ∧ x = p ∧ k = 0 ∧ ok = true) ∨ (E = 0 ∧ F = 0 ∧ isG p.v ∧ q.v ≤ p.v ∧ x = p ∧ k = 0 ∧ ok = true) ∨
    (E = 0 ∧ F = 0 ∧ p.v < q.v ∧ x = q ∧ k = 1 ∧ ok = true) ∨ (E ≠ 0 ∧ F = 0 ∧ p = zp ∧ isG q.v ∧ x = q ∧ k = 1 ∧ ok = true) ∨ (E ≠ 0 ∧ F ≠ 0 ∧ p = zp ∧ q = zp ∧ x = zp ∧ k = 0 ∧ ok = false)
theorem nway_some {p q : Gp} {E F : Int} (hp : (E ≠ 0 ∧ p = zp) ∨ (E = 0 ∧ isG p.v)) (hq : (F ≠ 0 ∧ q = zp) ∨ (F = 0 ∧ isG q.v)) : ∃ x k ok, NWay p E q F x k ok := by
  rcases hp with ⟨h1, h2⟩ | ⟨h1, h2⟩ <;> rcases hq with ⟨h3, h4⟩ | ⟨h3, h4⟩
  · exact ⟨_, _, _, .inr (.inr (.inr (.inr ⟨h1, h3, h2, h4, rfl, rfl, rfl⟩)))⟩
  · exact ⟨_, _, _, .inr (.inr (.inr (.inl ⟨h1, h3, h2, h4, rfl, rfl, rfl⟩)))⟩
  · exact ⟨_, _, _, .inl ⟨h1, h3, h4, h2, rfl, rfl, rfl⟩⟩
  · by_cases h : q.v ≤ p.v
    · exact ⟨_, _, _, .inr (.inl ⟨h1, h3, h2, h, rfl, rfl, rfl⟩)⟩
    · exact ⟨_, _, _, .inr (.inr (.inl ⟨h1, h3, by omega, rfl, rfl, rfl⟩))⟩
end Go.Proofs.YthclgehifomkhaaDoor.W
