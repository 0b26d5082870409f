/-
  Heads of slots: plain facts on which octets are one. No conditions.
-/
import Derived.Test.YtheflapmjopemaaDoorKPage
namespace Go.Proofs.YtheflapmjopemaaDoor.W.Hd
open Go.RowKit Oc
set_option linter.unusedVariables false

/-- a head: whether it is used, its block, its generation, its sum, its wear -/
structure Hd where
  u : Bool
  l : Int
  g : Nat
  s : UInt32
  r : UInt32
/-- the head of zeros -/
def zr : Hd := ⟨false, 0, 0, 0, 0⟩
abbrev isG (n : Nat) : Prop := 1 ≤ n ∧ n ≤ 4611686018427387904
/-- may a head be? -/
def MayBe (p : Hd) : Prop := (p.u = true ∧ (0 ≤ p.l ∧ p.l < 65536) ∧ isG p.g) ∨ (p.u = false ∧ p.l = 0 ∧ p.g = 0 ∧ p.s.toNat = 0)
/-- a bool as a number -/
def ub (b : Bool) : Nat := cond b 1 0
theorem ub_lt (b : Bool) : ub b < 2 := by cases b <;> decide
/-- a head's payload -/
def pay (p : Hd) : List UInt8 := octs (ub p.u) 1 ++ octs p.l.toNat 2 ++ octs p.g 8 ++ octs p.s.toNat 4 ++ octs p.r.toNat 4
theorem pay_length (p : Hd) : (pay p).length = 19 := by simp [pay, octs_length]
/-- what stands in a payload -/
def dec (ps : List UInt8) : Hd := ⟨decide (num (ps.take 1) = 1), (num ((ps.drop 1).take 2) : Int), num ((ps.drop 3).take 8), UInt32.ofNat (num ((ps.drop 11).take 4)), UInt32.ofNat (num ((ps.drop 15).take 4))⟩
theorem octs_num (xs : List UInt8) : octs (num xs) xs.length = xs := by
  induction xs with
  | nil => rfl
  | cons x xs ih =>
    have hx := x.toNat_lt
    show UInt8.ofNat (x.toNat + 256 * num xs) :: octs ((x.toNat + 256 * num xs) / 256) xs.length = x :: xs
    rw [show (x.toNat + 256 * num xs) / 256 = num xs by omega, ih]
    congr 1
    apply UInt8.toNat_inj.1
    simp
theorem octs_num' {xs : List UInt8} {k : Nat} (h : xs.length = k) : octs (num xs) k = xs := by subst h; exact octs_num xs
theorem num_lt_of {xs : List UInt8} {k : Nat} (h : xs.length = k) : num xs < 256 ^ k := by subst h; exact num_lt xs
theorem may_l {p : Hd} (h : MayBe p) : 0 ≤ p.l ∧ p.l < 65536 := by
  rcases h with ⟨_, h, _⟩ | ⟨_, h, _⟩
  · exact h
  · omega
theorem may_g {p : Hd} (h : MayBe p) : p.g ≤ 4611686018427387904 := by
  rcases h with ⟨_, _, h⟩ | ⟨_, _, h, _⟩
  · exact h.2
  · omega
theorem s_lt (x : UInt32) : x.toNat < 4294967296 := x.toNat_lt
/-- what is put is got -/
theorem dec_pay {p : Hd} (h : MayBe p) (zs : List UInt8) : dec (pay p ++ zs) = p := by
  have hl := may_l h
  have hg := may_g h
  obtain ⟨u, l, g, s, r⟩ := p
  dsimp only at hl hg
  have hs := s_lt s
  have hr := s_lt r
  have l1 := octs_length (ub u) 1
  have l2 := octs_length l.toNat 2
  have l3 := octs_length g 8
  have l4 := octs_length s.toNat 4
  have l5 := octs_length r.toNat 4
  unfold dec pay
  dsimp only
  have e1 : (octs (ub u) 1 ++ octs l.toNat 2 ++ octs g 8 ++ octs s.toNat 4 ++ octs r.toNat 4 ++ zs).take 1 = octs (ub u) 1 := by
    simp only [List.append_assoc]
    rw [List.take_append_of_le_length (by omega), List.take_of_length_le (by omega)]
  have e2 : ((octs (ub u) 1 ++ octs l.toNat 2 ++ octs g 8 ++ octs s.toNat 4 ++ octs r.toNat 4 ++ zs).drop 1).take 2 = octs l.toNat 2 := by
    simp only [List.append_assoc]
    rw [List.drop_left' l1, List.take_append_of_le_length (by omega), List.take_of_length_le (by omega)]
  have e3 : ((octs (ub u) 1 ++ octs l.toNat 2 ++ octs g 8 ++ octs s.toNat 4 ++ octs r.toNat 4 ++ zs).drop 3).take 8 = octs g 8 := by
    rw [show 3 = 1 + 2 from rfl, ← List.drop_drop]
    simp only [List.append_assoc]
    rw [List.drop_left' l1, List.drop_left' l2, List.take_append_of_le_length (by omega), List.take_of_length_le (by omega)]
  have e4 : ((octs (ub u) 1 ++ octs l.toNat 2 ++ octs g 8 ++ octs s.toNat 4 ++ octs r.toNat 4 ++ zs).drop 11).take 4 = octs s.toNat 4 := by
    rw [show 11 = 1 + 2 + 8 from rfl, ← List.drop_drop, ← List.drop_drop]
    simp only [List.append_assoc]
    rw [List.drop_left' l1, List.drop_left' l2, List.drop_left' l3, List.take_append_of_le_length (by omega), List.take_of_length_le (by omega)]
  have e5 : ((octs (ub u) 1 ++ octs l.toNat 2 ++ octs g 8 ++ octs s.toNat 4 ++ octs r.toNat 4 ++ zs).drop 15).take 4 = octs r.toNat 4 := by
    rw [show 15 = 1 + 2 + 8 + 4 from rfl, ← List.drop_drop, ← List.drop_drop, ← List.drop_drop]
    simp only [List.append_assoc]
    rw [List.drop_left' l1, List.drop_left' l2, List.drop_left' l3, List.drop_left' l4, List.take_append_of_le_length (by omega), List.take_of_length_le (by omega)]
  rw [e1, e2, e3, e4, e5]
  have e6 : num (octs l.toNat 2) = l.toNat := by rw [num_octs]; exact Nat.mod_eq_of_lt (by omega)
  have e7 : num (octs (ub u) 1) = ub u := by rw [num_octs]; exact Nat.mod_eq_of_lt (by have := ub_lt u; omega)
  have e8 : num (octs g 8) = g := by rw [num_octs]; exact Nat.mod_eq_of_lt (by omega)
  have e9 : num (octs s.toNat 4) = s.toNat := by rw [num_octs]; exact Nat.mod_eq_of_lt (by omega)
  have e10 : num (octs r.toNat 4) = r.toNat := by rw [num_octs]; exact Nat.mod_eq_of_lt (by omega)
  have f1 : decide (ub u = 1) = u := by cases u <;> rfl
  have f2 : ((l.toNat : Nat) : Int) = l := by omega
  rw [e6, e7, e8, e9, e10, f1, f2, UInt32.ofNat_toNat, UInt32.ofNat_toNat]

theorem r3 : Right ((3 : Nat) : Int) := by unfold Right; omega
/-- a head's sector -/
def sect (p : Hd) : List UInt8 := sealed (body 3 (pay p))
theorem pay_fits (p : Hd) : (pay p).length ≤ 58 := by rw [pay_length]; omega
theorem sect_length (p : Hd) : (sect p).length = 64 := (page_facts (k := 3) r3 (pay_fits p)).1
theorem sect_get (p : Hd) : getE (sect p) 3 = 0 := page_get (k := 3) r3 (pay_fits p)
theorem sect_got (p : Hd) : getL (sect p) 3 = pay p ++ List.replicate 39 0 := by
  have h := page_got (k := 3) r3 (ps := pay p) (pay_fits p)
  rw [pay_length] at h
  exact h
theorem get58 {ys : List UInt8} {k : Int} (h : getE ys k = 0) : (getL ys k).length = 58 := by
  obtain ⟨h1, h2, _⟩ := getE_zero h
  rw [getL_ok h, List.length_drop, openL_length h1 h2]

/-- what a call that gets a head tells of a sector: the head, and the error -/
def GWay (ys : List UInt8) (p : Hd) (E : Int) : Prop :=
  (getE ys 3 ≠ 0 ∧ E = getE ys 3 ∧ p = zr) ∨ (getE ys 3 = 0 ∧ E = 31 ∧ p = zr ∧ ¬ MayBe (dec (getL ys 3))) ∨ (getE ys 3 = 0 ∧ E = 31 ∧ p = zr ∧ MayBe (dec (getL ys 3)) ∧ ¬ sect (dec (getL ys 3)) = ys) ∨
    (getE ys 3 = 0 ∧ E = 0 ∧ p = dec (getL ys 3) ∧ MayBe p ∧ sect p = ys)
theorem gway_some (ys : List UInt8) : ∃ p E, GWay ys p E := by
  by_cases h : getE ys 3 = 0
  · by_cases h2 : MayBe (dec (getL ys 3))
    · by_cases hb : sect (dec (getL ys 3)) = ys
      · exact ⟨_, 0, .inr (.inr (.inr ⟨h, rfl, rfl, h2, hb⟩))⟩
      · exact ⟨zr, 31, .inr (.inr (.inl ⟨h, rfl, rfl, h2, hb⟩))⟩
    · exact ⟨zr, 31, .inr (.inl ⟨h, rfl, rfl, h2⟩)⟩
  · exact ⟨zr, _, .inl ⟨h, rfl, rfl⟩⟩
theorem gway_facts {ys : List UInt8} {p : Hd} {E : Int} (h : GWay ys p E) : (E ≠ 0 ∧ p = zr) ∨ (E = 0 ∧ MayBe p ∧ sect p = ys) := by
  rcases h with ⟨h1, h2, h3⟩ | ⟨h1, h2, h3, _⟩ | ⟨h1, h2, h3, _⟩ | ⟨h1, h2, h3, h4, h5⟩
  · exact .inl ⟨by rw [h2]; exact h1, h3⟩
  · exact .inl ⟨by rw [h2]; decide, h3⟩
  · exact .inl ⟨by rw [h2]; decide, h3⟩
  · exact .inr ⟨h2, h4, h5⟩
theorem way_own {p : Hd} (h : MayBe p) : GWay (sect p) p 0 := by
  have e : dec (getL (sect p) 3) = p := by rw [sect_got, dec_pay h]
  exact .inr (.inr (.inr ⟨sect_get p, rfl, e.symm, h, rfl⟩))
theorem way_rot (p : Hd) (at_ T : Nat) (h : ¬ sect p = turned (sect p) at_ T 32) : GWay (turned (sect p) at_ T 32) zr 40 := by
  have h1 := (page_rots (k := 3) (ps := pay p) (pay_fits p) at_ T h 3).1
  exact .inl ⟨by rw [sect, h1]; decide, by rw [sect, h1], rfl⟩
theorem way_nil : GWay [] zr 30 := .inl ⟨by decide, by decide, rfl⟩
end Go.Proofs.YtheflapmjopemaaDoor.W.Hd
