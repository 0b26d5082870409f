/-
  Records: plain facts on which octets are one. No conditions.
-/
import Derived.Test.YtckjnplaceaalaaDoorKPage
namespace Go.Proofs.YtckjnplaceaalaaDoor.W
open Go.RowKit Oc
set_option linter.unusedVariables false

/-- a record: its number, its epoch, its extent, its generation, its blocks -/
structure Rc where
  q : Nat
  h : Nat
  x : Int
  g : Nat
  m : UInt8
/-- the record of zeros -/
def zr : Rc := ⟨0, 0, 0, 0, 0⟩
abbrev isS (n : Nat) : Prop := n ≤ 4611686018427387904
abbrev isG (n : Nat) : Prop := 1 ≤ n ∧ n ≤ 4611686018427387904
/-- may a record be? -/
def MayBe (p : Rc) : Prop := isS p.q ∧ isS p.h ∧ (0 ≤ p.x ∧ p.x < 65536) ∧ isG p.g ∧ 0 < p.m.toNat
/-- a record's payload -/
def pay (p : Rc) : List UInt8 := octs p.q 8 ++ octs p.h 8 ++ octs p.x.toNat 2 ++ octs p.g 8 ++ octs p.m.toNat 1
theorem pay_length (p : Rc) : (pay p).length = 27 := by simp [pay, octs_length]
/-- what stands in a payload -/
def dec (ps : List UInt8) : Rc := ⟨num (ps.take 8), num ((ps.drop 8).take 8), (num ((ps.drop 16).take 2) : Int), num ((ps.drop 18).take 8), UInt8.ofNat (num ((ps.drop 26).take 1))⟩
theorem octs_num (xs : List UInt8) : octs (num xs) xs.length = xs := by
  induction xs with
  | nil => rfl
  | cons x xs ih =>
    have hx := x.toNat_lt
    show UInt8.ofNat (x.toNat + 256 * num xs) :: octs ((x.toNat + 256 * num xs) / 256) xs.length = x :: xs
    rw [show (x.toNat + 256 * num xs) / 256 = num xs by omega, ih]
    congr 1
    apply UInt8.toNat_inj.1
    simp
theorem octs_num' {xs : List UInt8} {k : Nat} (h : xs.length = k) : octs (num xs) k = xs := by subst h; exact octs_num xs
theorem num_lt_of {xs : List UInt8} {k : Nat} (h : xs.length = k) : num xs < 256 ^ k := by subst h; exact num_lt xs
theorem take_cut (xs : List UInt8) (a b : Nat) : xs.take a ++ (xs.drop a).take b = xs.take (a + b) := by rw [List.take_add]
theorem pay_dec {ps : List UInt8} (h : ps.length = 58) : pay (dec ps) = ps.take 27 := by
  have h5 : (UInt8.ofNat (num ((ps.drop 26).take 1))).toNat = num ((ps.drop 26).take 1) := by
    have h6 := num_lt_of (xs := (ps.drop 26).take 1) (k := 1) (by simp [h])
    simp
    omega
  unfold pay dec
  dsimp only
  rw [h5, octs_num' (by simp [h]), octs_num' (by simp [h]), Int.toNat_natCast, octs_num' (by simp [h]), octs_num' (by simp [h]), octs_num' (by simp [h])]
  rw [take_cut, take_cut, take_cut, take_cut]
theorem num_eight {n : Nat} (h : isS n) : num (octs n 8) = n := by rw [num_octs]; exact Nat.mod_eq_of_lt (by unfold isS at h; omega)
/-- what is put is got -/
theorem dec_pay {p : Rc} (h : MayBe p) (zs : List UInt8) : dec (pay p ++ zs) = p := by
  obtain ⟨q, e, x, g, m⟩ := p
  obtain ⟨h1, h2, ⟨h3, h4⟩, h5, h6⟩ := h
  dsimp only at h1 h2 h3 h4 h5 h6
  have l1 := octs_length q 8
  have l2 := octs_length e 8
  have l3 := octs_length x.toNat 2
  have l4 := octs_length g 8
  have l5 := octs_length m.toNat 1
  have hm := m.toNat_lt
  unfold dec pay
  dsimp only
  have e1 : (octs q 8 ++ octs e 8 ++ octs x.toNat 2 ++ octs g 8 ++ octs m.toNat 1 ++ zs).take 8 = octs q 8 := by
    simp only [List.append_assoc]
    rw [List.take_append_of_le_length (by omega), List.take_of_length_le (by omega)]
  have e2 : ((octs q 8 ++ octs e 8 ++ octs x.toNat 2 ++ octs g 8 ++ octs m.toNat 1 ++ zs).drop 8).take 8 = octs e 8 := by
    simp only [List.append_assoc]
    rw [List.drop_left' l1, List.take_append_of_le_length (by omega), List.take_of_length_le (by omega)]
  have e3 : ((octs q 8 ++ octs e 8 ++ octs x.toNat 2 ++ octs g 8 ++ octs m.toNat 1 ++ zs).drop 16).take 2 = octs x.toNat 2 := by
    rw [show 16 = 8 + 8 from rfl, ← List.drop_drop]
    simp only [List.append_assoc]
    rw [List.drop_left' l1, List.drop_left' l2, List.take_append_of_le_length (by omega), List.take_of_length_le (by omega)]
  have e4 : ((octs q 8 ++ octs e 8 ++ octs x.toNat 2 ++ octs g 8 ++ octs m.toNat 1 ++ zs).drop 18).take 8 = octs g 8 := by
    rw [show 18 = 8 + 8 + 2 from rfl, ← List.drop_drop, ← List.drop_drop]
    simp only [List.append_assoc]
    rw [List.drop_left' l1, List.drop_left' l2, List.drop_left' l3, List.take_append_of_le_length (by omega), List.take_of_length_le (by omega)]
  have e5 : ((octs q 8 ++ octs e 8 ++ octs x.toNat 2 ++ octs g 8 ++ octs m.toNat 1 ++ zs).drop 26).take 1 = octs m.toNat 1 := by
    rw [show 26 = 8 + 8 + 2 + 8 from rfl, ← List.drop_drop, ← List.drop_drop, ← List.drop_drop]
    simp only [List.append_assoc]
    rw [List.drop_left' l1, List.drop_left' l2, List.drop_left' l3, List.drop_left' l4, List.take_append_of_le_length (by omega), List.take_of_length_le (by omega)]
  rw [e1, e2, e3, e4, e5, num_eight h1, num_eight h2, num_eight h5.2]
  have e6 : num (octs x.toNat 2) = x.toNat := by rw [num_octs]; exact Nat.mod_eq_of_lt (by omega)
  have e7 : num (octs m.toNat 1) = m.toNat := by rw [num_octs]; exact Nat.mod_eq_of_lt (by omega)
  rw [e6, e7]
  congr 1
  · omega
  · exact UInt8.ofNat_toNat

theorem r2 : Right ((2 : Nat) : Int) := by unfold Right; omega
/-- a record's sector -/
def sect (p : Rc) : List UInt8 := sealed (body 2 (pay p))
theorem pay_fits (p : Rc) : (pay p).length ≤ 58 := by rw [pay_length]; omega
theorem sect_length (p : Rc) : (sect p).length = 64 := (page_facts (k := 2) r2 (pay_fits p)).1
theorem sect_get (p : Rc) : getE (sect p) 2 = 0 := page_get (k := 2) r2 (pay_fits p)
theorem sect_got (p : Rc) : getL (sect p) 2 = pay p ++ List.replicate 31 0 := by
  have h := page_got (k := 2) r2 (ps := pay p) (pay_fits p)
  rw [pay_length] at h
  exact h
theorem get58 {ys : List UInt8} {k : Int} (h : getE ys k = 0) : (getL ys k).length = 58 := by
  obtain ⟨h1, h2, _⟩ := getE_zero h
  rw [getL_ok h, List.length_drop, openL_length h1 h2]
/-- a page's octets, out of its payload -/
theorem page_back {ys : List UInt8} (h : getE ys 2 = 0) : ys = sealed (213 :: 2 :: getL ys 2) := by
  obtain ⟨h1, h2, h3, h4⟩ := getE_zero h
  have hb := openL_length h1 h2
  have hs : ys = sealed (openL ys) := by
    have h5 := openL_yes h2
    have h6 : num (ys.drop (ys.length - 4)) = sum (ys.take (ys.length - 4)) := by
      unfold openE at h2
      rw [if_neg (by omega)] at h2
      by_cases h7 : num (ys.drop (ys.length - 4)) = sum (ys.take (ys.length - 4))
      · exact h7
      · rw [if_neg h7] at h2; cases h2
    unfold sealed
    rw [h5, ← h6, octs_num' (by rw [List.length_drop]; omega), List.take_append_drop]
  have hk : kindV ((openL ys).getD 0 0) ((openL ys).getD 1 0) = 2 := by
    have h5 : kindL (openL ys) = 2 := by omega
    exact h5
  have h8 := (kindV_is (x := (openL ys).getD 0 0) (y := (openL ys).getD 1 0) (k := 2) r2).1 (by rw [hk]; rfl)
  rw [getL_ok h]
  obtain ⟨bs, hbs⟩ : ∃ bs, openL ys = bs := ⟨_, rfl⟩
  rw [hbs] at hs hb h8 ⊢
  match bs, hb with
  | a :: b :: r, _ =>
    simp at h8
    obtain ⟨h9, h10⟩ := h8
    have h11 : b = 2 := UInt8.toNat_inj.1 (by have e2 : (2 : UInt8).toNat = 2 := rfl
                                              omega)
    subst h9 h11
    exact hs
/-- it is the sector of what stands there, just if the rest is blank -/
theorem sect_dec {ys : List UInt8} (h : getE ys 2 = 0) (hb : blank ((getL ys 2).drop 27) = true) : sect (dec (getL ys 2)) = ys := by
  have hl := get58 h
  have e := (blank_iff _).1 hb
  rw [List.length_drop, hl] at e
  have h2 := page_back h
  obtain ⟨ps, hps⟩ : ∃ ps, getL ys 2 = ps := ⟨_, rfl⟩
  rw [hps] at hl e h2 ⊢
  unfold sect body
  rw [pay_length, pay_dec hl, h2]
  congr 1
  show 213 :: 2 :: (ps.take 27 ++ List.replicate (58 - 27) 0) = 213 :: 2 :: ps
  rw [← e, List.take_append_drop]
theorem dec_sect {ys : List UInt8} (h : sect (dec (getL ys 2)) = ys) : blank ((getL ys 2).drop 27) = true := by
  have h2 := sect_got (dec (getL ys 2))
  rw [h] at h2
  rw [h2, List.drop_left' (pay_length _)]
  exact blank_zeros 31

/-- what a call that gets a record tells of a sector: the record, and the error -/
def GWay (ys : List UInt8) (p : Rc) (E : Int) : Prop :=
  (getE ys 2 ≠ 0 ∧ E = getE ys 2 ∧ p = zr) ∨ (getE ys 2 = 0 ∧ E = 31 ∧ p = zr ∧ ¬ MayBe (dec (getL ys 2))) ∨ (getE ys 2 = 0 ∧ E = 31 ∧ p = zr ∧ MayBe (dec (getL ys 2)) ∧ blank ((getL ys 2).drop 27) = false) ∨
    (getE ys 2 = 0 ∧ E = 0 ∧ p = dec (getL ys 2) ∧ MayBe p ∧ blank ((getL ys 2).drop 27) = true)
theorem gway_some (ys : List UInt8) : ∃ p E, GWay ys p E := by
  by_cases h : getE ys 2 = 0
  · by_cases h2 : MayBe (dec (getL ys 2))
    · cases hb : blank ((getL ys 2).drop 27)
      · exact ⟨zr, 31, .inr (.inr (.inl ⟨h, rfl, rfl, h2, hb⟩))⟩
      · exact ⟨_, 0, .inr (.inr (.inr ⟨h, rfl, rfl, h2, hb⟩))⟩
    · exact ⟨zr, 31, .inr (.inl ⟨h, rfl, rfl, h2⟩)⟩
  · exact ⟨zr, _, .inl ⟨h, rfl, rfl⟩⟩
theorem gway_facts {ys : List UInt8} {p : Rc} {E : Int} (h : GWay ys p E) : (E ≠ 0 ∧ p = zr) ∨ (E = 0 ∧ MayBe p ∧ sect p = ys) := by
  rcases h with ⟨h1, h2, h3⟩ | ⟨h1, h2, h3, _⟩ | ⟨h1, h2, h3, _⟩ | ⟨h1, h2, h3, h4, h5⟩
  · exact .inl ⟨by rw [h2]; exact h1, h3⟩
  · exact .inl ⟨by rw [h2]; decide, h3⟩
  · exact .inl ⟨by rw [h2]; decide, h3⟩
  · exact .inr ⟨h2, h4, by rw [h3]; exact sect_dec h1 h5⟩
theorem way_own {p : Rc} (h : MayBe p) : GWay (sect p) p 0 := by
  refine .inr (.inr (.inr ⟨sect_get p, rfl, ?_, h, ?_⟩))
  · rw [sect_got, dec_pay h]
  · rw [sect_got, List.drop_left' (pay_length p)]
    exact blank_zeros 31
theorem way_rot (p : Rc) (at_ T : Nat) (h : ¬ sect p = turned (sect p) at_ T 32) : GWay (turned (sect p) at_ T 32) zr 40 := by
  have h1 := (page_rots (k := 2) (ps := pay p) (pay_fits p) at_ T h 2).1
  exact .inl ⟨by rw [sect, h1]; decide, by rw [sect, h1], rfl⟩
end Go.Proofs.YtckjnplaceaalaaDoor.W
