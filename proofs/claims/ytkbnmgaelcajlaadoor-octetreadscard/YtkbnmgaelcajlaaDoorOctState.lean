/-
  What a read makes of a reader's state, and both readers' contracts by it. No conditions.
-/
import Derived.Test.YtkbnmgaelcajlaaDoorOctActs
namespace Go.Proofs.YtkbnmgaelcajlaaDoor.W
open Go.RowKit Oc
set_option linter.unusedVariables false

/-- is there such a number? -/
def uOk (zs : List UInt8) (bad : Bool) (k : Int) : Bool := !bad && decide (1 ≤ k ∧ k ≤ 8 ∧ k ≤ zs.length)
def uNum (zs : List UInt8) (bad : Bool) (k : Int) : Nat := if uOk zs bad k then num (zs.take k.toNat) else 0
def uRest (zs : List UInt8) (bad : Bool) (k : Int) : List UInt8 := if uOk zs bad k then zs.drop k.toNat else []
/-- are there as many? -/
def bOk (zs : List UInt8) (bad : Bool) (k : Int) : Bool := !bad && decide (0 ≤ k ∧ k ≤ zs.length)
def bOut (zs : List UInt8) (bad : Bool) (k : Int) : List UInt8 := if bOk zs bad k then zs.take k.toNat else []
def bRest (zs : List UInt8) (bad : Bool) (k : Int) : List UInt8 := if bOk zs bad k then zs.drop k.toNat else []

theorem u_any {w : World} {R : Nat} {zs : List UInt8} {bad : Bool} (k : Int) (h : Rd w 52 R zs (!bad)) (hn : zs.length ≤ 1000000000) (hb : bad = true → zs = []) :
    Calls Tryd.prog 16 #[.pointer (some ⟨R, 0, none⟩), .int .i64 k] w (Turned w 52 R (.int .u64 (uNum zs bad k : Int)) (uRest zs bad k) (!!uOk zs bad k)) := by
  cases bad
  · by_cases hk : 1 ≤ k ∧ k ≤ 8 ∧ k ≤ zs.length
    · have e : uOk zs false k = true := by simp [uOk, hk]
      have := u_take k.toNat h hn (by omega) (by omega) (by omega) _ rfl
      rw [Int.toNat_of_nonneg (by omega)] at this
      simpa [uNum, uRest, e] using this
    · have e : uOk zs false k = false := by simpa [uOk] using hk
      have := u_fail k h hn hk
      simpa [uNum, uRest, e] using this
  · have hz := hb rfl
    subst hz
    have e : uOk [] true k = false := rfl
    refine (u_bad k h).mono ?_
    rintro e' w' ⟨rfl, rfl⟩
    rw [show uNum [] true k = 0 from rfl, show uRest [] true k = [] from rfl, e]
    exact ⟨rfl, h, World.grownBy.refl w _⟩

theorem tu_any {w : World} {R : Nat} {zs : List UInt8} {bad : Bool} (k : Int) (h : Rd w 38 R zs bad) :
    Calls Tryd.prog 17 #[.pointer (some ⟨R, 0, none⟩), .int .i64 k] w (Turned w 38 R (.int .u64 (uNum zs bad k : Int)) (uRest zs bad k) (!uOk zs bad k)) := by
  by_cases h18 : 1 ≤ k ∧ k ≤ 8
  · by_cases hk : bad = false ∧ k ≤ zs.length
    · have e : uOk zs bad k = true := by simp [uOk, h18, hk]
      obtain ⟨rfl, hk⟩ := hk
      have := tu_take k.toNat h (by omega) (by omega) (by omega) _ rfl
      rw [Int.toNat_of_nonneg (by omega)] at this
      simpa [uNum, uRest, e] using this
    · have e : uOk zs bad k = false := by
        cases bad
        · simp at hk
          simp [uOk]; omega
        · rfl
      have := tu_fail k h h18.1 h18.2 hk
      simpa [uNum, uRest, e] using this
  · have e : uOk zs bad k = false := by
      cases bad
      · simp [uOk]; omega
      · rfl
    have := tu_none k h h18
    simpa [uNum, uRest, e] using this

/-- what a call leaves that hands back octets and turns one pair -/
def Gives (w : World) (T : TypeId) (R : Nat) (n : Nat) (out xs : List UInt8) (g : Bool) (e : Ending) (w' : World) : Prop :=
  ∃ A c, e = .returned (.slice A n c) ∧ Oct w' A n out ∧ Rd w' T R xs g ∧ w.grownBy w' (some R)

theorem bytes_any {w : World} {R : Nat} {zs : List UInt8} {bad : Bool} (k : Int) (n : Nat) (h : Rd w 52 R zs (!bad)) (hn : zs.length ≤ 1000000000) (hb : bad = true → zs = []) (hl : (bOut zs bad k).length = n) :
    Calls Tryd.prog 18 #[.pointer (some ⟨R, 0, none⟩), .int .i64 k] w (Gives w 52 R n (bOut zs bad k) (bRest zs bad k) (!!bOk zs bad k)) := by
  cases bad
  · by_cases hk : 0 ≤ k ∧ k ≤ zs.length
    · have e : bOk zs false k = true := by simp [bOk, hk]
      have h1 := bytes_take k.toNat h hn (by omega)
      rw [Int.toNat_of_nonneg (by omega)] at h1
      have e1 : bOut zs false k = zs.take k.toNat := by simp [bOut, e]
      have e2 : bRest zs false k = zs.drop k.toNat := by simp [bRest, e]
      rw [e1] at hl ⊢
      rw [e2, e]
      refine h1.mono ?_
      rintro e' w' ⟨v, rfl, o, r, g⟩
      obtain ⟨A, c, rfl, _, s⟩ := o.form hl
      exact ⟨A, c, rfl, s, r, g⟩
    · have e : bOk zs false k = false := by simpa [bOk] using hk
      have h1 := bytes_fail k h hk
      have e1 : bOut zs false k = [] := by simp [bOut, e]
      have e2 : bRest zs false k = [] := by simp [bRest, e]
      rw [e1] at hl ⊢
      rw [e2, e]
      subst hl
      refine h1.mono ?_
      rintro e' w' ⟨rfl, r, g⟩
      exact ⟨none, 0, rfl, Oct.nil _ _, r, g⟩
  · have hz := hb rfl
    subst hz
    have e : bOk [] true k = false := rfl
    rw [show bOut [] true k = [] from rfl] at hl ⊢
    rw [show bRest [] true k = [] from rfl, e]
    subst hl
    refine (bytes_bad k h).mono ?_
    rintro e' w' ⟨rfl, rfl⟩
    exact ⟨none, 0, rfl, Oct.nil _ _, h, World.grownBy.refl w _⟩

theorem tbytes_any {w : World} {R : Nat} {zs : List UInt8} {bad : Bool} (k : Int) (n : Nat) (h : Rd w 38 R zs bad) (hl : (bOut zs bad k).length = n) :
    Calls Tryd.prog 19 #[.pointer (some ⟨R, 0, none⟩), .int .i64 k] w (Gives w 38 R n (bOut zs bad k) (bRest zs bad k) (!bOk zs bad k)) := by
  by_cases hk : bad = false ∧ 0 ≤ k ∧ k ≤ zs.length
  · have e : bOk zs bad k = true := by simp [bOk, hk]
    obtain ⟨rfl, hk⟩ := hk
    have h1 := tbytes_take k.toNat h (by omega)
    rw [Int.toNat_of_nonneg (by omega)] at h1
    have e1 : bOut zs false k = zs.take k.toNat := by simp [bOut, e]
    have e2 : bRest zs false k = zs.drop k.toNat := by simp [bRest, e]
    rw [e1] at hl ⊢
    rw [e2, e]
    refine h1.mono ?_
    rintro e' w' ⟨A, c, rfl, o, r, g⟩
    have hn : k.toNat = n := by rw [← hl, List.length_take]; omega
    subst hn
    exact ⟨A, c, rfl, o, r, g⟩
  · have e : bOk zs bad k = false := by
      cases bad
      · simp at hk
        simp [bOk]; omega
      · rfl
    have h1 := tbytes_none k h hk
    have e1 : bOut zs bad k = [] := by simp [bOut, e]
    have e2 : bRest zs bad k = [] := by simp [bRest, e]
    rw [e1] at hl ⊢
    rw [e2, e]
    subst hl
    refine h1.mono ?_
    rintro e' w' ⟨rfl, r, g⟩
    exact ⟨none, 0, rfl, Oct.nil _ _, r, g⟩

/-- both readers tell the same state -/
def Both (w : World) (R T : Nat) (zs : List UInt8) (bad : Bool) : Prop :=
  Rd w 52 R zs (!bad) ∧ Rd w 38 T zs bad ∧ (bad = true → zs = []) ∧ zs.length ≤ 200
theorem uRest_le (zs : List UInt8) (bad : Bool) (k : Int) : (uRest zs bad k).length ≤ zs.length := by
  unfold uRest; split
  · rw [List.length_drop]; omega
  · simp
theorem bRest_le (zs : List UInt8) (bad : Bool) (k : Int) : (bRest zs bad k).length ≤ zs.length := by
  unfold bRest; split
  · rw [List.length_drop]; omega
  · simp
theorem uRest_bad {zs : List UInt8} {bad : Bool} {k : Int} (h : (!uOk zs bad k) = true) : uRest zs bad k = [] := by
  unfold uRest; rw [if_neg]; simpa using h
theorem bRest_bad {zs : List UInt8} {bad : Bool} {k : Int} (h : (!bOk zs bad k) = true) : bRest zs bad k = [] := by
  unfold bRest; rw [if_neg]; simpa using h
end Go.Proofs.YtkbnmgaelcajlaaDoor.W
