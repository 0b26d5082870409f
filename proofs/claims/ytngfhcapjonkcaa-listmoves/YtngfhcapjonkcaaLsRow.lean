/-
  Contracts of Of, Front, Back, Len, All on rows of numbers. No conditions.
-/
import Derived.Test.YtngfhcapjonkcaaLsFits
namespace Go.Proofs.Ytngfhcapjonkcaa.W
open Go.RowKit Rw Ls
set_option linter.unusedVariables false

/-- the row of a list that there may not be -/
def rowI (L : List (List Nat)) (k : Int) : List Nat := if 0 ≤ k then rowOf L k.toNat else []
theorem rowOf_ge {L : List (List Nat)} {k : Nat} (h : L.length ≤ k) : rowOf L k = [] := by unfold rowOf; rw [List.getElem?_eq_none h]; rfl
theorem rowI_in {L : List (List Nat)} {k : Int} (h : 0 ≤ k ∧ k < (L.length : Int)) : ∃ j : Nat, k = (j : Int) ∧ j < L.length ∧ rowI L k = rowOf L j := by
  obtain ⟨j, rfl⟩ := Int.eq_ofNat_of_zero_le h.1
  exact ⟨j, rfl, by omega, by unfold rowI; rw [if_pos h.1, Int.toNat_natCast]⟩
theorem rowI_out {L : List (List Nat)} {k : Int} (h : ¬ (0 ≤ k ∧ k < (L.length : Int))) : rowI L k = [] := by
  unfold rowI
  split
  · exact rowOf_ge (by omega)
  · rfl
/-- the first and the last of a row, as told -/
def firstV : List Nat → Value
  | [] => .tuple #[.int .i64 0, .bool false]
  | a :: _ => .tuple #[.int .i64 (a : Int), .bool true]
def lastV (r : List Nat) : Value := match r.getLast? with
  | none => .tuple #[.int .i64 0, .bool false]
  | some a => .tuple #[.int .i64 (a : Int), .bool true]

section
variable {w : World} {R g1 g2 n : Nat} {L : List (List Nat)}
theorem of_in (h : Rows w R g1 g2 n L) (a k : Nat) (u v : List Nat) (hk : L[k]? = some (u ++ a :: v)) :
    Calls Try.prog 18 #[.pointer (some ⟨R, 0, none⟩), .int .i64 (a : Int)] w fun e w' => e = .returned (.tuple #[.int .i64 (k : Int), .bool true]) ∧ w = w' := by
  obtain ⟨f, s, h⟩ := h
  exact of_yes h.st a (h.ok.lt k _ hk a (by simp)) k (h.fit.list k _ hk a (by simp))
theorem of_no (h : Rows w R g1 g2 n L) (i : Int) (hno : ∀ (k : Nat) (r : List Nat), L[k]? = some r → ∀ x ∈ r, (x : Int) ≠ i) :
    Calls Try.prog 18 #[.pointer (some ⟨R, 0, none⟩), .int .i64 i] w fun e w' => e = .returned (.tuple #[.int .i64 0, .bool false]) ∧ w = w' := by
  obtain ⟨f, s, h⟩ := h
  by_cases h0 : 0 ≤ i ∧ i < (n : Int)
  · obtain ⟨a, rfl⟩ := Int.eq_ofNat_of_zero_le h0.1
    have ha : a < n := by omega
    have hfr := h.fit.free a ha (fun k r hk hx => hno k r hk a hx rfl)
    exact of_free h.st a ha (by rw [hfr])
  · exact of_out h.st i h0
theorem len_row (h : Rows w R g1 g2 n L) (k : Nat) (hk : k < L.length) (z : Nat) (hz : (rowOf L k).length = z) :
    Calls Try.prog 19 #[.pointer (some ⟨R, 0, none⟩), .int .i64 (k : Int)] w fun e w' => e = .returned (.int .i64 (z : Int)) ∧ w = w' := by
  obtain ⟨f, s, h⟩ := h
  exact len_yes h.st k hk z ((h.len k _ (rowOf_at hk)).trans hz)
theorem len_any (h : Rows w R g1 g2 n L) (k : Int) (z : Nat) (hz : (rowI L k).length = z) :
    Calls Try.prog 19 #[.pointer (some ⟨R, 0, none⟩), .int .i64 k] w fun e w' => e = .returned (.int .i64 (z : Int)) ∧ w = w' := by
  by_cases h0 : 0 ≤ k ∧ k < (L.length : Int)
  · obtain ⟨j, rfl, hj, e⟩ := rowI_in h0
    exact len_row h j hj z (by rw [← e]; exact hz)
  · rw [rowI_out h0] at hz
    subst hz
    obtain ⟨f, s, h⟩ := h
    exact len_no h.st k h0
theorem all_row (h : Rows w R g1 g2 n L) (k : Nat) (hk : k < L.length) :
    Calls Try.prog 20 #[.pointer (some ⟨R, 0, none⟩), .int .i64 (k : Int)] w (MadeV w (nv (rowOf L k))) := by
  obtain ⟨f, s, h⟩ := h
  have hr := rowOf_at hk
  exact all_in h.st k (n + k) _ (rowOf L k) hk rfl (h.fit.ring k _ hr) (head_nd h.ok hr) (fun x hx => by have := h.ok.lt k _ hr x hx; omega) (h.len k _ hr) rfl (h.size_le hr)
theorem all_any (h : Rows w R g1 g2 n L) (k : Int) :
    Calls Try.prog 20 #[.pointer (some ⟨R, 0, none⟩), .int .i64 k] w (MadeV w (nv (rowI L k))) := by
  by_cases h0 : 0 ≤ k ∧ k < (L.length : Int)
  · obtain ⟨j, rfl, hj, e⟩ := rowI_in h0
    rw [e]
    exact all_row h j hj
  · rw [rowI_out h0]
    obtain ⟨f, s, h⟩ := h
    exact all_out h.st k h0
theorem front_any (h : Rows w R g1 g2 n L) (k : Int) :
    Calls Try.prog 16 #[.pointer (some ⟨R, 0, none⟩), .int .i64 k] w (Tells w (firstV (rowI L k))) := by
  by_cases h0 : 0 ≤ k ∧ k < (L.length : Int)
  · obtain ⟨j, rfl, hj, e⟩ := rowI_in h0
    rw [e]
    obtain ⟨f, s, h⟩ := h
    have hr := rowOf_at hj
    have hl := h.len j _ hr
    have hg := h.fit.ring j _ hr
    cases er : rowOf L j with
    | nil => rw [er] at hl; exact front_none h.st j hj hl
    | cons a t =>
      rw [er] at hl hg
      exact front_some h.st j hj _ hl (by simp) (n + j) a rfl (head_next (v' := t ++ [n + j]) rfl hg)
  · rw [rowI_out h0]
    obtain ⟨f, s, h⟩ := h
    exact front_out h.st k h0
theorem back_any (h : Rows w R g1 g2 n L) (k : Int) :
    Calls Try.prog 17 #[.pointer (some ⟨R, 0, none⟩), .int .i64 k] w (Tells w (lastV (rowI L k))) := by
  by_cases h0 : 0 ≤ k ∧ k < (L.length : Int)
  · obtain ⟨j, rfl, hj, e⟩ := rowI_in h0
    rw [e]
    obtain ⟨f, s, h⟩ := h
    have hr := rowOf_at hj
    have hl := h.len j _ hr
    have hg := h.fit.ring j _ hr
    cases er : (rowOf L j).getLast? with
    | none =>
      have e0 : rowOf L j = [] := List.getLast?_eq_none_iff.1 er
      rw [e0] at hl
      unfold lastV
      rw [er]
      exact back_none h.st j hj hl
    | some a =>
      obtain ⟨t, ht⟩ := List.getLast?_eq_some_iff.1 er
      rw [ht] at hl hg
      unfold lastV
      rw [er]
      exact back_some h.st j hj _ hl (by simp) (n + j) a rfl (head_prev (u' := (n + j) :: t) rfl hg)
  · rw [rowI_out h0]
    obtain ⟨f, s, h⟩ := h
    exact back_out h.st k h0
end
end Go.Proofs.Ytngfhcapjonkcaa.W

namespace Go.Proofs.Ytngfhcapjonkcaa.Ls
open W
/-- how many below j are in a row -/
def cnt : Nat → List Nat → Nat
  | 0, _ => 0
  | j + 1, r => cnt j r + if j ∈ r then 1 else 0
theorem cnt_congr : ∀ (j : Nat) (r t : List Nat), (∀ x, x < j → (x ∈ r ↔ x ∈ t)) → cnt j r = cnt j t
  | 0, _, _, _ => rfl
  | j + 1, r, t, h => by
    unfold cnt
    rw [cnt_congr j r t (fun x hx => h x (by omega))]
    by_cases hj : j ∈ r
    · rw [if_pos hj, if_pos ((h j (by omega)).1 hj)]
    · rw [if_neg hj, if_neg (fun x => hj ((h j (by omega)).2 x))]
theorem cnt_all : ∀ (j : Nat) (r : List Nat), r.Nodup → (∀ x ∈ r, x < j) → cnt j r = r.length
  | 0, r, _, h => by cases r with
    | nil => rfl
    | cons a r => exact absurd (h a (by simp)) (by omega)
  | j + 1, r, hn, h => by
    unfold cnt
    by_cases hj : j ∈ r
    · have h1 := cnt_all j (r.erase j) (hn.erase j) (fun x hx => by
        have h1 := (hn.mem_erase_iff).1 hx
        have := h x h1.2
        have := h1.1
        omega)
      have h2 : cnt j r = cnt j (r.erase j) := cnt_congr j _ _ fun x hx => by
        rw [hn.mem_erase_iff]
        exact ⟨fun hh => ⟨by omega, hh⟩, fun hh => hh.2⟩
      rw [if_pos hj, h2, h1, List.length_erase_of_mem hj]
      have : 0 < r.length := List.length_pos_of_mem hj
      omega
    · rw [if_neg hj, cnt_all j r hn (fun x hx => by have := h x hx; have : x ≠ j := fun e => hj (e ▸ hx); omega)]
      rfl
theorem cnt_le (j : Nat) (r : List Nat) : cnt j r ≤ j := by
  induction j with
  | zero => exact Nat.le_refl _
  | succ j ih => unfold cnt; split <;> omega
end Go.Proofs.Ytngfhcapjonkcaa.Ls
