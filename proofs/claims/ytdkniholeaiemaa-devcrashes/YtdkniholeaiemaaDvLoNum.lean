/-
  Which sectors are loose, as a row; rows that are sorted: plain facts. No conditions.
-/
import Derived.Test.YtdkniholeaiemaaDvFlush
namespace Go.Proofs.Ytdkniholeaiemaa.W
open Go.RowKit Oc Dm
set_option linter.unusedVariables false
/-- the loose sectors, rising, and how many writes each has -/
def looseOf (n : Nat) (S : Nat → Sec) : List (Nat × Nat) := (List.range n).filterMap fun i => if (S i).loose = [] then none else some (i, (S i).loose.length)
theorem mem_loose {n : Nat} {S : Nat → Sec} {x : Nat × Nat} : x ∈ looseOf n S ↔ x.1 < n ∧ (S x.1).loose ≠ [] ∧ x.2 = (S x.1).loose.length := by
  unfold looseOf
  rw [List.mem_filterMap]
  constructor
  · rintro ⟨i, hi, e⟩
    rw [List.mem_range] at hi
    by_cases h : (S i).loose = []
    · rw [if_pos h] at e; cases e
    · rw [if_neg h] at e
      rw [← Option.some.inj e]
      exact ⟨hi, h, rfl⟩
  · rintro ⟨h1, h2, h3⟩
    refine ⟨x.1, List.mem_range.2 h1, ?_⟩
    rw [if_neg h2, ← h3]
theorem loose_rising (n : Nat) (S : Nat → Sec) : (looseOf n S).Pairwise (fun x y => x.1 < y.1) := by
  unfold looseOf
  rw [List.pairwise_filterMap]
  refine List.Pairwise.imp ?_ (List.pairwise_lt_range (n := n))
  intro a b hab x hx y hy
  by_cases h : (S a).loose = []
  · rw [if_pos h] at hx; cases hx
  · by_cases h2 : (S b).loose = []
    · rw [if_pos h2] at hy; cases hy
    · rw [if_neg h] at hx
      rw [if_neg h2] at hy
      rw [← Option.some.inj hx, ← Option.some.inj hy]
      exact hab
theorem loose_len (n : Nat) (S : Nat → Sec) : (looseOf n S).length ≤ n := by
  unfold looseOf
  have := List.length_filterMap_le (fun i => if (S i).loose = [] then none else some (i, (S i).loose.length)) (List.range n)
  simpa using this
theorem strict_unique : ∀ (a b : List (Nat × Nat)), a.Pairwise (fun x y => x.1 < y.1) → b.Pairwise (fun x y => x.1 < y.1) → (∀ x, x ∈ a ↔ x ∈ b) → a = b
  | [], [], _, _, _ => rfl
  | [], y :: b, _, _, h => absurd ((h y).2 (List.mem_cons_self ..)) List.not_mem_nil
  | x :: a, [], _, _, h => absurd ((h x).1 (List.mem_cons_self ..)) List.not_mem_nil
  | x :: a, y :: b, ha, hb, h => by
    obtain ⟨h1, h2⟩ := List.pairwise_cons.1 ha
    obtain ⟨h3, h4⟩ := List.pairwise_cons.1 hb
    have hxy : x = y := by
      rcases List.mem_cons.1 ((h x).1 (List.mem_cons_self ..)) with e | hx
      · exact e
      · rcases List.mem_cons.1 ((h y).2 (List.mem_cons_self ..)) with e | hy
        · exact e.symm
        · have := h3 x hx
          have := h1 y hy
          omega
    subst hxy
    rw [strict_unique a b h2 h4 (fun z => ?_)]
    constructor
    · intro hz
      rcases List.mem_cons.1 ((h z).1 (List.mem_cons_of_mem _ hz)) with e | hz2
      · have := h1 z hz; rw [e] at this; omega
      · exact hz2
    · intro hz
      rcases List.mem_cons.1 ((h z).2 (List.mem_cons_of_mem _ hz)) with e | hz2
      · have := h3 z hz; rw [e] at this; omega
      · exact hz2
theorem sorted_unique {l ps T : List (Nat × Nat)} (hm : ∀ x, x ∈ ps ↔ x ∈ T) (hd : ps.Pairwise (fun x y => x.1 ≠ y.1)) (hT : T.Pairwise (fun x y => x.1 < y.1)) (hp : l.Perm ps) (hs : l.Pairwise (fun x y => ¬ y.1 < x.1)) : l = T := by
  have h1 : l.Pairwise (fun x y => x.1 ≠ y.1) := (hp.pairwise_iff (fun {a b} h => Ne.symm h)).2 hd
  have h2 : l.Pairwise (fun x y => x.1 < y.1) := (hs.and h1).imp (fun ⟨a, b⟩ => by omega)
  exact strict_unique l T h2 hT (fun x => hp.mem_iff.trans (hm x))
section
variable {w : World} {F : Nat → Prop} {D p n N : Nat} {S : Nat → Sec} {rd wr fx m r : Nat} {g : Nat → Option Pl}
/-- those that have come -/
structure Coll (n : Nat) (S : Nat → Sec) (g : Nat → Option Pl) (left : Nat → Bool) (ps : List (Nat × Nat)) : Prop where
  mem : ∀ x, x ∈ ps ↔ x.1 < n ∧ (g x.1).isSome = true ∧ left x.1 = false ∧ x.2 = (S x.1).loose.length
  apart : ps.Pairwise (fun x y => x.1 ≠ y.1)
theorem Coll.start : Coll n S g (fun i => (g i).isSome) [] := ⟨fun x => ⟨(fun h => by cases h), fun ⟨_, h2, h3, _⟩ => by rw [h2] at h3; cases h3⟩, List.Pairwise.nil⟩
theorem Coll.step {left : Nat → Bool} {ps : List (Nat × Nat)} (h : Coll n S g left ps) {i : Nat} (hi : i < n) (hg : (g i).isSome = true) (hl : left i = true) : Coll n S g (upd left i false) (ps ++ [(i, (S i).loose.length)]) := by
  refine ⟨fun x => ?_, ?_⟩
  · rw [List.mem_append, List.mem_singleton, h.mem]
    constructor
    · rintro (⟨a, b, c, d⟩ | e)
      · refine ⟨a, b, ?_, d⟩
        unfold upd
        split
        · rfl
        · exact c
      · subst e
        exact ⟨hi, hg, upd_same _ _ _, rfl⟩
    · rintro ⟨a, b, c, d⟩
      by_cases e : x.1 = i
      · right
        obtain ⟨x1, x2⟩ := x
        dsimp only at e d
        subst e
        rw [d]
      · rw [upd_other _ _ e] at c
        exact .inl ⟨a, b, c, d⟩
  · rw [List.pairwise_append]
    refine ⟨h.apart, List.pairwise_singleton _ _, fun x hx y hy => ?_⟩
    rw [List.mem_singleton] at hy
    subst hy
    intro e
    have := ((h.mem x).1 hx).2.2.1
    rw [e, hl] at this
    cases this
theorem Coll.end_ {left : Nat → Bool} {ps : List (Nat × Nat)} (h : Coll n S g left ps) (H : DvAt w F D p n N S rd wr fx m r g) (hl : ∀ i, i < n → left i = false) (x : Nat × Nat) : x ∈ ps ↔ x ∈ looseOf n S := by
  rw [h.mem, mem_loose]
  constructor
  · rintro ⟨a, b, _, d⟩
    obtain ⟨t, ht⟩ := Option.isSome_iff_exists.1 b
    exact ⟨a, (H.some_ _ t a ht).1, d⟩
  · rintro ⟨a, b, d⟩
    refine ⟨a, ?_, hl _ a, d⟩
    cases hg : g x.1 with
    | none => exact absurd (H.none_ _ a hg) b
    | some t => rfl
end
/-! the sort's words -/
def encL (x : Nat × Nat) : List Value := [.int .i64 ((x.1 % 4096 : Nat) : Int), .int .i64 (x.2 : Int)]
def cmpL (x y : Nat × Nat) : Int := ((x.1 % 4096 : Nat) : Int) - ((y.1 % 4096 : Nat) : Int)
end Go.Proofs.Ytdkniholeaiemaa.W
