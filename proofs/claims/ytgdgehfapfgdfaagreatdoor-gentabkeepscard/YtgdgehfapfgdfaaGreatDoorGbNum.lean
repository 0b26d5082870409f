/-
  A table of generations as the document tells of it, on one device and its power: plain facts. No conditions.
-/
import Derived.Test.YtgdgehfapfgdfaaGreatDoorKGpr
import Derived.Test.YtgdgehfapfgdfaaGreatDoorKDz
namespace Go.Proofs.YtgdgehfapfgdfaaGreatDoor.Tb
open Go.RowKit Oc Dm W Dw
set_option linter.unusedVariables false

/-- a device and its power -/
structure Vs where
  s : PS
  S : Nat → Sec
  rd : Nat
  wr : Nat
/-- a read of a sector that there is -/
def rd1 (m : Vs) (i : Nat) : Int × List UInt8 × Vs :=
  if m.s.off = true then (80, [], m) else if m.rd % 2 = 1 then (81, [], { m with rd := m.rd / 2 }) else (0, (m.S i).stands, { m with rd := m.rd / 2 })
/-- a write of 64 octets to a sector that there is -/
def wr1 (m : Vs) (i : Nat) (xs : List UInt8) : Int × Vs :=
  if m.s.off = true then (80, m) else if m.s.goes = true then (80, { m with s := m.s.spend }) else
    if m.wr % 2 = 1 then (81, { m with s := m.s.spend, wr := m.wr / 2 }) else (0, { m with s := m.s.spend, S := wrote m.S i xs, wr := m.wr / 2 })
def fl1 (m : Vs) : Int × Vs :=
  if m.s.off = true then (80, m) else if m.s.goes = true then (80, { m with s := m.s.spend }) else (0, { m with s := m.s.spend, S := flushS m.S })
/-- writes, one behind the other, then a flush: the first error -/
def puts : List (Nat × List UInt8) → Vs → Int × Vs
  | [], m => fl1 m
  | x :: l, m => if (wr1 m x.1 x.2).1 = 0 then puts l (wr1 m x.1 x.2).2 else wr1 m x.1 x.2
theorem puts_ok {x : Nat × List UInt8} {l : List (Nat × List UInt8)} {m : Vs} (h : (wr1 m x.1 x.2).1 = 0) : puts (x :: l) m = puts l (wr1 m x.1 x.2).2 := if_pos h
theorem puts_no {x : Nat × List UInt8} {l : List (Nat × List UInt8)} {m : Vs} (h : ¬ (wr1 m x.1 x.2).1 = 0) : puts (x :: l) m = wr1 m x.1 x.2 := if_neg h
/-- where a page stands, and what is written there -/
def spot (ga : Nat) (p : Gp) : Nat := ga + 2 * p.no.toNat + p.v % 2
def job (ga : Nat) (p : Gp) : Nat × List UInt8 := (spot ga p, sect p)
/-- the page of ones -/
def fresh (i : Nat) : Gp := ⟨(i : Int), 1, fun _ => 1⟩
theorem fresh_may {i : Nat} (h : i < 65536) : MayBe (fresh i) := ⟨⟨by show (0 : Int) ≤ (i : Int); omega, by show (i : Int) < 65536; omega⟩, by show isG 1; decide, fun _ _ => by show isG 1; decide⟩
def fmt (ga np : Nat) (m : Vs) : Int × Vs := puts ((List.range np).map fun i => job ga (fresh i)) m

open Classical in
/-- what is got of a sector -/
noncomputable def gd (ys : List UInt8) (no : Int) : Gp × Int :=
  if getE ys 1 ≠ 0 then (zp, getE ys 1) else if MayBe (dec (getL ys 1)) ∧ (dec (getL ys 1)).no = no then (dec (getL ys 1), 0) else (zp, 31)
theorem gd_way (ys : List UInt8) (no : Int) : GWay ys no (gd ys no).1 (gd ys no).2 := by
  unfold gd
  by_cases h : getE ys 1 = 0
  · rw [if_neg (fun h2 => h2 h)]
    by_cases h2 : MayBe (dec (getL ys 1)) ∧ (dec (getL ys 1)).no = no
    · rw [if_pos h2]; exact .inr (.inr ⟨h, rfl, Like.refl _, h2.1, h2.2⟩)
    · rw [if_neg h2]; exact .inr (.inl ⟨h, rfl, rfl, h2⟩)
  · rw [if_pos h]; exact .inl ⟨h, rfl, rfl⟩
/-- which one of two -/
def nw (p q : Gp) (E F : Int) : Gp × Int × Bool :=
  if E = 0 then (if F = 0 ∧ p.v < q.v then (q, 1, true) else (p, 0, true)) else if F = 0 then (q, 1, true) else (zp, 0, false)
noncomputable def pk (a b : List UInt8) (no : Int) : Gp × Int × Bool := nw (gd a no).1 (gd b no).1 (gd a no).2 (gd b no).2
theorem pk_way (a b : List UInt8) (no : Int) : NWay (gd a no).1 (gd a no).2 (gd b no).1 (gd b no).2 (pk a b no).1 (pk a b no).2.1 (pk a b no).2.2 := by
  unfold pk nw
  rcases gway_facts (gd_way a no) with ⟨h1, h2⟩ | ⟨h1, h2⟩ <;> rcases gway_facts (gd_way b no) with ⟨h3, h4⟩ | ⟨h3, h4⟩
  · rw [if_neg h1, if_neg h3]; exact .inr (.inr (.inr (.inr ⟨h1, h3, h2, h4, rfl, rfl, rfl⟩)))
  · rw [if_neg h1, if_pos h3]; exact .inr (.inr (.inr (.inl ⟨h1, h3, h2, h4, rfl, rfl, rfl⟩)))
  · rw [if_pos h1, if_neg (fun h => h3 h.1)]; exact .inl ⟨h1, h3, h4, h2, rfl, rfl, rfl⟩
  · rw [if_pos h1]
    by_cases h : (gd a no).1.v < (gd b no).1.v
    · rw [if_pos ⟨h3, h⟩]; exact .inr (.inr (.inl ⟨h1, h3, h, rfl, rfl, rfl⟩))
    · rw [if_neg (fun x => h x.2)]; exact .inr (.inl ⟨h1, h3, h2, by omega, rfl, rfl, rfl⟩)
theorem gd_may {ys : List UInt8} {no : Int} (h : (gd ys no).2 = 0) : MayBe (gd ys no).1 ∧ (gd ys no).1.no = no := by
  rcases gd_way ys no with ⟨h1, h2, _⟩ | ⟨_, h2, _⟩ | ⟨_, _, _, h4, h5⟩
  · rw [h] at h2; exact absurd h2.symm h1
  · rw [h] at h2; cases h2
  · exact ⟨h4, h5⟩
theorem pk_may {a b : List UInt8} {no : Int} (h : (pk a b no).2.2 = true) : MayBe (pk a b no).1 ∧ (pk a b no).1.no = no := by
  unfold pk nw at h ⊢
  by_cases h1 : (gd a no).2 = 0
  · rw [if_pos h1] at h ⊢
    by_cases h2 : (gd b no).2 = 0 ∧ (gd a no).1.v < (gd b no).1.v
    · rw [if_pos h2]; exact gd_may h2.1
    · rw [if_neg h2]; exact gd_may h1
  · rw [if_neg h1] at h ⊢
    by_cases h2 : (gd b no).2 = 0
    · rw [if_pos h2]; exact gd_may h2
    · rw [if_neg h2] at h; cases h
/-- the newest of one page's two copies: the error, the page -/
noncomputable def on1 (ga : Nat) (m : Vs) (i : Nat) : Int × Gp × Vs :=
  if (rd1 m (ga + 2 * i)).1 ≠ 0 then ((rd1 m (ga + 2 * i)).1, zp, (rd1 m (ga + 2 * i)).2.2) else
    if (rd1 (rd1 m (ga + 2 * i)).2.2 (ga + 2 * i + 1)).1 ≠ 0 then ((rd1 (rd1 m (ga + 2 * i)).2.2 (ga + 2 * i + 1)).1, zp, (rd1 (rd1 m (ga + 2 * i)).2.2 (ga + 2 * i + 1)).2.2) else
      if (pk (rd1 m (ga + 2 * i)).2.1 (rd1 (rd1 m (ga + 2 * i)).2.2 (ga + 2 * i + 1)).2.1 (i : Int)).2.2 = true then (0, (pk (rd1 m (ga + 2 * i)).2.1 (rd1 (rd1 m (ga + 2 * i)).2.2 (ga + 2 * i + 1)).2.1 (i : Int)).1, (rd1 (rd1 m (ga + 2 * i)).2.2 (ga + 2 * i + 1)).2.2)
      else (120, zp, (rd1 (rd1 m (ga + 2 * i)).2.2 (ga + 2 * i + 1)).2.2)
/-- page by page -/
noncomputable def opn (ga : Nat) : Nat → Nat → Vs → List Gp → Int × List Gp × Vs
  | 0, i, m, L => (0, L, m)
  | k + 1, i, m, L => if (on1 ga m i).1 = 0 then opn ga k (i + 1) (on1 ga m i).2.2 (L ++ [(on1 ga m i).2.1]) else ((on1 ga m i).1, L, (on1 ga m i).2.2)
theorem opn_ok {ga k i : Nat} {m : Vs} {L : List Gp} (h : (on1 ga m i).1 = 0) : opn ga (k + 1) i m L = opn ga k (i + 1) (on1 ga m i).2.2 (L ++ [(on1 ga m i).2.1]) := if_pos h
theorem opn_no {ga k i : Nat} {m : Vs} {L : List Gp} (h : ¬ (on1 ga m i).1 = 0) : opn ga (k + 1) i m L = ((on1 ga m i).1, L, (on1 ga m i).2.2) := if_neg h
/-- pages that a table may hold, the first np of them -/
def Pages (L : List Gp) (np : Nat) : Prop := L.length = np ∧ ∀ (i : Nat) (p : Gp), L[i]? = some p → MayBe p ∧ p.no = (i : Int)
theorem on1_may {ga : Nat} {m : Vs} {i : Nat} (h : (on1 ga m i).1 = 0) : MayBe (on1 ga m i).2.1 ∧ (on1 ga m i).2.1.no = (i : Int) := by
  unfold on1 at h ⊢
  split at h
  · rename_i h1; exact absurd h h1
  · rename_i h1
    rw [if_neg h1]
    split at h
    · rename_i h2; exact absurd h h2
    · rename_i h2
      rw [if_neg h2]
      split at h
      · rename_i h3
        rw [if_pos h3]
        exact pk_may h3
      · cases h
theorem opn_pages {ga : Nat} : ∀ (k i : Nat) (m : Vs) (L : List Gp), Pages L i → (opn ga k i m L).1 = 0 → Pages (opn ga k i m L).2.1 (i + k)
  | 0, i, m, L, h, _ => h
  | k + 1, i, m, L, h, h0 => by
    by_cases h1 : (on1 ga m i).1 = 0
    · rw [opn_ok h1] at h0 ⊢
      have := opn_pages k (i + 1) _ _ ⟨by rw [List.length_append, h.1]; rfl, fun j p hp => by
        by_cases hj : j < L.length
        · rw [List.getElem?_append_left hj] at hp; exact h.2 j p hp
        · rw [List.getElem?_append_right (by omega)] at hp
          have e : j - L.length = 0 := by
            have := (List.getElem?_eq_some_iff.1 hp).1
            simp at this; omega
          rw [e] at hp
          injection hp with hp
          subst hp
          have hji : j = i := by have := h.1; omega
          subst hji
          exact on1_may h1⟩ h0
      rw [show i + (k + 1) = i + 1 + k by omega]
      exact this
    · rw [opn_no h1] at h0; exact absurd h0 h1

/-! bumps -/
/-- is an extent named? -/
def named (ls : List Int) (e : Nat) : Bool := ls.any fun x => x == (e : Int)
theorem named_iff {ls : List Int} {e : Nat} : named ls e = true ↔ (e : Int) ∈ ls := by
  unfold named
  rw [List.any_eq_true]
  constructor
  · rintro ⟨x, hx, h⟩
    have : x = (e : Int) := by simpa using h
    exact this ▸ hx
  · intro h; exact ⟨_, h, by simp⟩
/-- does one of them stand on a page? -/
def hit (ls : List Int) (j : Nat) : Bool := (List.range 6).any fun k => named ls (6 * j + k)
theorem hit_iff {ls : List Int} {j : Nat} : hit ls j = true ↔ ∃ k, k < 6 ∧ ((6 * j + k : Nat) : Int) ∈ ls := by
  unfold hit
  rw [List.any_eq_true]
  constructor
  · rintro ⟨k, hk, h⟩; exact ⟨k, List.mem_range.1 hk, named_iff.1 h⟩
  · rintro ⟨k, hk, h⟩; exact ⟨k, List.mem_range.2 hk, named_iff.2 h⟩
def add1 (ls : List Int) (e : Nat) : Nat := if named ls e = true then 1 else 0
/-- a page behind a bump -/
def upp (ls : List Int) (j : Nat) (p : Gp) : Gp := ⟨p.no, p.v + 1, fun k => p.g k + add1 ls (6 * j + k)⟩
/-- are all of them extents? -/
def inR (ls : List Int) (ne : Nat) : Prop := ∀ x ∈ ls, 0 ≤ x ∧ x < (ne : Int)
/-- those that are -/
def inside (ls : List Int) (ne : Nat) : List Int := ls.filter fun x => decide (0 ≤ x) && decide (x < (ne : Int))
theorem mem_inside {ls : List Int} {ne : Nat} {x : Int} : x ∈ inside ls ne ↔ x ∈ ls ∧ 0 ≤ x ∧ x < (ne : Int) := by
  unfold inside
  rw [List.mem_filter]
  simp
theorem inside_all {ls : List Int} {ne : Nat} (h : inR ls ne) : inside ls ne = ls := by
  unfold inside
  rw [List.filter_eq_self]
  intro x hx
  have := h x hx
  simp; omega
/-- may none of them be bumped any more? -/
def isFull (L : List Gp) (x : Int) : Prop := 4611686018427387904 ≤ (L.getD (x.toNat / 6) zp).v ∨ 4611686018427387904 ≤ (L.getD (x.toNat / 6) zp).g (x.toNat % 6)
def hits (ls : List Int) (np : Nat) : List Nat := (List.range np).filter (hit ls)
def jobs (ga : Nat) (ls : List Int) (L : List Gp) : List (Nat × List UInt8) := (hits ls L.length).map fun j => job ga (upp ls j (L.getD j zp))
/-- all pages behind a bump -/
def nexts (ls : List Int) (L : List Gp) : List Gp := L.mapIdx fun j p => if hit ls j = true then upp ls j p else p
open Classical in
noncomputable def bmp (ga ne : Nat) (ls : List Int) (m : Vs) (L : List Gp) : Int × List Gp × Vs :=
  if ¬ inR ls ne then (3, L, m) else if ∃ x ∈ ls, isFull L x then (5, L, m) else if ls = [] then (0, L, m) else
    ((puts (jobs ga ls L) m).1, if (puts (jobs ga ls L) m).1 = 0 then nexts ls L else L, (puts (jobs ga ls L) m).2)
theorem nexts_length (ls : List Int) (L : List Gp) : (nexts ls L).length = L.length := by unfold nexts; simp
theorem nexts_at (ls : List Int) (L : List Gp) (j : Nat) : (nexts ls L)[j]? = (L[j]?).map fun p => if hit ls j = true then upp ls j p else p := by unfold nexts; simp
end Go.Proofs.YtgdgehfapfgdfaaGreatDoor.Tb
