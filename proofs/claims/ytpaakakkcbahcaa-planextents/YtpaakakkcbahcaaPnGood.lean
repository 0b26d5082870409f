/-
  Plans of settings that may be, in plain numbers: which thing stands where, and nowhere else. No conditions.
-/
import Derived.Test.YtpaakakkcbahcaaPnCache
import Derived.Test.YtpaakakkcbahcaaPnAt
import Derived.Test.YtpaakakkcbahcaaPnMakes
namespace Go.Proofs.Ytpaakakkcbahcaa.W
open Go.RowKit Num
set_option linter.unusedVariables false

/-- a plan's numbers -/
structure Good (p : Pl) (nb np nl ng ns : Nat) : Prop where
  a0 : p.a0 = nb
  a1 : p.a1 = ups nb 8
  a2 : p.a2 = np
  a3 : p.a3 = nb
  a4 : p.a4 = nb + 2 * np
  a5 : p.a5 = nl
  a6 : p.a6 = 2 + 2 * nl
  a7 : p.a7 = ng
  a8 : p.a8 = 2 + 2 * nl + ng
  a9 : p.a9 = ns
  a10 : p.a10 = 2
  a11 : p.a11 = 2 + nl
  a12 : p.a12 = 2 + 2 * nl + ng + 2 * ns
  b0 : 1 ≤ nb ∧ nb ≤ 512
  b2 : 1 ≤ np ∧ np ≤ 512
  b5 : 1 ≤ nl ∧ nl ≤ 192
  b7 : 1 ≤ ng ∧ ng ≤ 256
  b9 : 1 ≤ ns ∧ ns ≤ 192
theorem good_of (b s l : Int) (hb : 1 ≤ b) (hb2 : b ≤ 512) (hs : 1 ≤ s) (hs2 : s ≤ 192) (hl : 1 ≤ l) (hl2 : l ≤ 256) : ∃ nb np nl ng ns : Nat, Good (planOf b s l) nb np nl ng ns ∧ b = nb := by
  obtain ⟨e1, e2⟩ := ups_bd (n := b) (d := 8) hb (by decide)
  obtain ⟨g1, g2⟩ := ups_bd (n := ups b 8) (d := 6) e1 (by decide)
  obtain ⟨v1, v2⟩ := ups_bd (n := s) (d := 3) hs (by decide)
  refine ⟨b.toNat, (ups (ups b 8) 6).toNat, (ups s 3).toNat, l.toNat, s.toNat, ?_, by omega⟩
  have hb' : ((b.toNat : Nat) : Int) = b := by omega
  constructor <;> (try rw [hb']) <;> first | rfl | (simp only [planOf]; omega) | omega

/-- a thing stands at v (ok), or nowhere -/
def Stands (f : Nat → Th) (N : Nat) (x : Th) (v : Int) (ok : Bool) : Prop :=
  (ok = true ∧ ∃ k : Nat, v = k ∧ k < N ∧ f k = x ∧ ∀ j, j < k → f j ≠ x) ∨ (ok = false ∧ v = 0 ∧ ∀ j, j < N → f j ≠ x)
theorem Stands.yes {f : Nat → Th} {N : Nat} {x : Th} {k : Nat} (hk : k < N) (hx : f k = x) (hu : ∀ j, f j = x → j = k) : Stands f N x (k : Int) true :=
  .inl ⟨rfl, k, rfl, hk, hx, fun j hj e => by have := hu j e; omega⟩
theorem Stands.no {f : Nat → Th} {N : Nat} {x : Th} (h : ∀ j, j < N → f j ≠ x) : Stands f N x 0 false := .inr ⟨rfl, rfl, h⟩
theorem place_any {g N c : Nat} {f : Nat → Th} {x : Th} {v : Int} {ok : Bool} (w : World) (hn : N ≤ 100000) (ht : TRow w g N f) (hs : Stands f N x v ok) :
    Calls Try.prog 21 #[.slice (some ⟨g, 0, none⟩) N c, (.agg #[.int .i64 x.k, .int .i64 x.a, .int .i64 x.b]), .int .i64 v, .bool ok] w fun e w' => e = .returned (.bool true) ∧ Below w.heap.size w w' := by
  rcases hs with ⟨rfl, k, rfl, hk, hx, hne⟩ | ⟨rfl, rfl, hne⟩
  · exact place_yes g N c f x k w hn ht hk hx hne
  · exact place_no g N c f x w hn ht hne

theorem th_inj {k a b k' a' b' : Int} (h : (⟨k, a, b⟩ : Th) = ⟨k', a', b'⟩) : k = k' ∧ a = a' ∧ b = b' := by injection h with h1 h2 h3; exact ⟨h1, h2, h3⟩
theorem back_inv {nb j : Nat} {n r : Int} (h : backF nb j = ⟨2, n, r⟩) : (j : Int) = nb + 2 * n + r ∧ 0 ≤ n := by
  unfold backF at h
  split at h
  · obtain ⟨h1, _, _⟩ := th_inj h; omega
  · obtain ⟨_, h2, h3⟩ := th_inj h; omega
theorem cache_inv {nl ng j : Nat} {k a b : Int} (h : cacheF nl ng j = ⟨k, a, b⟩) :
    (k = 3 ∧ (j : Int) = a ∧ a < 2) ∨ (k = 4 ∧ a = 0 ∧ (j : Int) = 2 + b ∧ 0 ≤ b ∧ b < nl) ∨ (k = 4 ∧ a = 1 ∧ (j : Int) = 2 + nl + b ∧ 0 ≤ b ∧ b < nl) ∨ (k = 5 ∧ (j : Int) = 2 + 2 * nl + a ∧ 0 ≤ a ∧ a < ng) ∨ ((k = 6 ∨ k = 7) ∧ (j : Int) = 2 + 2 * nl + ng + 2 * a + (k - 6) ∧ 0 ≤ a) := by
  unfold cacheF at h
  split at h
  · obtain ⟨h1, h2, h3⟩ := th_inj h; omega
  · split at h
    · obtain ⟨h1, h2, h3⟩ := th_inj h; omega
    · split at h
      · obtain ⟨h1, h2, h3⟩ := th_inj h; omega
      · split at h
        · obtain ⟨h1, h2, h3⟩ := th_inj h; omega
        · obtain ⟨h1, h2, h3⟩ := th_inj h; omega

section
variable {p : Pl} {nb np nl ng ns : Nat}
theorem copies_way (hg : Good p nb np nl ng ns) (n : Int) : ∃ a b x, Stands (backF nb) (nb + 2 * np) ⟨2, n, 0⟩ a x ∧ Stands (backF nb) (nb + 2 * np) ⟨2, n, 1⟩ b x ∧ ∀ w, Calls Try.prog 16 #[(.agg #[.int .i64 p.a0, .int .i64 p.a1, .int .i64 p.a2, .int .i64 p.a3, .int .i64 p.a4, .int .i64 p.a5, .int .i64 p.a6, .int .i64 p.a7, .int .i64 p.a8, .int .i64 p.a9, .int .i64 p.a10, .int .i64 p.a11, .int .i64 p.a12]), .int .i64 n] w fun e w' => e = .returned (.tuple #[.int .i64 a, .int .i64 b, .bool x]) ∧ Below w.heap.size w w' := by
  have q0 := hg.b0; have q2 := hg.b2; have e2 := hg.a2; have e3 := hg.a3
  by_cases h : 0 ≤ n ∧ n < np
  · obtain ⟨m, rfl⟩ := Int.eq_ofNat_of_zero_le h.1
    refine ⟨((nb + 2 * m + 0 : Nat) : Int), ((nb + 2 * m + 1 : Nat) : Int), true, Stands.yes (by omega) (backF_hi (by decide)) (fun j e => by have := back_inv e; omega), Stands.yes (by omega) (backF_hi (by decide)) (fun j e => by have := back_inv e; omega), fun w => ?_⟩
    exact (copies_yes p m w (by omega) (by omega) (by omega) (by omega) (by omega)).mono fun e w' h => ⟨h.1.trans (by rw [show p.a3 + 2 * (m : Int) = ((nb + 2 * m + 0 : Nat) : Int) by omega]; rfl), h.2⟩
  · refine ⟨0, 0, false, Stands.no (fun j hj e => by have := back_inv e; omega), Stands.no (fun j hj e => by have := back_inv e; omega), fun w => copies_no p n w (by omega)⟩
theorem commit_way (hg : Good p nb np nl ng ns) (n : Int) : ∃ a x, Stands (cacheF nl ng) (2 + 2 * nl + ng + 2 * ns) ⟨3, n, 0⟩ a x ∧ ∀ w, Calls Try.prog 17 #[(.agg #[.int .i64 p.a0, .int .i64 p.a1, .int .i64 p.a2, .int .i64 p.a3, .int .i64 p.a4, .int .i64 p.a5, .int .i64 p.a6, .int .i64 p.a7, .int .i64 p.a8, .int .i64 p.a9, .int .i64 p.a10, .int .i64 p.a11, .int .i64 p.a12]), .int .i64 n] w fun e w' => e = .returned (.tuple #[.int .i64 a, .bool x]) ∧ Below w.heap.size w w' := by
  have q12 := hg.a12
  by_cases h : 0 ≤ n ∧ n < 2
  · obtain ⟨m, rfl⟩ := Int.eq_ofNat_of_zero_le h.1
    exact ⟨(m : Int), true, Stands.yes (by omega) (cacheF_commit (by omega)) (fun j e => by have := cache_inv e; omega), fun w => commit_yes p m w (by omega) h.1 h.2⟩
  · exact ⟨0, false, Stands.no (fun j hj e => by have := cache_inv e; omega), fun w => commit_no p n w (by omega)⟩
theorem leaf_way (hg : Good p nb np nl ng ns) (n : Int) (k : Int) : ∃ a x, Stands (cacheF nl ng) (2 + 2 * nl + ng + 2 * ns) ⟨4, k, n⟩ a x ∧ ∀ w, Calls Try.prog 18 #[(.agg #[.int .i64 p.a0, .int .i64 p.a1, .int .i64 p.a2, .int .i64 p.a3, .int .i64 p.a4, .int .i64 p.a5, .int .i64 p.a6, .int .i64 p.a7, .int .i64 p.a8, .int .i64 p.a9, .int .i64 p.a10, .int .i64 p.a11, .int .i64 p.a12]), .int .i64 k, .int .i64 n] w fun e w' => e = .returned (.tuple #[.int .i64 a, .bool x]) ∧ Below w.heap.size w w' := by
  have q12 := hg.a12; have q5 := hg.b5; have e5 := hg.a5; have e10 := hg.a10; have e11 := hg.a11
  by_cases h : (0 ≤ k ∧ k < 2) ∧ 0 ≤ n ∧ n < nl
  · obtain ⟨m, rfl⟩ := Int.eq_ofNat_of_zero_le h.2.1
    have : k = 0 ∨ k = 1 := by omega
    rcases this with rfl | rfl
    · refine ⟨((2 + 0 * nl + m : Nat) : Int), true, Stands.yes (by omega) (cacheF_leaf (r := 0) (by decide) (by omega)) (fun j e => by have := cache_inv e; omega), fun w => ?_⟩
      exact (leaf_0 p m w (by omega) (by omega) (by omega) (by omega) (by omega) (by omega)).mono fun e w' h => ⟨h.1.trans (by rw [show p.a10 + (m : Int) = ((2 + 0 * nl + m : Nat) : Int) by omega]), h.2⟩
    · refine ⟨((2 + 1 * nl + m : Nat) : Int), true, Stands.yes (by omega) (cacheF_leaf (r := 1) (by decide) (by omega)) (fun j e => by have := cache_inv e; omega), fun w => ?_⟩
      exact (leaf_1 p m w (by omega) (by omega) (by omega) (by omega) (by omega) (by omega)).mono fun e w' h => ⟨h.1.trans (by rw [show p.a11 + (m : Int) = ((2 + 1 * nl + m : Nat) : Int) by omega]), h.2⟩
  · exact ⟨0, false, Stands.no (fun j hj e => by have := cache_inv e; omega), fun w => leaf_no p k n w (by omega)⟩
theorem log_way (hg : Good p nb np nl ng ns) (q : Int) (hq : 0 ≤ q) (hq2 : q ≤ 18446744073709551615) : ∃ a x, Stands (cacheF nl ng) (2 + 2 * nl + ng + 2 * ns) ⟨5, q % ng, 0⟩ a x ∧ ∀ w, Calls Try.prog 19 #[(.agg #[.int .i64 p.a0, .int .i64 p.a1, .int .i64 p.a2, .int .i64 p.a3, .int .i64 p.a4, .int .i64 p.a5, .int .i64 p.a6, .int .i64 p.a7, .int .i64 p.a8, .int .i64 p.a9, .int .i64 p.a10, .int .i64 p.a11, .int .i64 p.a12]), .int .u64 q] w fun e w' => e = .returned (.tuple #[.int .i64 a, .bool x]) ∧ Below w.heap.size w w' := by
  have q7 := hg.b7; have e7 := hg.a7; have e6 := hg.a6; have q5 := hg.b5
  have m1 := Int.emod_nonneg q (b := (ng : Int)) (by omega)
  have m2 := Int.emod_lt_of_pos q (b := (ng : Int)) (by omega)
  obtain ⟨m, hm⟩ := Int.eq_ofNat_of_zero_le m1
  rw [hm] at m2 ⊢
  refine ⟨((2 + 2 * nl + m : Nat) : Int), true, Stands.yes (by omega) (cacheF_log (by omega)) (fun j e => by have := cache_inv e; omega), fun w => ?_⟩
  have hm' : q % p.a7 = (m : Int) := by rw [e7]; exact hm
  exact (log_yes p q w hq hq2 (by omega) (by omega) (by omega) (by omega)).mono fun e w' h => ⟨h.1.trans (by rw [hm', show p.a6 + (m : Int) = ((2 + 2 * nl + m : Nat) : Int) by omega]), h.2⟩
theorem slot_way (hg : Good p nb np nl ng ns) (n : Int) : ∃ a b x, Stands (cacheF nl ng) (2 + 2 * nl + ng + 2 * ns) ⟨6, n, 0⟩ a x ∧ Stands (cacheF nl ng) (2 + 2 * nl + ng + 2 * ns) ⟨7, n, 0⟩ b x ∧ ∀ w, Calls Try.prog 20 #[(.agg #[.int .i64 p.a0, .int .i64 p.a1, .int .i64 p.a2, .int .i64 p.a3, .int .i64 p.a4, .int .i64 p.a5, .int .i64 p.a6, .int .i64 p.a7, .int .i64 p.a8, .int .i64 p.a9, .int .i64 p.a10, .int .i64 p.a11, .int .i64 p.a12]), .int .i64 n] w fun e w' => e = .returned (.tuple #[.int .i64 a, .int .i64 b, .bool x]) ∧ Below w.heap.size w w' := by
  have q9 := hg.b9; have e9 := hg.a9; have e8 := hg.a8; have q5 := hg.b5; have q7 := hg.b7
  by_cases h : 0 ≤ n ∧ n < ns
  · obtain ⟨m, rfl⟩ := Int.eq_ofNat_of_zero_le h.1
    refine ⟨((2 + 2 * nl + ng + 2 * m + 0 : Nat) : Int), ((2 + 2 * nl + ng + 2 * m + 1 : Nat) : Int), true, Stands.yes (by omega) (cacheF_slot (r := 0) (by decide)) (fun j e => by have := cache_inv e; omega), Stands.yes (by omega) (cacheF_slot (r := 1) (by decide)) (fun j e => by have := cache_inv e; omega), fun w => ?_⟩
    exact (slot_yes p m w (by omega) (by omega) (by omega) (by omega) (by omega)).mono fun e w' h => ⟨h.1.trans (by rw [show p.a8 + 2 * (m : Int) = ((2 + 2 * nl + ng + 2 * m + 0 : Nat) : Int) by omega]; rfl), h.2⟩
  · exact ⟨0, 0, false, Stands.no (fun j hj e => by have := cache_inv e; omega), Stands.no (fun j hj e => by have := cache_inv e; omega), fun w => slot_no p n w (by omega)⟩
theorem kindB_eq (hg : Good p nb np nl ng ns) (n : Int) (h : 0 ≤ n) : kindB p n = (backF nb n.toNat).k := by
  have e3 := hg.a3
  by_cases c : n < nb
  · have l : kindB p n = 1 := by unfold kindB; rw [if_pos (by omega)]
    have r : backF nb n.toNat = ⟨1, n.toNat, 0⟩ := by unfold backF; rw [if_pos (by omega)]
    rw [l, r]
  · have l : kindB p n = 2 := by unfold kindB; rw [if_neg (by omega)]
    have r : (backF nb n.toNat).k = 2 := by unfold backF; rw [if_neg (by omega)]
    rw [l, r]
theorem kindC_eq (hg : Good p nb np nl ng ns) (n : Int) (h : 0 ≤ n) : kindC p n = (cacheF nl ng n.toNat).k := by
  have q5 := hg.b5; have q7 := hg.b7; have e8 := hg.a8; have e6 := hg.a6; have e10 := hg.a10
  unfold kindC
  rw [e10, e6, e8]
  by_cases c1 : n < 2
  · have r : (cacheF nl ng n.toNat).k = 3 := by unfold cacheF; rw [if_pos (by omega)]
    rw [r, if_pos c1]
  · rw [if_neg c1]
    by_cases c2 : n < 2 + 2 * (nl : Int)
    · rw [if_pos c2]
      by_cases c3 : n < 2 + nl
      · have r : (cacheF nl ng n.toNat).k = 4 := by unfold cacheF; rw [if_neg (by omega), if_pos (by omega)]
        rw [r]
      · have r : (cacheF nl ng n.toNat).k = 4 := by unfold cacheF; rw [if_neg (by omega), if_neg (by omega), if_pos (by omega)]
        rw [r]
    · rw [if_neg c2]
      by_cases c4 : n < 2 + 2 * (nl : Int) + (ng : Int)
      · have r : (cacheF nl ng n.toNat).k = 5 := by unfold cacheF; rw [if_neg (by omega), if_neg (by omega), if_neg (by omega), if_pos (by omega)]
        rw [r, if_pos c4]
      · have r : (cacheF nl ng n.toNat).k = 6 + ((n.toNat - (2 + 2 * nl + ng)) % 2 : Nat) := by unfold cacheF; rw [if_neg (by omega), if_neg (by omega), if_neg (by omega), if_neg (by omega)]
        rw [r, if_neg c4]
        by_cases c5 : (n - (2 + 2 * (nl : Int) + (ng : Int))) % 2 = 0
        · rw [if_pos c5]; omega
        · rw [if_neg c5]; omega
/-- what Where tells of the backing device -/
theorem wback_way (hg : Good p nb np nl ng ns) (n : Int) : ∀ w, Calls Try.prog 27 #[(.agg #[.int .i64 p.a0, .int .i64 p.a1, .int .i64 p.a2, .int .i64 p.a3, .int .i64 p.a4, .int .i64 p.a5, .int .i64 p.a6, .int .i64 p.a7, .int .i64 p.a8, .int .i64 p.a9, .int .i64 p.a10, .int .i64 p.a11, .int .i64 p.a12]), .bool false, .int .i64 n] w fun e w' => e = .returned (.int .i64 (if 0 ≤ n ∧ n < nb + 2 * np then (backF nb n.toNat).k else 0)) ∧ Below w.heap.size w w' := by
  have q0 := hg.b0; have q2 := hg.b2; have e2 := hg.a2; have e3 := hg.a3; have e4 := hg.a4
  intro w
  by_cases h : 0 ≤ n ∧ n < nb + 2 * np
  · rw [if_pos h]
    refine where_f p n _ w fun w => ?_
    exact (back_yes p n w (by omega) (by omega)).mono fun e w' h' => ⟨h'.1.trans (by rw [kindB_eq hg n h.1]), h'.2⟩
  · rw [if_neg h]
    exact where_f p n _ w fun w => back_no p n w (by omega)
theorem wcache_way (hg : Good p nb np nl ng ns) (n : Int) : ∀ w, Calls Try.prog 27 #[(.agg #[.int .i64 p.a0, .int .i64 p.a1, .int .i64 p.a2, .int .i64 p.a3, .int .i64 p.a4, .int .i64 p.a5, .int .i64 p.a6, .int .i64 p.a7, .int .i64 p.a8, .int .i64 p.a9, .int .i64 p.a10, .int .i64 p.a11, .int .i64 p.a12]), .bool true, .int .i64 n] w fun e w' => e = .returned (.int .i64 (if 0 ≤ n ∧ n < 2 + 2 * nl + ng + 2 * ns then (cacheF nl ng n.toNat).k else 0)) ∧ Below w.heap.size w w' := by
  have q9 := hg.b9; have q5 := hg.b5; have q7 := hg.b7; have e12 := hg.a12; have e8 := hg.a8; have e6 := hg.a6; have e10 := hg.a10
  intro w
  by_cases h : 0 ≤ n ∧ n < 2 + 2 * nl + ng + 2 * ns
  · rw [if_pos h]
    refine where_t p n _ w fun w => ?_
    exact (cache_yes p n w (by omega) (by omega) (by omega) (by omega) (by omega)).mono fun e w' h' => ⟨h'.1.trans (by rw [kindC_eq hg n h.1]), h'.2⟩
  · rw [if_neg h]
    exact where_t p n _ w fun w => cache_no p n w (by omega)
end
end Go.Proofs.Ytpaakakkcbahcaa.W
