/-
  Plain facts: the sum of a word's bits, reckoned in octets side by side. No conditions.
-/
import Derived.Test.YtmeknghlhfpjnaaDoorBitNum
namespace Go.Proofs.YtmeknghlhfpjnaaDoor.Bt
set_option linter.unusedVariables false

theorem and_join (q m r c : Nat) (hr : r < 256) : (256 * q + r) &&& (256 * m + c % 256) = 256 * (q &&& m) + (r &&& c % 256) := by
  have hc : c % 256 < 256 := Nat.mod_lt _ (by decide)
  have hrc : r &&& c % 256 < 2 ^ 8 := Nat.and_lt_two_pow _ hc
  apply Nat.eq_of_testBit_eq
  intro j
  have e1 : (256 * q + r).testBit j = if j < 8 then r.testBit j else q.testBit (j - 8) := Nat.testBit_two_pow_mul_add (i := 8) q hr j
  have e2 : (256 * m + c % 256).testBit j = if j < 8 then (c % 256).testBit j else m.testBit (j - 8) := Nat.testBit_two_pow_mul_add (i := 8) m hc j
  have e3 : (256 * (q &&& m) + (r &&& c % 256)).testBit j = if j < 8 then (r &&& c % 256).testBit j else (q &&& m).testBit (j - 8) := Nat.testBit_two_pow_mul_add (i := 8) (q &&& m) hrc j
  rw [Nat.testBit_and, e1, e2, e3]
  split
  · rw [Nat.testBit_and]
  · rw [Nat.testBit_and]
/-- a mask of k octets -/
def mask (c : Nat) : Nat → Nat
  | 0 => 0
  | k + 1 => 256 * mask c k + c % 256
theorem mask_succ (c k : Nat) : mask c (k + 1) = 256 * mask c k + c % 256 := rfl
def s1 (k x : Nat) : Nat := (x / 2 &&& mask 85 k) + (x &&& mask 85 k)
def s2 (k x : Nat) : Nat := (x / 4 &&& mask 51 k) + (x &&& mask 51 k)
def s3 (k x : Nat) : Nat := (x / 16 + x) &&& mask 15 k
def h1 (r : Nat) : Nat := (r / 2 &&& 85) + (r &&& 85)
def h2 (r : Nat) : Nat := (r / 4 &&& 51) + (r &&& 51)
theorem f1 : ∀ (a : Fin 2) (r : Fin 256), (128 * a.val + r.val / 2) &&& 85 = r.val / 2 &&& 85 := by decide +kernel
theorem f2 : ∀ (a : Fin 4) (r : Fin 256), (64 * a.val + r.val / 4) &&& 51 = r.val / 4 &&& 51 := by decide +kernel
theorem f3 : ∀ r : Fin 256, h1 r.val < 256 ∧ h2 (h1 r.val) ≤ 68 ∧ h2 (h1 r.val) % 16 ≤ 4 ∧ (h2 (h1 r.val) / 16 + h2 (h1 r.val)) % 16 = pop 8 r.val ∧ pop 8 r.val ≤ 8 := by decide +kernel
theorem s1_succ (k q r : Nat) (hr : r < 256) : s1 (k + 1) (256 * q + r) = 256 * s1 k q + h1 r := by
  have e : (256 * q + r) / 2 = 256 * (q / 2) + (128 * (q % 2) + r / 2) := by omega
  have g : (128 * (q % 2) + r / 2) &&& 85 = r / 2 &&& 85 := f1 ⟨q % 2, by omega⟩ ⟨r, hr⟩
  unfold s1 h1
  rw [e, mask_succ, and_join _ _ _ _ (by omega), and_join _ _ _ _ hr, show 85 % 256 = 85 from rfl, g]
  omega
theorem s2_succ (k q r : Nat) (hr : r < 256) : s2 (k + 1) (256 * q + r) = 256 * s2 k q + h2 r := by
  have e : (256 * q + r) / 4 = 256 * (q / 4) + (64 * (q % 4) + r / 4) := by omega
  have g : (64 * (q % 4) + r / 4) &&& 51 = r / 4 &&& 51 := f2 ⟨q % 4, by omega⟩ ⟨r, hr⟩
  unfold s2 h2
  rw [e, mask_succ, and_join _ _ _ _ (by omega), and_join _ _ _ _ hr, show 51 % 256 = 51 from rfl, g]
  omega
theorem s3_succ (k q r : Nat) (hr : r ≤ 68) (hq : q % 16 ≤ 4) : s3 (k + 1) (256 * q + r) = 256 * s3 k q + (r / 16 + r) % 16 := by
  have e : (256 * q + r) / 16 + (256 * q + r) = 256 * (q / 16 + q) + (16 * (q % 16) + (r / 16 + r)) := by omega
  unfold s3
  rw [e, mask_succ, and_join _ _ _ _ (by omega), show 15 % 256 = 2 ^ 4 - 1 from rfl, Nat.and_two_pow_sub_one_eq_mod]
  omega
theorem s12_low : ∀ (k x : Nat), s2 k (s1 k x) % 16 ≤ 4
  | 0, x => by simp [s2, mask]
  | k + 1, x => by
    obtain ⟨q, r, hr, rfl⟩ : ∃ q r, r < 256 ∧ x = 256 * q + r := ⟨x / 256, x % 256, Nat.mod_lt _ (by decide), by omega⟩
    obtain ⟨g1, g2, g3, _⟩ := f3 ⟨r, hr⟩
    rw [s1_succ k q r hr, s2_succ k _ _ g1]
    have : h2 (h1 r) % 16 ≤ 4 := g3
    omega
/-- the three steps -/
def s123 (k x : Nat) : Nat := s3 k (s2 k (s1 k x))
theorem s123_succ (k q r : Nat) (hr : r < 256) : s123 (k + 1) (256 * q + r) = 256 * s123 k q + pop 8 r := by
  obtain ⟨g1, g2, g3, g4, _⟩ := f3 ⟨r, hr⟩
  unfold s123
  rw [s1_succ k q r hr, s2_succ k _ _ g1, s3_succ k _ _ g2 (s12_low k q)]
  have : (h2 (h1 r) / 16 + h2 (h1 r)) % 16 = pop 8 r := g4
  rw [this]
theorem s123_at (k x : Nat) : s123 (k + 1) x = 256 * s123 k (x / 256) + pop 8 (x % 256) := by
  have e : x = 256 * (x / 256) + x % 256 := by omega
  have := s123_succ k (x / 256) (x % 256) (Nat.mod_lt _ (by decide))
  rw [← e] at this
  exact this
theorem pop8_le (r : Nat) : pop 8 (r % 256) ≤ 8 := (f3 ⟨r % 256, Nat.mod_lt _ (by decide)⟩).2.2.2.2
theorem pop_eight (k x : Nat) : pop (8 + k) x = pop 8 (x % 256) + pop k (x / 256) := by
  rw [pop_add, ← pop_mod 8 x]
theorem s123_sum (x : Nat) (hx : x < 18446744073709551616) : ∃ p0 p1 p2 p3 p4 p5 p6 p7 : Nat, p0 ≤ 8 ∧ p1 ≤ 8 ∧ p2 ≤ 8 ∧ p3 ≤ 8 ∧ p4 ≤ 8 ∧ p5 ≤ 8 ∧ p6 ≤ 8 ∧ p7 ≤ 8 ∧
    s123 8 x = 256 * (256 * (256 * (256 * (256 * (256 * (256 * p7 + p6) + p5) + p4) + p3) + p2) + p1) + p0 ∧ pop 64 x = p0 + (p1 + (p2 + (p3 + (p4 + (p5 + (p6 + p7)))))) := by
  have z : ∀ y, s123 0 y = 0 := fun y => by simp [s123, s3, mask]
  refine ⟨pop 8 (x % 256), pop 8 (x / 256 % 256), pop 8 (x / 256 / 256 % 256), pop 8 (x / 256 / 256 / 256 % 256), pop 8 (x / 256 / 256 / 256 / 256 % 256), pop 8 (x / 256 / 256 / 256 / 256 / 256 % 256), pop 8 (x / 256 / 256 / 256 / 256 / 256 / 256 % 256), pop 8 (x / 256 / 256 / 256 / 256 / 256 / 256 / 256 % 256), pop8_le _, pop8_le _, pop8_le _, pop8_le _, pop8_le _, pop8_le _, pop8_le _, pop8_le _, ?_, ?_⟩
  · rw [s123_at 7, s123_at 6, s123_at 5, s123_at 4, s123_at 3, s123_at 2, s123_at 1, s123_at 0, z, Nat.mul_zero, Nat.zero_add]
  · rw [show 64 = 8 + (8 + (8 + (8 + (8 + (8 + (8 + (8 + 0))))))) from rfl, pop_eight, pop_eight, pop_eight, pop_eight, pop_eight, pop_eight, pop_eight, pop_eight, pop, Nat.add_zero]
theorem mask85 : mask 85 8 = 6148914691236517205 := by decide +kernel
theorem mask51 : mask 51 8 = 3689348814741910323 := by decide +kernel
theorem mask15 : mask 15 8 = 1085102592571150095 := by decide +kernel
/-- the steps one by one, as the library has them -/
theorem pop_steps (x : Nat) (hx : x < 18446744073709551616) : ∃ a b y c d z e u v s : Nat,
    x / 2 &&& 6148914691236517205 = a ∧ x &&& 6148914691236517205 = b ∧ a + b = y ∧ y < 18446744073709551616 ∧
    y / 4 &&& 3689348814741910323 = c ∧ y &&& 3689348814741910323 = d ∧ c + d = z ∧ z < 18446744073709551616 ∧ z / 16 + z < 18446744073709551616 ∧
    (z / 16 + z) &&& 1085102592571150095 = e ∧ e + e / 256 = u ∧ u + u / 65536 = v ∧ v + v / 4294967296 = s ∧ e < 1000000000000000000 ∧ u < 2000000000000000000 ∧ v < 3000000000000000000 ∧ s < 4000000000000000000 ∧ s % 128 = pop 64 x := by
  obtain ⟨p0, p1, p2, p3, p4, p5, p6, p7, b0, b1, b2, b3, b4, b5, b6, b7, hs, hp⟩ := s123_sum x hx
  have m1 : ∀ t : Nat, t &&& 6148914691236517205 ≤ 6148914691236517205 := fun t => Nat.and_le_right
  have m2 : ∀ t : Nat, t &&& 3689348814741910323 ≤ 3689348814741910323 := fun t => Nat.and_le_right
  unfold s123 s3 at hs
  rw [mask15] at hs
  obtain ⟨y, hy⟩ : ∃ y, s1 8 x = y := ⟨_, rfl⟩
  obtain ⟨z, hz⟩ : ∃ z, s2 8 y = z := ⟨_, rfl⟩
  rw [hy, hz] at hs
  unfold s1 at hy
  unfold s2 at hz
  rw [mask85] at hy
  rw [mask51] at hz
  obtain ⟨e, he⟩ : ∃ e, (z / 16 + z) &&& 1085102592571150095 = e := ⟨_, rfl⟩
  rw [he] at hs
  have g1 := m1 (x / 2)
  have g2 := m1 x
  have g3 := m2 (y / 4)
  have g4 := m2 y
  obtain ⟨E6, k6⟩ : ∃ E, E = 256 * p7 + p6 := ⟨_, rfl⟩
  rw [← k6] at hs
  obtain ⟨E5, k5⟩ : ∃ E, E = 256 * E6 + p5 := ⟨_, rfl⟩
  rw [← k5] at hs
  obtain ⟨E4, k4⟩ : ∃ E, E = 256 * E5 + p4 := ⟨_, rfl⟩
  rw [← k4] at hs
  obtain ⟨E3, k3⟩ : ∃ E, E = 256 * E4 + p3 := ⟨_, rfl⟩
  rw [← k3] at hs
  obtain ⟨E2, k2⟩ : ∃ E, E = 256 * E3 + p2 := ⟨_, rfl⟩
  rw [← k2] at hs
  obtain ⟨E1, k1⟩ : ∃ E, E = 256 * E2 + p1 := ⟨_, rfl⟩
  rw [← k1] at hs
  have d1 : e / 256 = E1 := by clear k1 k2 k3 k4 k5 k6 hy hz he hp; omega
  have v0 : e = 65536 * E2 + (256 * p1 + p0) := by rw [hs, k1]; omega
  have v1 : E1 = 65536 * E3 + (256 * p2 + p1) := by rw [k1, k2]; omega
  have v2 : E2 = 65536 * E4 + (256 * p3 + p2) := by rw [k2, k3]; omega
  have v3 : E3 = 65536 * E5 + (256 * p4 + p3) := by rw [k3, k4]; omega
  have v4 : E4 = 65536 * E6 + (256 * p5 + p4) := by rw [k4, k5]; omega
  have v5 : E5 = 65536 * p7 + (256 * p6 + p5) := by rw [k5, k6]; omega
  have d2 : (e + E1) / 65536 = E2 + E3 := by clear k1 k2 k3 k4 k5 k6 hy hz he hp hs v2 v3 v4 v5 d1 m1 m2 g1 g2 g3 g4; omega
  have w0 : e + E1 + (E2 + E3) = 4294967296 * (E4 + E5 + E6 + p7) + (65536 * (256 * p3 + p2 + (256 * p4 + p3) + (256 * p5 + p4) + (256 * p6 + p5)) + (256 * p1 + p0 + (256 * p2 + p1) + (256 * p3 + p2) + (256 * p4 + p3))) := by
    rw [v0, v1, v2, v3, v4, v5]; clear k1 k2 k3 k4 k5 k6 hy hz he hp hs v0 v1 v2 v3 v4 v5 d1 d2 m1 m2 g1 g2 g3 g4; omega
  have d3 : (e + E1 + (E2 + E3)) / 4294967296 = E4 + E5 + E6 + p7 := by rw [w0]; clear w0 k1 k2 k3 k4 k5 k6 hy hz he hp hs v0 v1 v2 v3 v4 v5 d1 d2 m1 m2 g1 g2 g3 g4; omega
  have q6 : E6 ≤ 2056 := by omega
  have q5 : E5 ≤ 526344 := by omega
  have q4 : E4 ≤ 134744072 := by omega
  have q3 : E3 ≤ 34494482440 := by omega
  have q2 : E2 ≤ 8830587504648 := by omega
  have q1 : E1 ≤ 2260630401189896 := by omega
  have q0 : e ≤ 578721382704613384 := by clear v0 v1 v2 v3 v4 v5 w0 d1 d2 d3; omega
  refine ⟨_, _, y, _, _, z, e, e + E1, e + E1 + (E2 + E3), e + E1 + (E2 + E3) + (E4 + E5 + E6 + p7), rfl, rfl, hy, by omega, rfl, rfl, hz, by omega, by omega, he, by rw [d1], by rw [d2], by rw [d3], by omega, by omega, by omega, by omega, ?_⟩
  have t0 : e + E1 + (E2 + E3) + (E4 + E5 + E6 + p7) = 128 * (2 * (E1 + E2 + E3 + E4 + E5 + E6 + p7)) + (p0 + (p1 + (p2 + (p3 + (p4 + (p5 + (p6 + p7))))))) := by
    rw [hs, k1, k2, k3, k4, k5, k6]; clear v0 v1 v2 v3 v4 v5 w0 d1 d2 d3 k1 k2 k3 k4 k5 k6 hy hz he hp hs q0 q1 q2 q3 q4 q5 q6 m1 m2 g1 g2 g3 g4; omega
  rw [hp, t0, Nat.mul_add_mod]
  exact Nat.mod_eq_of_lt (by omega)
end Go.Proofs.YtmeknghlhfpjnaaDoor.Bt
