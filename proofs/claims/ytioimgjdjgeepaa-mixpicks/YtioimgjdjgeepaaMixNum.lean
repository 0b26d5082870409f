/-
  Plain facts on numbers of 64 bits: a number with itself, moved down, laid over it, can be undone; an odd factor can be undone; what a seed makes of a number, and back. No conditions.
-/
import Derived.Below
import Derived.Lib.Hide
namespace Go.Proofs.Ytioimgjdjgeepaa.Mx

/-- how many numbers there are -/
def M : Nat := 18446744073709551616
theorem M_eq : M = 18446744073709551616 := rfl
theorem M_pow : M = 2 ^ 64 := by decide
theorem M_pos : 0 < M := by decide

/-- with itself, moved down, laid over it -/
def lay (n d : Nat) : Nat := n ^^^ n / 2 ^ d
theorem lay_lt {n : Nat} (h : n < M) (d : Nat) : lay n d < M := by
  have h1 : n / 2 ^ d ≤ n := Nat.div_le_self _ _
  rw [M_pow] at *
  exact Nat.xor_lt_two_pow h (by omega)
theorem xor_div (a b d : Nat) : (a ^^^ b) / 2 ^ d = a / 2 ^ d ^^^ b / 2 ^ d := by
  rw [← Nat.shiftRight_eq_div_pow, ← Nat.shiftRight_eq_div_pow, ← Nat.shiftRight_eq_div_pow, Nat.shiftRight_xor_distrib]
theorem lay_xor (a b d : Nat) : lay (a ^^^ b) d = lay a d ^^^ lay b d := by
  unfold lay
  rw [xor_div, Nat.xor_assoc, Nat.xor_assoc]
  congr 1
  rw [← Nat.xor_assoc, ← Nat.xor_assoc, Nat.xor_comm b]
theorem eq_of_xor {a b : Nat} (h : a ^^^ b = 0) : a = b := by
  have e : a ^^^ b ^^^ b = 0 ^^^ b := by rw [h]
  rwa [Nat.xor_assoc, Nat.xor_self, Nat.xor_zero, Nat.zero_xor] at e
theorem lay_zero {x d : Nat} (hd : 1 ≤ d) (h : lay x d = 0) : x = 0 := by
  have e : x = x / 2 ^ d := eq_of_xor h
  have h2 : 2 ≤ 2 ^ d := Nat.le_trans (by decide) (Nat.pow_le_pow_right (n := 2) (by decide) hd)
  rcases Nat.eq_zero_or_pos x with h0 | h0
  · exact h0
  · have := Nat.div_lt_self h0 (by omega : 1 < 2 ^ d)
    omega
theorem lay_inj {a b d : Nat} (hd : 1 ≤ d) (h : lay a d = lay b d) : a = b := by
  apply eq_of_xor
  apply lay_zero hd
  rw [lay_xor, h, Nat.xor_self]

/-- what the first rounds of lifting make -/
def lifts (n d : Nat) : Nat → Nat
  | 0 => n
  | k + 1 => lifts n d k ^^^ n / 2 ^ (d * (k + 1))
theorem lifts_lt {n : Nat} (h : n < M) (d k : Nat) : lifts n d k < M := by
  induction k with
  | zero => exact h
  | succ k ih =>
    have h1 : n / 2 ^ (d * (k + 1)) ≤ n := Nat.div_le_self _ _
    rw [M_pow] at *
    exact Nat.xor_lt_two_pow ih (by omega)
theorem lay_lifts (n d k : Nat) : lay (lifts n d k) d = n ^^^ n / 2 ^ (d * (k + 1)) := by
  induction k with
  | zero => unfold lifts lay; rw [Nat.zero_add, Nat.mul_one]
  | succ k ih =>
    unfold lifts
    rw [lay_xor, ih]
    unfold lay
    rw [Nat.div_div_eq_div_mul, ← Nat.pow_add, ← Nat.mul_succ, Nat.xor_assoc]
    congr 1
    rw [← Nat.xor_assoc, Nat.xor_self, Nat.zero_xor]
theorem lifts_end {n d k : Nat} (h : n / 2 ^ (d * (k + 1)) = 0) : lay (lifts n d k) d = n := by
  rw [lay_lifts, h, Nat.xor_zero]
def lift (n d : Nat) : Nat := lifts n d 64
theorem lay_lift {n d : Nat} (h : n < M) (hd : 1 ≤ d) : lay (lift n d) d = n := by
  apply lifts_end
  apply Nat.div_eq_of_lt
  refine Nat.lt_of_lt_of_le h ?_
  rw [M_pow]
  exact Nat.pow_le_pow_right (by decide) (by omega)
theorem lift_lt {n : Nat} (h : n < M) (d : Nat) : lift n d < M := lifts_lt h d 64
theorem lifts_is {n d k : Nat} (hn : n < M) (hd : 1 ≤ d) (h : n / 2 ^ (d * (k + 1)) = 0) : lifts n d k = lift n d :=
  lay_inj hd (by rw [lifts_end h, lay_lift hn hd])

/-- the factors -/
def stride : Nat := 11400714819323198485
def fst : Nat := 13787848793156543929
def snd : Nat := 10723151780598845931
def ufst : Nat := 10871156337175269513
def usnd : Nat := 3573116690164977347
theorem fst_one : fst * ufst % M = 1 := by decide +kernel
theorem snd_one : snd * usnd % M = 1 := by decide +kernel

/-- WHAT A SEED MAKES -/
def of (s n : Nat) : Nat := lay (lay (lay ((n + stride * s) % M) 30 * fst % M) 27 * snd % M) 31
theorem of_lt (s n : Nat) : of s n < M := lay_lt (Nat.mod_lt _ M_pos) 31
/-- AND BACK -/
def back (s x : Nat) : Nat := (lift (lift (lift x 31 * usnd % M) 27 * ufst % M) 30 + (M - stride * s % M)) % M
theorem back_lt (s x : Nat) : back s x < M := Nat.mod_lt _ M_pos

theorem mul_undo {a f u : Nat} (ha : a < M) (h : f * u % M = 1) : a * u % M * f % M = a := by
  rw [Nat.mod_mul_mod, Nat.mul_assoc, Nat.mul_comm u, Nat.mul_mod, h, Nat.mul_one, Nat.mod_mod, Nat.mod_eq_of_lt ha]
theorem add_undo {a t : Nat} (ha : a < M) : ((a + (M - t % M)) % M + t) % M = a := by
  have h1 := Nat.mod_lt t M_pos
  rw [Nat.add_mod, Nat.mod_mod, ← Nat.add_mod, Nat.add_mod _ t, ← Nat.add_mod, Nat.add_assoc]
  have h2 : (M - t % M + t) % M = 0 := by
    have h3 := Nat.div_add_mod t M
    rw [show M - t % M + t = M * (1 + t / M) by rw [Nat.mul_add, Nat.mul_one]; omega]
    exact Nat.mul_mod_right _ _
  rw [Nat.add_mod, h2, Nat.add_zero, Nat.mod_mod, Nat.mod_eq_of_lt ha]

theorem of_back {s x : Nat} (hx : x < M) : of s (back s x) = x := by
  unfold of back
  rw [add_undo (lift_lt (Nat.mod_lt _ M_pos) 30), lay_lift (Nat.mod_lt _ M_pos) (by decide)]
  rw [mul_undo (lift_lt (Nat.mod_lt _ M_pos) 27) fst_one, lay_lift (Nat.mod_lt _ M_pos) (by decide)]
  rw [mul_undo (lift_lt hx 31) snd_one, lay_lift hx (by decide)]

theorem mul_inj {a b f u : Nat} (ha : a < M) (hb : b < M) (h : f * u % M = 1) (e : a * f % M = b * f % M) : a = b := by
  have e1 : ∀ c, c < M → c * f % M * u % M = c := by
    intro c hc
    rw [Nat.mod_mul_mod, Nat.mul_assoc, Nat.mul_mod, h, Nat.mul_one, Nat.mod_mod, Nat.mod_eq_of_lt hc]
  rw [← e1 a ha, ← e1 b hb, e]
theorem add_inj {a b t : Nat} (ha : a < M) (hb : b < M) (e : (a + t) % M = (b + t) % M) : a = b := by
  have e1 : ∀ c, c < M → ((c + t) % M + (M - t % M)) % M = c := by
    intro c hc
    have h1 := Nat.mod_lt t M_pos
    have h3 := Nat.div_add_mod t M
    rw [Nat.mod_add_mod, show c + t + (M - t % M) = c + M * (1 + t / M) by rw [Nat.mul_add, Nat.mul_one]; omega, Nat.add_mul_mod_self_left, Nat.mod_eq_of_lt hc]
  rw [← e1 a ha, ← e1 b hb, e]
theorem of_inj {s a b : Nat} (ha : a < M) (hb : b < M) (e : of s a = of s b) : a = b := by
  unfold of at e
  have e1 := lay_inj (by decide) e
  have e2 := mul_inj (lay_lt (Nat.mod_lt _ M_pos) 27) (lay_lt (Nat.mod_lt _ M_pos) 27) snd_one e1
  have e3 := lay_inj (by decide) e2
  have e4 := mul_inj (lay_lt (Nat.mod_lt _ M_pos) 30) (lay_lt (Nat.mod_lt _ M_pos) 30) fst_one e3
  have e5 := lay_inj (by decide) e4
  exact add_inj ha hb e5
theorem back_of {s n : Nat} (hn : n < M) : back s (of s n) = n := of_inj (back_lt s _) hn (of_back (of_lt s n))

/-- k as a number of 64 bits, added to the seed -/
def seedAt (s : Nat) (k : Int) : Nat := (((s : Int) + k) % 18446744073709551616).toNat
theorem seedAt_lt (s : Nat) (k : Int) : seedAt s k < M := by unfold seedAt M; omega
/-- the place that is picked -/
def pick (s n : Nat) (k most : Int) : Int := if most < 1 then 0 else ((of (seedAt s k) n % most.toNat : Nat) : Int)
end Go.Proofs.Ytioimgjdjgeepaa.Mx
