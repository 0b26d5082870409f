/-
  Elder texts, one behind the other: CountNum, PnCount, PnPlan, PnPlan2, PnPlan3, PnPlan4. No conditions.
-/
import Derived.WalkKit
import Derived.Test.YtapklelkcicjlaaGreatDoorChecked
import Derived.WalkLawsBesides
import Derived.Lib.Hide
import Derived.Below
import Derived.BigQuiet
import Derived.Laws.Tables
import Derived.Laws.ResultCell
import Derived.Laws.Rows
/-! Plain facts on whole numbers that end at their bounds (no program in sight): 'sat n' is n, kept between the least and the greatest int. -/
namespace Go.Proofs.YtapklelkcicjlaaGreatDoor.Num
set_option maxRecDepth 100000
open Go.RowKit

def hiI : Int := 9223372036854775807
def loI : Int := -9223372036854775808
/-- what ends at the bounds -/
def sat (n : Int) : Int := if hiI < n then hiI else if n < loI then loI else n

theorem sat_in (n : Int) (h1 : -9223372036854775808 ≤ n) (h2 : n ≤ 9223372036854775807) : sat n = n := by
  unfold sat hiI loI; split
  · omega
  · split
    · omega
    · rfl
theorem sat_hi (n : Int) (h : 9223372036854775807 < n) : sat n = 9223372036854775807 := by
  unfold sat hiI; rw [if_pos h]
theorem sat_lo (n : Int) (h : n < -9223372036854775808) : sat n = -9223372036854775808 := by
  unfold sat hiI loI; rw [if_neg (by omega), if_pos h]
theorem sat_bd (n : Int) : -9223372036854775808 ≤ sat n ∧ sat n ≤ 9223372036854775807 := by
  unfold sat hiI loI; split
  · omega
  · split <;> omega

/-- a product of two ints, wrapped: the quotient by the second tells whether it was wrapped -/
theorem mul_quot (a b p q : Int) (hb : b ≠ 0) (hb1 : -9223372036854775808 ≤ b) (hb2 : b ≤ 9223372036854775807)
    (hp : p = wrap64 (a * b)) (hq : q = p.tdiv b) (hqa : q = a) : p = a * b := by
  have e := Int.mul_tdiv_add_tmod p b
  rw [← hq, hqa] at e
  have hr : (p.tmod b).natAbs < b.natAbs := by
    rw [Int.natAbs_tmod]; exact Nat.mod_lt _ (by omega)
  have hm : b * a = a * b := Int.mul_comm _ _
  rw [hm] at e
  unfold wrap64 at hp
  generalize a * b = x at *
  generalize p.tmod b = r at *
  omega

theorem mul_lt_zero {a b : Int} (ha : a ≠ 0) (hb : b ≠ 0) : (a * b < 0) ↔ ¬((a < 0) ↔ (b < 0)) := by
  rcases Int.lt_or_gt_of_ne ha with h1 | h1 <;> rcases Int.lt_or_gt_of_ne hb with h2 | h2
  · have := Int.mul_pos_of_neg_of_neg h1 h2
    constructor
    · intro h; omega
    · intro h; exact absurd ⟨fun _ => h2, fun _ => h1⟩ h
  · have := Int.mul_neg_of_neg_of_pos h1 h2
    constructor
    · intro _ h; have := h.1 h1; omega
    · intro _; exact this
  · have := Int.mul_neg_of_pos_of_neg h1 h2
    constructor
    · intro _ h; have := h.2 h2; omega
    · intro _; exact this
  · have := Int.mul_pos h1 h2
    constructor
    · intro h; omega
    · intro h; exact absurd ⟨fun h => by omega, fun h => by omega⟩ h
theorem mul_ne_zero {a b : Int} (ha : a ≠ 0) (hb : b ≠ 0) : a * b ≠ 0 := fun h => (Int.mul_eq_zero.1 h).elim ha hb

def clampI (n lo hi : Int) : Int := if n < lo then lo else if hi < n then hi else n
theorem clampI_lo {n lo hi : Int} (h : n < lo) : clampI n lo hi = lo := by unfold clampI; rw [if_pos h]
theorem clampI_hi {n lo hi : Int} (h1 : ¬ n < lo) (h2 : hi < n) : clampI n lo hi = hi := by unfold clampI; rw [if_neg h1, if_pos h2]
theorem clampI_in {n lo hi : Int} (h1 : ¬ n < lo) (h2 : ¬ hi < n) : clampI n lo hi = n := by unfold clampI; rw [if_neg h1, if_neg h2]
/-- how great a number is, without its sign -/
def siz (n : Int) : Int := if n < 0 then -n else n
theorem siz_neg {n : Int} (h : n < 0) : siz n = -n := by unfold siz; rw [if_pos h]
theorem siz_pos {n : Int} (h : ¬ n < 0) : siz n = n := by unfold siz; rw [if_neg h]
theorem siz_bd {n : Int} (h1 : -9223372036854775808 ≤ n) (h2 : n ≤ 9223372036854775807) : 0 ≤ siz n ∧ siz n ≤ 9223372036854775808 := by
  unfold siz; split <;> omega
/-- two halves, with a sign -/
def sgn (high low : Int) (minus : Bool) : Int := if minus then sat (-(high * 18446744073709551616 + low)) else sat (high * 18446744073709551616 + low)


theorem sgn_f (high low : Int) : sgn high low false = sat (high * 18446744073709551616 + low) := by unfold sgn; rw [if_neg (by simp)]
theorem sgn_t (high low : Int) : sgn high low true = sat (-(high * 18446744073709551616 + low)) := by unfold sgn; rw [if_pos rfl]
theorem sat_congr {a b : Int} (h : a = b) : sat a = sat b := by rw [h]

theorem tdiv_bd (p b : Int) (h1 : -9223372036854775808 ≤ p) (h2 : p ≤ 9223372036854775807) (b1 : b ≠ 0) (hb : b ≠ -1) :
    -9223372036854775808 ≤ p.tdiv b ∧ p.tdiv b ≤ 9223372036854775807 := by
  have e := Int.mul_tdiv_add_tmod p b
  have hn : (p.tdiv b).natAbs = p.natAbs / b.natAbs := Int.natAbs_tdiv p b
  by_cases hb1 : b = 1
  · subst hb1; rw [Int.tdiv_one]; omega
  · have : p.natAbs / b.natAbs ≤ p.natAbs / 2 := Nat.div_le_div_left (by omega) (by omega)
    omega

/-- how many times, at least -/
def upN (n d : Int) : Int := if n < 1 ∨ d < 1 then 0 else (n - 1) / d + 1
theorem upN_0 {n d : Int} (h : n < 1 ∨ d < 1) : upN n d = 0 := by unfold upN; rw [if_pos h]
theorem upN_1 {n d : Int} (h1 : ¬ n < 1) (h2 : ¬ d < 1) : upN n d = (n - 1) / d + 1 := by unfold upN; rw [if_neg (by omega)]
theorem up_ex {n d : Int} (h2 : 1 ≤ d) (h : ¬ n / d * d < n) : (n - 1) / d + 1 = n / d := by
  have e1 := Int.ediv_mul_le n (b := d) (by omega)
  have e : n = n / d * d := by omega
  have : (n - 1) / d = n / d - 1 := by
    rw [Int.ediv_eq_iff_of_pos (by omega)]
    rw [Int.sub_mul]; omega
  omega
theorem up_more {n d : Int} (h2 : 1 ≤ d) (h : n / d * d < n) : (n - 1) / d = n / d := by
  have h3 := Int.lt_ediv_add_one_mul_self n (b := d) (by omega)
  rw [Int.ediv_eq_iff_of_pos (by omega)]
  rw [Int.add_mul] at h3
  omega
/-- what is left -/
def restN (n d : Int) : Int := if d < 1 then 0 else n % d
theorem restN_0 {n d : Int} (h : d < 1) : restN n d = 0 := by unfold restN; rw [if_pos h]
theorem restN_1 {n d : Int} (h : ¬ d < 1) : restN n d = n % d := by unfold restN; rw [if_neg h]
theorem tmod_neg {n d : Int} (h : 1 ≤ d) (hn : n < 0) : (n.tmod d ≤ 0 ∧ -d < n.tmod d) ∧ (n.tmod d < 0 → n.tmod d + d = n % d) ∧ (¬ n.tmod d < 0 → n.tmod d = n % d) := by
  have e1 := Int.mul_tdiv_add_tmod n d
  have e2 := Int.mul_ediv_add_emod n d
  have h1 := Int.emod_nonneg n (b := d) (by omega)
  have h2 := Int.emod_lt_of_pos n (b := d) (by omega)
  have h3 : (n.tmod d).natAbs < d.natAbs := by rw [Int.natAbs_tmod]; exact Nat.mod_lt _ (by omega)
  have h4 : n.tmod d ≤ 0 := by
    have : (-n).tmod d = - n.tmod d := Int.neg_tmod n d
    have := Int.tmod_nonneg (a := -n) d (by omega)
    omega
  by_cases hd : d ∣ n
  · have z1 := Int.tmod_eq_zero_of_dvd hd
    have z2 := Int.emod_eq_zero_of_dvd hd
    exact ⟨⟨h4, by omega⟩, fun h => by omega, fun _ => by omega⟩
  · have h5 := Int.tmod_eq_emod (a := n) (b := d)
    rw [if_neg (by simp [hd]; omega)] at h5
    exact ⟨⟨h4, by omega⟩, fun _ => by omega, fun h => by omega⟩
def nth (zs : List Int) (i : Nat) : Int := zs.getD i 0
/-- the sum of the first ones, one by one, each ending at the bounds -/
def sumTo (zs : List Int) : Nat → Int
  | 0 => 0
  | k + 1 => sat (sumTo zs k + nth zs k)
theorem sumTo_bd (zs : List Int) (k : Nat) : -9223372036854775808 ≤ sumTo zs k ∧ sumTo zs k ≤ 9223372036854775807 := by
  cases k with
  | zero => unfold sumTo; omega
  | succ k => unfold sumTo; exact sat_bd _
end Go.Proofs.YtapklelkcicjlaaGreatDoor.Num

/-! Contracts of count.Add, count.Up and of the reference's up: what each call returns, and that nothing turns. No conditions but that the numbers are ints. -/
namespace Go.Proofs.YtapklelkcicjlaaGreatDoor.Pn
set_option maxRecDepth 100000
open Go.RowKit Num

theorem ret_int {k : IntKind} {a b : Int} (h : a = b) : Ending.returned (.int k a) = .returned (.int k b) := by rw [h]
theorem ret_bool {a b : Bool} (h : a = b) : Ending.returned (.bool a) = .returned (.bool b) := by rw [h]

/-- how many groups of d, of n things from 1 on -/
def ups (n d : Int) : Int := (n - 1) / d + 1

set_option maxHeartbeats 400000 in
theorem up_any (n d : Int) (w : World) (h1 : 1 ≤ n) (h2 : n ≤ 9223372036854775807) (h0 : 1 ≤ d) (h3 : d ≤ 9223372036854775807) :
    Calls Tryz.prog 124 #[.int .i64 n, .int .i64 d] w fun e w' => e = .returned (.int .i64 (ups n d)) ∧ w = w' := by
  have q1 : 0 ≤ (n - 1) / d := Int.ediv_nonneg (by omega) (by omega)
  have q2 : (n - 1) / d ≤ n - 1 := Int.ediv_le_self _ (by omega)
  have c1 : ¬ n < 1 := by omega
  have c2 : ¬ d < 1 := by omega
  have H := Lib.hid (show ups n d = (n - 1) / d + 1 from rfl)
  go_enter Tryz.func124, Tryz.ntmps124
  go_wp2
  go_ret
  exact ⟨ret_int (by rw [H.out]), rfl⟩

/-- the reference's: counted -/
theorem ups_round {n d : Int} {k : Nat} (h1 : 1 ≤ n) (h0 : 1 ≤ d) (hk : (k : Int) ≤ ups n d) : ((k : Int) * d < n ↔ (k : Int) < ups n d) ∧ 0 ≤ (k : Int) * d ∧ (k : Int) * d < n + d := by
  unfold ups at *
  have q1 : 0 ≤ (n - 1) / d := Int.ediv_nonneg (by omega) (by omega)
  have q3 : (n - 1) / d * d ≤ n - 1 := Int.ediv_mul_le (n - 1) (by omega)
  have q4 := Int.lt_ediv_add_one_mul_self (n - 1) (b := d) (by omega)
  refine ⟨⟨fun h => ?_, fun h => ?_⟩, Int.mul_nonneg (by omega) (by omega), ?_⟩
  · by_cases h' : (k : Int) < (n - 1) / d + 1
    · exact h'
    · exact absurd (Int.mul_le_mul_of_nonneg_right (show (n - 1) / d + 1 ≤ (k : Int) by omega) (show 0 ≤ d by omega)) (by omega)
  · have := Int.mul_le_mul_of_nonneg_right (show (k : Int) ≤ (n - 1) / d by omega) (show 0 ≤ d by omega)
    omega
  · have := Int.mul_le_mul_of_nonneg_right hk (show 0 ≤ d by omega)
    rw [Int.add_mul] at this
    omega
set_option maxHeartbeats 400000 in
theorem rup_any (n d : Int) (w : World) (h1 : 1 ≤ n) (h2 : n ≤ 1000000) (h0 : 1 ≤ d) (h3 : d ≤ 1000000) :
    Calls Tryz.prog 87 #[.int .i64 n, .int .i64 d] w fun e w' => e = .returned (.int .i64 (ups n d)) ∧ w = w' := by
  have q1 : 0 ≤ (n - 1) / d := Int.ediv_nonneg (by omega) (by omega)
  have q2 : (n - 1) / d ≤ n - 1 := Int.ediv_le_self _ (by omega)
  have hu : 1 ≤ ups n d := by unfold ups; omega
  have hu2 : ups n d ≤ n := by unfold ups; omega
  have HR := Lib.hid (fun (k : Nat) hk => ups_round (n := n) (d := d) (k := k) h1 h0 hk)
  go_enter Tryz.func87, Tryz.ntmps87
  go_wp2
  go_loop [5] (fun i => ∃ k : Nat, (k : Int) ≤ ups n d ∧ i = .int .i64 k) (fun i => (ups n d).toNat - (intOf i).toNat)
  case atStart => exact ⟨0, by omega, rfl⟩
  case round =>
    obtain ⟨k, hk, rfl⟩ := hrel
    obtain ⟨r1, r2, r3⟩ := HR.out k hk
    by_cases hlt : (k : Int) < ups n d
    · have hlt2 := r1.2 hlt
      clear r1
      go_wp2
      go_round
      case rel => exact ⟨k + 1, by omega, by go_num⟩
      case measure => simp [intOf]; omega
    · have hlt2 : ¬ (k : Int) * d < n := fun h => hlt (r1.1 h)
      have this := Lib.hid (show (k : Int) = ups n d by omega)
      clear r1
      go_wp2
      go_ret
      exact ⟨ret_int this.out, rfl⟩
end Go.Proofs.YtapklelkcicjlaaGreatDoor.Pn

/-! Contracts of package plan, one by one: what each call answers, and that no elder memory turns. No conditions but bounds of the numbers. -/
namespace Go.Proofs.YtapklelkcicjlaaGreatDoor.Pn
set_option maxRecDepth 100000
open Go.RowKit Num
set_option linter.unusedVariables false

theorem balloc (w : World) (o : Obj) : Below w.heap.size w (w.alloc o) := (Below.refl _ _).alloc (Nat.le_refl _) o
theorem bthen {w a b : World} (h : Below w.heap.size w a) (k : Below a.heap.size a b) : Below w.heap.size w b := h.trans (k.mono h.size)

/-- a plan: its thirteen numbers -/
structure Pl where
  a0 : Int
  a1 : Int
  a2 : Int
  a3 : Int
  a4 : Int
  a5 : Int
  a6 : Int
  a7 : Int
  a8 : Int
  a9 : Int
  a10 : Int
  a11 : Int
  a12 : Int

/-- settings: six numbers, and what is any -/
structure Cf where
  c0 : Int
  c1 : Int
  c2 : Int
  c3 : Int
  c4 : Int
  c5 : Value
  c6 : Value
  c7 : Value
  c8 : Value
  c9 : Int

/-- which may be -/
def May (c : Cf) : Prop := (1 ≤ c.c0 ∧ c.c0 ≤ 512) ∧ (1 ≤ c.c1 ∧ c.c1 ≤ 192) ∧ (1 ≤ c.c2 ∧ c.c2 ≤ 256) ∧ (1 ≤ c.c3 ∧ c.c3 ≤ 4096) ∧ (0 ≤ c.c4 ∧ c.c4 ≤ 1048576) ∧ (0 ≤ c.c9 ∧ c.c9 ≤ 1048576)
theorem agg_eq {p : Pl} {x0 x1 x2 x3 x4 x5 x6 x7 x8 x9 x10 x11 x12 : Int} (h0 : x0 = p.a0) (h1 : x1 = p.a1) (h2 : x2 = p.a2) (h3 : x3 = p.a3) (h4 : x4 = p.a4) (h5 : x5 = p.a5) (h6 : x6 = p.a6) (h7 : x7 = p.a7) (h8 : x8 = p.a8) (h9 : x9 = p.a9) (h10 : x10 = p.a10) (h11 : x11 = p.a11) (h12 : x12 = p.a12) : (.agg #[.int .i64 x0, .int .i64 x1, .int .i64 x2, .int .i64 x3, .int .i64 x4, .int .i64 x5, .int .i64 x6, .int .i64 x7, .int .i64 x8, .int .i64 x9, .int .i64 x10, .int .i64 x11, .int .i64 x12] : Value) = (.agg #[.int .i64 p.a0, .int .i64 p.a1, .int .i64 p.a2, .int .i64 p.a3, .int .i64 p.a4, .int .i64 p.a5, .int .i64 p.a6, .int .i64 p.a7, .int .i64 p.a8, .int .i64 p.a9, .int .i64 p.a10, .int .i64 p.a11, .int .i64 p.a12]) := by
  subst_vars; rfl
theorem ret_mv {p : Pl} {x0 x1 x2 x3 x4 x5 x6 x7 x8 x9 x10 x11 x12 : Int} (h0 : x0 = p.a0) (h1 : x1 = p.a1) (h2 : x2 = p.a2) (h3 : x3 = p.a3) (h4 : x4 = p.a4) (h5 : x5 = p.a5) (h6 : x6 = p.a6) (h7 : x7 = p.a7) (h8 : x8 = p.a8) (h9 : x9 = p.a9) (h10 : x10 = p.a10) (h11 : x11 = p.a11) (h12 : x12 = p.a12) : Ending.returned (.agg #[.int .i64 x0, .int .i64 x1, .int .i64 x2, .int .i64 x3, .int .i64 x4, .int .i64 x5, .int .i64 x6, .int .i64 x7, .int .i64 x8, .int .i64 x9, .int .i64 x10, .int .i64 x11, .int .i64 x12]) = .returned (.agg #[.int .i64 p.a0, .int .i64 p.a1, .int .i64 p.a2, .int .i64 p.a3, .int .i64 p.a4, .int .i64 p.a5, .int .i64 p.a6, .int .i64 p.a7, .int .i64 p.a8, .int .i64 p.a9, .int .i64 p.a10, .int .i64 p.a11, .int .i64 p.a12]) := by
  rw [agg_eq h0 h1 h2 h3 h4 h5 h6 h7 h8 h9 h10 h11 h12]
/-- the plan of settings that may be -/
def planOf (b s l : Int) : Pl :=
  { a0 := b, a1 := ups b 8, a2 := ups (ups b 8) 6, a3 := b, a4 := b + 2 * ups (ups b 8) 6, a5 := ups s 3, a6 := 2 + 2 * ups s 3, a7 := l, a8 := 2 + 2 * ups s 3 + l, a9 := s, a10 := 2, a11 := 2 + ups s 3, a12 := 2 + 2 * ups s 3 + l + 2 * s }
/-- no plan -/
def noPlan : Pl := ⟨0, 0, 0, 0, 0, 0, 0, 0, 0, 0, 0, 0, 0⟩

theorem within_yes (n lo hi : Int) (w : World) (h1 : lo ≤ n) (h2 : n ≤ hi) : Calls Tryz.prog 123 #[.int .i64 n, .int .i64 lo, .int .i64 hi] w fun e w' => e = .returned (.bool true) ∧ w = w' := by
  go_enter Tryz.func123, Tryz.ntmps123
  go_wp2
  go_ret
  exact ⟨rfl, rfl⟩
theorem within_no (n lo hi : Int) (w : World) (h : ¬ (lo ≤ n ∧ n ≤ hi)) : Calls Tryz.prog 123 #[.int .i64 n, .int .i64 lo, .int .i64 hi] w fun e w' => e = .returned (.bool false) ∧ w = w' := by
  by_cases h1 : lo ≤ n
  · have h2 : ¬ n ≤ hi := fun x => h ⟨h1, x⟩
    clear h
    go_enter Tryz.func123, Tryz.ntmps123
    go_wp2
    go_ret
    exact ⟨rfl, rfl⟩
  · clear h
    go_enter Tryz.func123, Tryz.ntmps123
    go_wp2
    go_ret
    exact ⟨rfl, rfl⟩
theorem one_yes (n m : Int) (w : World) (h1 : 0 ≤ n) (h2 : n < m) : Calls Tryz.prog 134 #[.int .i64 n, .int .i64 m] w fun e w' => e = .returned (.bool true) ∧ w = w' := by
  go_enter Tryz.func134, Tryz.ntmps134
  go_wp2
  go_ret
  exact ⟨rfl, rfl⟩
theorem one_no (n m : Int) (w : World) (h : ¬ (0 ≤ n ∧ n < m)) : Calls Tryz.prog 134 #[.int .i64 n, .int .i64 m] w fun e w' => e = .returned (.bool false) ∧ w = w' := by
  by_cases h1 : 0 ≤ n
  · have h2 : ¬ n < m := fun x => h ⟨h1, x⟩
    clear h
    go_enter Tryz.func134, Tryz.ntmps134
    go_wp2
    go_ret
    exact ⟨rfl, rfl⟩
  · clear h
    go_enter Tryz.func134, Tryz.ntmps134
    go_wp2
    go_ret
    exact ⟨rfl, rfl⟩

theorem info_plan : (Tryz.prog.info? 41).map (·.size) = some 13 := by kernel_rfl
theorem info_map : (Tryz.prog.info? 45).map (·.size) = some 13 := by kernel_rfl
theorem info_chart : (Tryz.prog.info? 43).map (·.size) = some 13 := by kernel_rfl
theorem info_conf : (Tryz.prog.info? 77).map (·.size) = some 10 := by kernel_rfl

theorem plan_any (p : Pl) (w : World) : Calls Tryz.prog 76 #[(.agg #[.int .i64 p.a0, .int .i64 p.a1, .int .i64 p.a2, .int .i64 p.a3, .int .i64 p.a4, .int .i64 p.a5, .int .i64 p.a6, .int .i64 p.a7, .int .i64 p.a8, .int .i64 p.a9, .int .i64 p.a10, .int .i64 p.a11, .int .i64 p.a12])] w fun e w' => e = .returned (.agg #[.int .i64 p.a0, .int .i64 p.a1, .int .i64 p.a2, .int .i64 p.a3, .int .i64 p.a4, .int .i64 p.a5, .int .i64 p.a6, .int .i64 p.a7, .int .i64 p.a8, .int .i64 p.a9, .int .i64 p.a10, .int .i64 p.a11, .int .i64 p.a12]) ∧ Below w.heap.size w w' := by
  go_enter Tryz.func76, Tryz.ntmps76
  go_wp2
  refine bodyPost_ret (results_cell_row rfl _ _ _ _ _ _ _ rfl (heap_alloc2_new _ _ _) Tryz.underlying41 rfl info_plan) rfl ?_
  exact ⟨rfl, bthen (balloc _ _) (balloc _ _)⟩

theorem slot_yes (p : Pl) (n : Int) (w : World) (h1 : 0 ≤ n) (h2 : n < p.a9) (h3 : p.a9 ≤ 100000) (h4 : 0 ≤ p.a8) (h5 : p.a8 ≤ 100000) : Calls Tryz.prog 113 #[(.agg #[.int .i64 p.a0, .int .i64 p.a1, .int .i64 p.a2, .int .i64 p.a3, .int .i64 p.a4, .int .i64 p.a5, .int .i64 p.a6, .int .i64 p.a7, .int .i64 p.a8, .int .i64 p.a9, .int .i64 p.a10, .int .i64 p.a11, .int .i64 p.a12]), .int .i64 n] w fun e w' => e = .returned (.tuple #[.int .i64 (p.a8 + 2 * n), .int .i64 (p.a8 + 2 * n + 1), .bool true]) ∧ Below w.heap.size w w' := by
  go_enter Tryz.func113, Tryz.ntmps113
  go_wp2_with fail
  refine (one_yes _ _ _ h1 h2).mono ?_; rintro e w' ⟨rfl, rfl⟩
  go_wp2
  go_ret3
  exact ⟨rfl, balloc _ _⟩
theorem slot_no (p : Pl) (n : Int) (w : World) (h : ¬ (0 ≤ n ∧ n < p.a9)) : Calls Tryz.prog 113 #[(.agg #[.int .i64 p.a0, .int .i64 p.a1, .int .i64 p.a2, .int .i64 p.a3, .int .i64 p.a4, .int .i64 p.a5, .int .i64 p.a6, .int .i64 p.a7, .int .i64 p.a8, .int .i64 p.a9, .int .i64 p.a10, .int .i64 p.a11, .int .i64 p.a12]), .int .i64 n] w fun e w' => e = .returned (.tuple #[.int .i64 0, .int .i64 0, .bool false]) ∧ Below w.heap.size w w' := by
  go_enter Tryz.func113, Tryz.ntmps113
  go_wp2_with fail
  refine (one_no _ _ _ h).mono ?_; rintro e w' ⟨rfl, rfl⟩
  go_wp2
  go_ret3
  exact ⟨rfl, balloc _ _⟩
end Go.Proofs.YtapklelkcicjlaaGreatDoor.Pn

/-! Contracts of package plan, more: Leaf, Log, Where; of Check, and of the reference's May. No conditions but bounds of the numbers. -/
namespace Go.Proofs.YtapklelkcicjlaaGreatDoor.Pn
set_option maxRecDepth 100000
open Go.RowKit Num
set_option linter.unusedVariables false

/-- what lies in a box still lies there behind a call -/
theorem box_cell {w w' : World} {cs : Array Value} {T : TypeId} (b : Below (w.alloc (.cells cs T)).heap.size (w.alloc (.cells cs T)) w') {j : Nat} {v : Value} (h : cs[j]? = some v) : w'.cell? ⟨w.heap.size, j, none⟩ = some v := by
  have e : w'.heap[w.heap.size]? = some (.cells cs T) := (b.block _ (by simp)).trans (heap_alloc_new w _)
  rw [cell_of_row _ _ _ _ _ _ e]
  exact h

theorem below_drewN {B : Nat} {a b : World} (h : Below B a b) (n : Nat) : Below B a (b.drewN n) := ⟨h.os, h.tape, h.output, h.size, h.block⟩
/-- what stands in a sector of the backing device -/
def kindB (p : Pl) (n : Int) : Int := if n < p.a3 then 1 else 2
/-- what stands in a sector of the cache device -/
def kindC (p : Pl) (n : Int) : Int := if n < p.a10 then 3 else if n < p.a6 then 4 else if n < p.a8 then 5 else if (n - p.a8) % 2 = 0 then 6 else 7
theorem check_no (c : Cf) (w : World) (h : ¬ May c) : Calls Tryz.prog 84 #[(.agg #[.int .i64 c.c0, .int .i64 c.c1, .int .i64 c.c2, .int .i64 c.c3, .int .i64 c.c4, c.c5, c.c6, c.c7, c.c8, .int .i64 c.c9])] w fun e w' => e = .returned (.int .i64 100) ∧ Below w.heap.size w w' := by
  by_cases d0 : 1 ≤ c.c0 ∧ c.c0 ≤ 512
  case neg =>
    clear h
    have D := Lib.hid d0
    clear d0
    go_enter Tryz.func84, Tryz.ntmps84
    go_wp2_with fail
    refine (within_no _ _ _ _ D.out).mono ?_; rintro e w' ⟨rfl, rfl⟩
    go_wp2
    go_ret
    exact ⟨rfl, balloc _ _⟩
  by_cases d1 : 1 ≤ c.c1 ∧ c.c1 ≤ 192
  case neg =>
    clear h
    have D := Lib.hid d1
    clear d1
    obtain ⟨x0, y0⟩ := d0
    go_enter Tryz.func84, Tryz.ntmps84
    go_wp2_with fail
    refine (within_yes _ _ _ _ x0 y0).mono ?_; rintro e w' ⟨rfl, rfl⟩
    go_wp2_with fail
    refine (within_no _ _ _ _ D.out).mono ?_; rintro e w' ⟨rfl, rfl⟩
    go_wp2
    go_ret
    exact ⟨rfl, balloc _ _⟩
  by_cases d2 : 1 ≤ c.c2 ∧ c.c2 ≤ 256
  case neg =>
    clear h
    have D := Lib.hid d2
    clear d2
    obtain ⟨x0, y0⟩ := d0
    obtain ⟨x1, y1⟩ := d1
    go_enter Tryz.func84, Tryz.ntmps84
    go_wp2_with fail
    refine (within_yes _ _ _ _ x0 y0).mono ?_; rintro e w' ⟨rfl, rfl⟩
    go_wp2_with fail
    refine (within_yes _ _ _ _ x1 y1).mono ?_; rintro e w' ⟨rfl, rfl⟩
    go_wp2_with fail
    refine (within_no _ _ _ _ D.out).mono ?_; rintro e w' ⟨rfl, rfl⟩
    go_wp2
    go_ret
    exact ⟨rfl, balloc _ _⟩
  by_cases d3 : 1 ≤ c.c3 ∧ c.c3 ≤ 4096
  case neg =>
    clear h
    have D := Lib.hid d3
    clear d3
    obtain ⟨x0, y0⟩ := d0
    obtain ⟨x1, y1⟩ := d1
    obtain ⟨x2, y2⟩ := d2
    go_enter Tryz.func84, Tryz.ntmps84
    go_wp2_with fail
    refine (within_yes _ _ _ _ x0 y0).mono ?_; rintro e w' ⟨rfl, rfl⟩
    go_wp2_with fail
    refine (within_yes _ _ _ _ x1 y1).mono ?_; rintro e w' ⟨rfl, rfl⟩
    go_wp2_with fail
    refine (within_yes _ _ _ _ x2 y2).mono ?_; rintro e w' ⟨rfl, rfl⟩
    go_wp2_with fail
    refine (within_no _ _ _ _ D.out).mono ?_; rintro e w' ⟨rfl, rfl⟩
    go_wp2
    go_ret
    exact ⟨rfl, balloc _ _⟩
  by_cases d4 : 0 ≤ c.c4 ∧ c.c4 ≤ 1048576
  case neg =>
    clear h
    have D := Lib.hid d4
    clear d4
    obtain ⟨x0, y0⟩ := d0
    obtain ⟨x1, y1⟩ := d1
    obtain ⟨x2, y2⟩ := d2
    obtain ⟨x3, y3⟩ := d3
    go_enter Tryz.func84, Tryz.ntmps84
    go_wp2_with fail
    refine (within_yes _ _ _ _ x0 y0).mono ?_; rintro e w' ⟨rfl, rfl⟩
    go_wp2_with fail
    refine (within_yes _ _ _ _ x1 y1).mono ?_; rintro e w' ⟨rfl, rfl⟩
    go_wp2_with fail
    refine (within_yes _ _ _ _ x2 y2).mono ?_; rintro e w' ⟨rfl, rfl⟩
    go_wp2_with fail
    refine (within_yes _ _ _ _ x3 y3).mono ?_; rintro e w' ⟨rfl, rfl⟩
    go_wp2_with fail
    refine (within_no _ _ _ _ D.out).mono ?_; rintro e w' ⟨rfl, rfl⟩
    go_wp2
    go_ret
    exact ⟨rfl, balloc _ _⟩
  by_cases d5 : 0 ≤ c.c9 ∧ c.c9 ≤ 1048576
  case neg =>
    clear h
    have D := Lib.hid d5
    clear d5
    obtain ⟨x0, y0⟩ := d0
    obtain ⟨x1, y1⟩ := d1
    obtain ⟨x2, y2⟩ := d2
    obtain ⟨x3, y3⟩ := d3
    obtain ⟨x4, y4⟩ := d4
    go_enter Tryz.func84, Tryz.ntmps84
    go_wp2_with fail
    refine (within_yes _ _ _ _ x0 y0).mono ?_; rintro e w' ⟨rfl, rfl⟩
    go_wp2_with fail
    refine (within_yes _ _ _ _ x1 y1).mono ?_; rintro e w' ⟨rfl, rfl⟩
    go_wp2_with fail
    refine (within_yes _ _ _ _ x2 y2).mono ?_; rintro e w' ⟨rfl, rfl⟩
    go_wp2_with fail
    refine (within_yes _ _ _ _ x3 y3).mono ?_; rintro e w' ⟨rfl, rfl⟩
    go_wp2_with fail
    refine (within_yes _ _ _ _ x4 y4).mono ?_; rintro e w' ⟨rfl, rfl⟩
    go_wp2_with fail
    refine (within_no _ _ _ _ D.out).mono ?_; rintro e w' ⟨rfl, rfl⟩
    go_wp2
    go_ret
    exact ⟨rfl, balloc _ _⟩
  exact absurd ⟨d0, d1, d2, d3, d4, d5⟩ h
theorem check_yes (c : Cf) (w : World) (h : May c) : Calls Tryz.prog 84 #[(.agg #[.int .i64 c.c0, .int .i64 c.c1, .int .i64 c.c2, .int .i64 c.c3, .int .i64 c.c4, c.c5, c.c6, c.c7, c.c8, .int .i64 c.c9])] w fun e w' => e = .returned (.int .i64 0) ∧ Below w.heap.size w w' := by
  obtain ⟨⟨x0, y0⟩, ⟨x1, y1⟩, ⟨x2, y2⟩, ⟨x3, y3⟩, ⟨x4, y4⟩, ⟨x5, y5⟩⟩ := h
  go_enter Tryz.func84, Tryz.ntmps84
  go_wp2_with fail
  refine (within_yes _ _ _ _ x0 y0).mono ?_; rintro e w' ⟨rfl, rfl⟩
  go_wp2_with fail
  refine (within_yes _ _ _ _ x1 y1).mono ?_; rintro e w' ⟨rfl, rfl⟩
  go_wp2_with fail
  refine (within_yes _ _ _ _ x2 y2).mono ?_; rintro e w' ⟨rfl, rfl⟩
  go_wp2_with fail
  refine (within_yes _ _ _ _ x3 y3).mono ?_; rintro e w' ⟨rfl, rfl⟩
  go_wp2_with fail
  refine (within_yes _ _ _ _ x4 y4).mono ?_; rintro e w' ⟨rfl, rfl⟩
  go_wp2_with fail
  refine (within_yes _ _ _ _ x5 y5).mono ?_; rintro e w' ⟨rfl, rfl⟩
  go_wp2
  go_ret
  exact ⟨rfl, balloc _ _⟩
end Go.Proofs.YtapklelkcicjlaaGreatDoor.Pn

/-! Contracts of lay, Of, and of the reference's Of; settings; the example. No conditions but bounds of the numbers. -/
namespace Go.Proofs.YtapklelkcicjlaaGreatDoor.Pn
set_option maxRecDepth 100000
open Go.RowKit Num
set_option linter.unusedVariables false

theorem ups_bd {n d : Int} (h1 : 1 ≤ n) (h0 : 1 ≤ d) : 1 ≤ ups n d ∧ ups n d ≤ n := by
  unfold ups
  have q1 : 0 ≤ (n - 1) / d := Int.ediv_nonneg (by omega) (by omega)
  have q2 : (n - 1) / d ≤ n - 1 := Int.ediv_le_self _ (by omega)
  omega
/-- what lies in a block, cell by cell -/
theorem heap_cell {w : World} {g : Nat} {cs : Array Value} {T : TypeId} (h : w.heap[g]? = some (.cells cs T (0, 0))) {j : Nat} {v : Value} (hj : cs[j]? = some v) : w.cell? ⟨g, j, none⟩ = some v := by
  rw [cell_of_row _ _ _ _ _ _ h]
  exact hj
/-- a store of a whole struct -/
theorem L_storeRow {ops : Array Oper} {rest : List Oper} {a : Act} {w : World} {Q : Exit → Act → World → Prop} {dst : Option Tmp} {ty : TypeId} {pos : String} {af : Array Edge} {x y : Operand} {g N : Nat} {T t : TypeId} {cs old : Array Value}
    (hi : (Tryz.prog.info? T).map (·.size) = some N) (hx : a.eval x = .pointer (some ⟨g, 0, none⟩)) (hy : a.eval y = .agg cs) (hg : w.heap[g]? = some (.cells old t (0, 0))) (ho : old.size = N) (hc : cs.size = N) (h1 : cs.all (·.oneCell') = true)
    (hK : ∀ w', w'.heap[g]? = some (.cells cs t (0, 0)) → w.grownBy w' (some g) → wpList Tryz.prog ops Q rest (a.put dst undef) w') : wpList Tryz.prog ops Q (⟨dst, .store T x y, ty, pos, af, none⟩ :: rest) a w :=
  wpList_store_row rfl T x y rfl g cs hx hy t old hg (by rw [hi, hc]) (by omega) h1
    (hK _ (setRow_heap w g old _ t _ hg) ⟨rfl, rfl, rfl, by simp, fun k _ hk => setRow_other w g k _ (fun e => hk (by rw [e]))⟩)
/-- a load of a whole struct -/
theorem L_loadMap {ops : Array Oper} {rest : List Oper} {a : Act} {w : World} {Q : Exit → Act → World → Prop} {dst : Option Tmp} {ty : TypeId} {pos : String} {af : Array Edge} {x : Operand} {g : Nat} {t : TypeId} {cs : Array Value}
    (hx : a.eval x = .pointer (some ⟨g, 0, none⟩)) (hg : w.heap[g]? = some (.cells cs t (0, 0))) (hc : cs.size = 13)
    (hK : wpList Tryz.prog ops Q rest (a.put dst (.agg cs)) w) : wpList Tryz.prog ops Q (⟨dst, .load 45 x, ty, pos, af, none⟩ :: rest) a w :=
  wpList_load_row rfl 45 x rfl g hx t cs (0, 0) _ hg Tryz.underlying45 rfl (by rw [hc]; exact info_map) hK
theorem L_loadPlan {ops : Array Oper} {rest : List Oper} {a : Act} {w : World} {Q : Exit → Act → World → Prop} {dst : Option Tmp} {ty : TypeId} {pos : String} {af : Array Edge} {x : Operand} {g : Nat} {t : TypeId} {cs : Array Value}
    (hx : a.eval x = .pointer (some ⟨g, 0, none⟩)) (hg : w.heap[g]? = some (.cells cs t (0, 0))) (hc : cs.size = 13)
    (hK : wpList Tryz.prog ops Q rest (a.put dst (.agg cs)) w) : wpList Tryz.prog ops Q (⟨dst, .load 41 x, ty, pos, af, none⟩ :: rest) a w :=
  wpList_load_row rfl 41 x rfl g hx t cs (0, 0) _ hg Tryz.underlying41 rfl (by rw [hc]; exact info_plan) hK
theorem L_loadConf {ops : Array Oper} {rest : List Oper} {a : Act} {w : World} {Q : Exit → Act → World → Prop} {dst : Option Tmp} {ty : TypeId} {pos : String} {af : Array Edge} {x : Operand} {g : Nat} {t : TypeId} {cs : Array Value}
    (hx : a.eval x = .pointer (some ⟨g, 0, none⟩)) (hg : w.heap[g]? = some (.cells cs t (0, 0))) (hc : cs.size = 10)
    (hK : wpList Tryz.prog ops Q rest (a.put dst (.agg cs)) w) : wpList Tryz.prog ops Q (⟨dst, .load 77 x, ty, pos, af, none⟩ :: rest) a w :=
  wpList_load_row rfl 77 x rfl g hx t cs (0, 0) _ hg Tryz.underlying77 rfl (by rw [hc]; exact info_conf) hK
/-- a struct and a number come back -/
theorem results_cell_tmp_row {fn : Func} {p u : Tmp} {ty : TypeId} (h : fn.results = #[.cell p ty, .tmp u]) (tmps : Array Value) (w : World) (g : Nat) (cs : Array Value)
    (hp : tmps.getD p undef = .pointer (some ⟨g, 0, none⟩)) (hl : (loadVar ty ⟨g, 0, none⟩).run Tryz.prog w = .ok (.agg cs) w) :
    (results fn tmps).run Tryz.prog w = .ok (.tuple #[.agg cs, tmps.getD u undef]) w := by
  rw [results_cell_tmp h, hp]
  simp [asAddr, hl, Result.andThen]
set_option maxHeartbeats 2000000 in
theorem lay_any (b s l : Int) (p : Pl) (hp : p = planOf b s l) (w : World) (hb : 1 ≤ b) (hb2 : b ≤ 512) (hs : 1 ≤ s) (hs2 : s ≤ 192) (hl : 1 ≤ l) (hl2 : l ≤ 256) :
    Calls Tryz.prog 85 #[.int .i64 b, .int .i64 s, .int .i64 l] w fun e w' => e = .returned (.agg #[.int .i64 p.a0, .int .i64 p.a1, .int .i64 p.a2, .int .i64 p.a3, .int .i64 p.a4, .int .i64 p.a5, .int .i64 p.a6, .int .i64 p.a7, .int .i64 p.a8, .int .i64 p.a9, .int .i64 p.a10, .int .i64 p.a11, .int .i64 p.a12]) ∧ Below w.heap.size w w' := by
  have HP := Lib.hid hp
  clear hp
  obtain ⟨e1, e2⟩ := ups_bd (n := b) (d := 8) hb (by decide)
  obtain ⟨g1, g2⟩ := ups_bd (n := ups b 8) (d := 6) e1 (by decide)
  obtain ⟨v1, v2⟩ := ups_bd (n := s) (d := 3) hs (by decide)
  go_enter Tryz.func85, Tryz.ntmps85
  go_wp2_with fail
  refine (up_any _ _ _ hb (by omega) (by decide) (by decide)).mono ?_; rintro e w' ⟨rfl, rfl⟩
  go_wp2_with fail
  refine (up_any _ _ _ e1 (by omega) (by decide) (by decide)).mono ?_; rintro e w' ⟨rfl, rfl⟩
  go_wp2_with fail
  refine (up_any _ _ _ hs (by omega) (by decide) (by decide)).mono ?_; rintro e w' ⟨rfl, rfl⟩
  go_wp2
  refine bodyPost_ret (results_cell_row rfl _ _ _ _ _ _ _ rfl (heap_alloc2_old _ _ _) Tryz.underlying43 rfl info_chart) rfl ?_
  have hp := HP.out
  subst hp
  exact ⟨ret_mv rfl rfl rfl rfl rfl rfl (by simp only [planOf]; omega) rfl (by simp only [planOf]; omega) rfl rfl rfl (by simp only [planOf]; omega), bthen (balloc _ _) (balloc _ _)⟩


/-- settings of three numbers -/
def cfOf (b s l : Int) : Cf := ⟨b, s, l, 10, 100, .int .u64 0, .float .f64 0, .float .f64 0, .float .f64 0, 0⟩
theorem conf_any (x y z : Int) (c : Cf) (hc : c = cfOf (1 + x % 512) (1 + y % 192) (1 + z % 256)) (w : World) (hx : 0 ≤ x) (hx2 : x ≤ 65535) (hy : 0 ≤ y) (hy2 : y ≤ 65535) (hz : 0 ≤ z) (hz2 : z ≤ 65535) :
    Calls Tryz.prog 26 #[.int .u16 x, .int .u16 y, .int .u16 z] w fun e w' => e = .returned (.agg #[.int .i64 c.c0, .int .i64 c.c1, .int .i64 c.c2, .int .i64 c.c3, .int .i64 c.c4, c.c5, c.c6, c.c7, c.c8, .int .i64 c.c9]) ∧ Below w.heap.size w w' := by
  have HC := Lib.hid hc
  clear hc
  go_enter Tryz.func26, Tryz.ntmps26
  go_wp2_with ((with_reducible apply L_storeRow (N := 10) info_conf); exact rfl; exact rfl; exact heap_alloc_new _ _; exact rfl; exact rfl; (simp [Value.oneCell']); intro w1 h1 g1; have H1 := Lib.hid h1; have G1 := Lib.hid g1; clear h1 g1)
  refine bodyPost_ret (results_cell_row rfl _ _ _ _ _ _ _ rfl H1.out Tryz.underlying77 rfl info_conf) rfl ?_
  have hc := HC.out
  subst hc
  exact ⟨rfl, (balloc _ _).grown G1.out (by simp) (fun k e => by injection e with e; omega)⟩
end Go.Proofs.YtapklelkcicjlaaGreatDoor.Pn

/-! Contracts of Of, of the reference's Of; the example. No conditions but bounds of the numbers. -/
namespace Go.Proofs.YtapklelkcicjlaaGreatDoor.Pn
set_option maxRecDepth 100000
open Go.RowKit Num
set_option linter.unusedVariables false

theorem lt1 (w : World) (A : Obj) : w.heap.size < (w.alloc A).heap.size := by show _ < (w.heap.push A).size; simp
theorem lt2 (w : World) (A B : Obj) : w.heap.size < ((w.alloc A).alloc B).heap.size := by show _ < ((w.heap.push A).push B).size; simp; omega
theorem lt2' (w : World) (A B : Obj) : w.heap.size + 1 < ((w.alloc A).alloc B).heap.size := by show _ < ((w.heap.push A).push B).size; simp
theorem of_yes (c : Cf) (p : Pl) (hp : p = planOf c.c0 c.c1 c.c2) (h : May c) (w : World) : Calls Tryz.prog 27 #[(.agg #[.int .i64 c.c0, .int .i64 c.c1, .int .i64 c.c2, .int .i64 c.c3, .int .i64 c.c4, c.c5, c.c6, c.c7, c.c8, .int .i64 c.c9])] w fun e w' => e = .returned (.tuple #[(.agg #[.int .i64 p.a0, .int .i64 p.a1, .int .i64 p.a2, .int .i64 p.a3, .int .i64 p.a4, .int .i64 p.a5, .int .i64 p.a6, .int .i64 p.a7, .int .i64 p.a8, .int .i64 p.a9, .int .i64 p.a10, .int .i64 p.a11, .int .i64 p.a12]), .int .i64 0]) ∧ Below w.heap.size w w' := by
  have H := Lib.hid h
  have HP := Lib.hid hp
  clear h hp
  go_enter Tryz.func27, Tryz.ntmps27
  go_wp2_with fail
  refine (check_yes c _ H.out).mono ?_; rintro e w1 ⟨rfl, b1⟩
  have X1 := Lib.hid ((b1.block _ (lt2 _ _ _)).trans (heap_alloc2_old _ _ _))
  have Y1 := Lib.hid ((b1.block _ (lt2' _ _ _)).trans (heap_alloc2_new _ _ _))
  have B1 := Lib.hid (bthen (bthen (balloc _ _) (balloc _ _)) b1)
  clear b1
  have x0 := heap_cell X1.out (j := 0) rfl
  have x1 := heap_cell X1.out (j := 1) rfl
  have x2 := heap_cell X1.out (j := 2) rfl
  go_wp2_with fail
  refine (lay_any _ _ _ p HP.out _ H.out.1.1 H.out.1.2 H.out.2.1.1 H.out.2.1.2 H.out.2.2.1.1 H.out.2.2.1.2).mono ?_; rintro e w2 ⟨rfl, b2⟩
  have Y2 := Lib.hid ((b2.block _ (Array.getElem?_eq_some_iff.1 Y1.out).1).trans Y1.out)
  have B2 := Lib.hid (bthen B1.out b2)
  clear b2 x0 x1 x2 X1 Y1 B1
  go_wp2_with ((with_reducible apply L_storeRow (N := 13) info_map); exact rfl; exact rfl; exact Y2.out; exact rfl; exact rfl; (simp [Value.oneCell']); intro w3 h3 g3; have H3 := Lib.hid h3; have G3 := Lib.hid g3; clear h3 g3)
  refine bodyPost_ret (results_cell_tmp_row rfl _ _ _ _ rfl (run_loadVar_row _ _ _ _ _ _ _ H3.out Tryz.underlying45 rfl info_map)) rfl ?_
  exact ⟨rfl, B2.out.grown G3.out B2.out.size (fun k e => by injection e with e; omega)⟩
theorem of_no (c : Cf) (h : ¬ May c) (w : World) : Calls Tryz.prog 27 #[(.agg #[.int .i64 c.c0, .int .i64 c.c1, .int .i64 c.c2, .int .i64 c.c3, .int .i64 c.c4, c.c5, c.c6, c.c7, c.c8, .int .i64 c.c9])] w fun e w' => e = .returned (.tuple #[(.agg #[.int .i64 noPlan.a0, .int .i64 noPlan.a1, .int .i64 noPlan.a2, .int .i64 noPlan.a3, .int .i64 noPlan.a4, .int .i64 noPlan.a5, .int .i64 noPlan.a6, .int .i64 noPlan.a7, .int .i64 noPlan.a8, .int .i64 noPlan.a9, .int .i64 noPlan.a10, .int .i64 noPlan.a11, .int .i64 noPlan.a12]), .int .i64 100]) ∧ Below w.heap.size w w' := by
  have H := Lib.hid h
  clear h
  go_enter Tryz.func27, Tryz.ntmps27
  go_wp2_with fail
  refine (check_no c _ H.out).mono ?_; rintro e w1 ⟨rfl, b1⟩
  have Y1 := Lib.hid ((b1.block _ (lt2' _ _ _)).trans (heap_alloc2_new _ _ _))
  have B1 := Lib.hid (bthen (bthen (balloc _ _) (balloc _ _)) b1)
  clear b1
  go_wp2_with ((with_reducible apply L_storeRow (N := 13) info_map); exact rfl; exact rfl; exact Y1.out; exact rfl; exact rfl; (simp [Value.oneCell']); intro w3 h3 g3; have H3 := Lib.hid h3; have G3 := Lib.hid g3; clear h3 g3)
  refine bodyPost_ret (results_cell_tmp_row rfl _ _ _ _ rfl (run_loadVar_row _ _ _ _ _ _ _ H3.out Tryz.underlying45 rfl info_map)) rfl ?_
  exact ⟨rfl, B1.out.grown G3.out B1.out.size (fun k e => by injection e with e; omega)⟩

set_option maxHeartbeats 2000000 in
theorem rof_any (c : Cf) (p : Pl) (hp : p = planOf c.c0 c.c1 c.c2) (w : World) (hb : 1 ≤ c.c0) (hb2 : c.c0 ≤ 512) (hs : 1 ≤ c.c1) (hs2 : c.c1 ≤ 192) (hl : 1 ≤ c.c2) (hl2 : c.c2 ≤ 256) :
    Calls Tryz.prog 30 #[(.agg #[.int .i64 c.c0, .int .i64 c.c1, .int .i64 c.c2, .int .i64 c.c3, .int .i64 c.c4, c.c5, c.c6, c.c7, c.c8, .int .i64 c.c9])] w fun e w' => e = .returned (.agg #[.int .i64 p.a0, .int .i64 p.a1, .int .i64 p.a2, .int .i64 p.a3, .int .i64 p.a4, .int .i64 p.a5, .int .i64 p.a6, .int .i64 p.a7, .int .i64 p.a8, .int .i64 p.a9, .int .i64 p.a10, .int .i64 p.a11, .int .i64 p.a12]) ∧ Below w.heap.size w w' := by
  have HP := Lib.hid hp
  clear hp
  obtain ⟨e1, e2⟩ := ups_bd (n := c.c0) (d := 8) hb (by decide)
  obtain ⟨g1, g2⟩ := ups_bd (n := ups c.c0 8) (d := 6) e1 (by decide)
  obtain ⟨v1, v2⟩ := ups_bd (n := c.c1) (d := 3) hs (by decide)
  go_enter Tryz.func30, Tryz.ntmps30
  go_wp2_with fail
  refine (rup_any _ _ _ hb (by omega) (by decide) (by decide)).mono ?_; rintro e w' ⟨rfl, rfl⟩
  go_wp2_with fail
  refine (rup_any _ _ _ e1 (by omega) (by decide) (by decide)).mono ?_; rintro e w' ⟨rfl, rfl⟩
  go_wp2_with fail
  refine (rup_any _ _ _ hs (by omega) (by decide) (by decide)).mono ?_; rintro e w' ⟨rfl, rfl⟩
  go_wp2
  refine bodyPost_ret (results_cell_row rfl _ _ _ _ _ _ _ rfl ((heap_alloc_old _ _ (lt2' _ _ _)).trans (heap_alloc2_new _ _ _)) Tryz.underlying41 rfl info_plan) rfl ?_
  have hp := HP.out
  subst hp
  exact ⟨ret_mv rfl rfl rfl rfl rfl rfl rfl rfl rfl rfl rfl rfl rfl, bthen (bthen (balloc _ _) (balloc _ _)) (balloc _ _)⟩

theorem may_cfOf {b s l : Int} (hb : 1 ≤ b) (hb2 : b ≤ 512) (hs : 1 ≤ s) (hs2 : s ≤ 192) (hl : 1 ≤ l) (hl2 : l ≤ 256) : May (cfOf b s l) :=
  by
  refine ⟨⟨hb, hb2⟩, ⟨hs, hs2⟩, ⟨hl, hl2⟩, ?_, ?_, ?_⟩ <;> simp [cfOf]
end Go.Proofs.YtapklelkcicjlaaGreatDoor.Pn
