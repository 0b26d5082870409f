/-
  A set behind a pointer; contracts of package bits' small functions and of the library's two. No conditions.
-/
import Derived.Test.YtmeknghlhfpjnaaDoorBitPop
import Derived.Test.YtmeknghlhfpjnaaDoorBitMem
import Derived.Test.YtmeknghlhfpjnaaDoorChecked
import Derived.WalkKit
import Derived.WalkLawsBesides
import Derived.Laws.BitsAllLaws
import Derived.Laws.Bits64
import Derived.Laws.Bits128
import Derived.Lib.Hide
import Derived.RegionTactic
import Derived.Deep.QuietTactic
namespace Go.Proofs.YtmeknghlhfpjnaaDoor.W
open Go.RowKit Bt Rw
set_option linter.unusedVariables false

theorem ret_int {k : IntKind} {a b : Int} (h : a = b) : Ending.returned (.int k a) = .returned (.int k b) := by rw [h]
theorem below_drewN {B : Nat} {a w : World} (h : Below B a w) (n : Nat) : Below B a (w.drewN n) := ⟨h.os, h.tape, h.output, h.size, h.block⟩

/-- the table, as cells -/
def tabL : List Int := Lib.deBruijn64tab.map fun x : Nat => (x : Int)
def tabArr : Array Value := (tabL.map (Value.int .u8)).toArray
theorem tab_at {k : Nat} (h : k < 64) : tabArr[k]? = some (.int .u8 ((Lib.deBruijn64tab.getD k 0 : Nat) : Int)) := by
  have hl : Lib.deBruijn64tab.length = 64 := rfl
  have : Lib.deBruijn64tab[k]? = some (Lib.deBruijn64tab.getD k 0) := by
    rw [List.getElem?_eq_getElem (by omega), List.getD_eq_getElem?_getD, List.getElem?_eq_getElem (by omega)]; rfl
  unfold tabArr tabL
  rw [List.getElem?_toArray, List.getElem?_map, List.getElem?_map, this]
  rfl
/-- the table holds them -/
def Env (w : World) : Prop := ∃ t fr, w.heap[0]? = some (.cells tabArr t fr)
theorem Env.lt {w : World} (h : Env w) : 0 < w.heap.size := by
  obtain ⟨t, fr, hh⟩ := h
  rcases Nat.lt_or_ge 0 w.heap.size with h1 | h1
  · exact h1
  · rw [Array.getElem?_eq_none h1] at hh; cases hh
theorem Env.cell {w : World} (h : Env w) {k : Nat} (hk : k < 64) : w.cell? ⟨0, k, none⟩ = some (.int .u8 ((Lib.deBruijn64tab.getD k 0 : Nat) : Int)) := by
  obtain ⟨t, fr, hh⟩ := h
  rw [cell_of_row w _ k _ _ _ hh]
  exact tab_at hk
theorem Env.keep {w w' : World} (h : Env w) (hk : w'.heap[0]? = w.heap[0]?) : Env w' := by
  obtain ⟨t, fr, hh⟩ := h
  exact ⟨t, fr, hk.trans hh⟩
theorem Env.below {w w' : World} (h : Env w) (hb : Below w.heap.size w w') : Env w' := h.keep (hb.block _ h.lt)

theorem bit_val {k : Nat} (hk : k < 64) : IntKind.u64.wrap (2 ^ k) = ((2 ^ k : Nat) : Int) := by
  have h : 2 ^ k < 18446744073709551616 := Nat.lt_of_lt_of_le (Nat.pow_lt_pow_right (by decide) hk) (Nat.le_refl (2 ^ 64))
  rw [IntKind.wrap_u64]
  have e : (2 : Int) ^ k = ((2 ^ k : Nat) : Int) := by rw [Int.natCast_pow]; rfl
  rw [e]
  generalize 2 ^ k = p at h
  omega
theorem bitof_any (i : Nat) (p : Nat) (w : World) (hi : i ≤ 1000000) (hp : 2 ^ (i % 64) = p) :
    Calls Tryd.prog 30 #[.int .i64 (i : Int)] w fun e w' => e = .returned (.int .u64 (p : Int)) ∧ w = w' := by
  have HP := Lib.hid (bit_val (Nat.mod_lt i (by decide : 0 < 64)))
  rw [hp] at HP
  clear hp
  go_enter Tryd.func30, Tryd.ntmps30
  go_wp2
  go_ret
  exact ⟨ret_int HP.out, rfl⟩

theorem tz_key {x a : Nat} (hx : x < 18446744073709551616) (hx0 : x ≠ 0) (hlow : x &&& (18446744073709551616 - x) = a) :
    IntKind.u64.wrap (bits BinOp.and IntKind.u64 (x : Int) (IntKind.u64.wrap (-(x : Int))) * 285870213051353865) / 288230376151711744 = ((a * 285870213051353865 % 18446744073709551616 / 288230376151711744 : Nat) : Int) := by
  have e1 : IntKind.u64.wrap (-(x : Int)) = ((18446744073709551616 - x : Nat) : Int) := by rw [IntKind.wrap_u64]; omega
  rw [e1, u64_and_nat x _ hx (by omega), hlow, IntKind.wrap_u64]
  omega
theorem tz_core (x k idx : Nat) (w : World) (hx0 : ((x : Int) == 0) = false)
    (key : IntKind.u64.wrap (bits BinOp.and IntKind.u64 (x : Int) (IntKind.u64.wrap (-(x : Int))) * 285870213051353865) / 288230376151711744 = (idx : Int))
    (hi : idx < 64) (hk : k < 64) (hcell : w.cell? ⟨0, idx, none⟩ = some (.int .u8 k)) :
    Calls Tryd.prog 31 #[.int .u64 (x : Int)] w fun e w' => e = .returned (.int .i64 (k : Int)) ∧ w = w' := by
  go_enter Tryd.func31, Tryd.ntmps31
  go_wp2_with (simp only [key])
  go_ret
  exact ⟨rfl, rfl⟩
theorem tz_zero (w : World) : Calls Tryd.prog 31 #[.int .u64 0] w fun e w' => e = .returned (.int .i64 64) ∧ w = w' := by
  go_enter Tryd.func31, Tryd.ntmps31
  go_wp2
  go_ret
  exact ⟨rfl, rfl⟩
theorem tz_any (x t : Nat) (w : World) (hx : x < 18446744073709551616) (he : Env w) (ht : Lib.ctz 64 x = t) :
    Calls Tryd.prog 31 #[.int .u64 (x : Int)] w fun e w' => e = .returned (.int .i64 (t : Int)) ∧ w = w' := by
  subst ht
  by_cases hx0 : x = 0
  · subst hx0
    exact tz_zero w
  · obtain ⟨hlow, hk⟩ := Lib.lowest_bit 64 x hx0 hx
    obtain ⟨hi, htab⟩ := Lib.deBruijn64_at _ hk
    have hcell := he.cell hi
    rw [htab] at hcell
    exact tz_core x _ _ w (by simp; omega) (tz_key hx hx0 hlow) hi hk hcell

theorem u64_in {n : Nat} (h : n < 18446744073709551616) : IntKind.u64.wrap (n : Int) = (n : Int) := by rw [IntKind.wrap_u64]; omega
theorem and_lit (x d m a : Nat) (hx : x < 18446744073709551616) (hm : m < 18446744073709551616) (h : x / d &&& m = a) : bits BinOp.and IntKind.u64 ((x : Int) / (d : Int)) (m : Int) = (a : Int) := by
  rw [← Int.natCast_ediv, u64_and_nat _ _ (Nat.lt_of_le_of_lt (Nat.div_le_self _ _) hx) hm, h]
theorem and_lit' (x m a : Nat) (hx : x < 18446744073709551616) (hm : m < 18446744073709551616) (h : x &&& m = a) : bits BinOp.and IntKind.u64 (x : Int) (m : Int) = (a : Int) := by
  rw [u64_and_nat _ _ hx hm, h]
theorem ones_any (x r : Nat) (w : World) (hx : x < 18446744073709551616) (hr : pop 64 x = r) :
    Calls Tryd.prog 27 #[.int .u64 (x : Int)] w fun e w' => e = .returned (.int .i64 (r : Int)) ∧ w = w' := by
  obtain ⟨a, b, y, c, d, z, e, u, v, s, q1, q2, q3, q4, q5, q6, q7, q8, q9, q10, q11, q12, q13, q14, q15, q16, q17, q18⟩ := pop_steps x hx
  obtain ⟨f, hf⟩ : ∃ f, z / 16 + z = f := ⟨_, rfl⟩
  rw [hf] at q9 q10
  have e1 : bits BinOp.and IntKind.u64 ((x : Int) / 2) 6148914691236517205 = (a : Int) := and_lit x 2 6148914691236517205 a hx (by decide) q1
  have e2 : bits BinOp.and IntKind.u64 (x : Int) 6148914691236517205 = (b : Int) := and_lit' x 6148914691236517205 b hx (by decide) q2
  have e3 : IntKind.u64.wrap ((a : Int) + (b : Int)) = (y : Int) := by rw [IntKind.wrap_u64]; omega
  have e4 : bits BinOp.and IntKind.u64 ((y : Int) / 4) 3689348814741910323 = (c : Int) := and_lit y 4 3689348814741910323 c q4 (by decide) q5
  have e5 : bits BinOp.and IntKind.u64 (y : Int) 3689348814741910323 = (d : Int) := and_lit' y 3689348814741910323 d q4 (by decide) q6
  have e6 : IntKind.u64.wrap ((c : Int) + (d : Int)) = (z : Int) := by rw [IntKind.wrap_u64]; omega
  have e7 : IntKind.u64.wrap ((z : Int) / 16 + (z : Int)) = (f : Int) := by rw [IntKind.wrap_u64]; omega
  have e8 : bits BinOp.and IntKind.u64 (f : Int) 1085102592571150095 = (e : Int) := and_lit' f 1085102592571150095 e q9 (by decide) q10
  have e9 : IntKind.u64.wrap ((e : Int) + (e : Int) / 256) = (u : Int) := by rw [IntKind.wrap_u64]; omega
  have e10 : IntKind.u64.wrap ((u : Int) + (u : Int) / 65536) = (v : Int) := by rw [IntKind.wrap_u64]; omega
  have e11 : IntKind.u64.wrap ((v : Int) + (v : Int) / 4294967296) = (s : Int) := by rw [IntKind.wrap_u64]; omega
  have HS := Lib.hid (q18.trans hr)
  clear q1 q2 q3 q4 q5 q6 q7 q8 q9 q10 q11 q12 q13 q14 q15 q16 q18 hr hx hf
  go_enter Tryd.func27, Tryd.ntmps27
  go_wp2
  go_ret
  exact ⟨ret_int (by rw [i64_and127, ← HS.out]; omega), rfl⟩

theorem u64t : ElTy Tryd.prog 36 55 (.int .u64 0) 8 := ⟨Tryd.underlying36, by kernel_rfl, rfl, by decide⟩
/-- numbers as cells -/
def uv (x : Nat) : Value := .int .u64 (x : Int)
/-- A SET BEHIND A POINTER: its length, its words, whether New made it -/
structure St (w : World) (B R : Nat) (v : Value) (l : List Bool) (m : Bool) : Prop where
  head : w.heap[R]? = some (.cells #[.int .i64 (l.length : Int), v, .bool m] 38 (0, 0))
  row : OwnV w 55 B v ((words l).map uv)
section
variable {w w' : World} {B R : Nat} {v : Value} {l : List Bool} {m : Bool}
theorem St.lt (h : St w B R v l m) : R < w.heap.size := by
  rcases Nat.lt_or_ge R w.heap.size with h1 | h1
  · exact h1
  · have := h.head; rw [Array.getElem?_eq_none h1] at this; cases this
theorem St.cells (h : St w B R v l m) : w.cell? ⟨R, 0, none⟩ = some (.int .i64 (l.length : Int)) ∧ w.cell? ⟨R, 1, none⟩ = some v ∧ w.cell? ⟨R, 2, none⟩ = some (.bool m) := by
  refine ⟨?_, ?_, ?_⟩
  · rw [cell_of_row w R 0 _ _ (0, 0) h.head]; rfl
  · rw [cell_of_row w R 1 _ _ (0, 0) h.head]; rfl
  · rw [cell_of_row w R 2 _ _ (0, 0) h.head]; rfl
theorem St.below (h : St w B R v l m) (hb : Below w.heap.size w w') : St w' B R v l m := ⟨(hb.block R h.lt).trans h.head, h.row.below hb⟩
theorem St.dn (h : St w B R v l m) (n : Nat) : St (w.drewN n) B R v l m := h.below (below_drewN (Below.refl _ _) n)
theorem St.ne (h : St w B R v l m) {B2 : Nat} {v2 : Value} {vs : List Value} (h2 : OwnV w 55 B2 v2 vs) : some R ≠ v2.ownBlock := by
  intro e
  obtain ⟨cur, hc⟩ := h2.block e.symm
  rw [h.head] at hc
  injection hc with hc
  injection hc with _ hc
  exact absurd hc (by decide)
theorem words_cells (l : List Bool) : ((words l).map uv).length = nw l.length := by rw [List.length_map, words_len]
theorem St.form (h : St w B R v l m) : ∃ A c, v = .slice A (nw l.length) c ∧ nw l.length ≤ c ∧ Sl w A (nw l.length) ((words l).map uv) := by
  obtain ⟨A, c, h1, h2, _, h3⟩ := h.row.form (words_cells l)
  exact ⟨A, c, h1, h2, h3⟩
/-- one word of it -/
theorem word_cell {A : Option Addr} {j : Nat} (h : Sl w A (nw l.length) ((words l).map uv)) (hj : j < nw l.length) : ∃ b off, A = some ⟨b, off, none⟩ ∧ w.cell? ⟨b, off + j, none⟩ = some (.int .u64 (word l j : Int)) :=
  h.at_ (k := j) (by rw [List.getElem?_map, words_at hj]; rfl)
end

theorem len_nil (w : World) : Calls Tryd.prog 11 #[.pointer none] w fun e w' => e = .returned (.int .i64 0) ∧ w = w' := by
  go_enter Tryd.func11, Tryd.ntmps11
  go_wp2
  go_ret
  exact ⟨rfl, rfl⟩
theorem len_any {w : World} {B R : Nat} {v : Value} {l : List Bool} {m : Bool} (h : St w B R v l m) :
    Calls Tryd.prog 11 #[.pointer (some ⟨R, 0, none⟩)] w fun e w' => e = .returned (.int .i64 (l.length : Int)) ∧ w = w' := by
  obtain ⟨c0, c1, c2⟩ := h.cells
  clear h c1 c2
  go_enter Tryd.func11, Tryd.ntmps11
  go_wp2
  go_ret
  exact ⟨rfl, rfl⟩
theorem room_nil (i : Int) (w : World) : Calls Tryd.prog 29 #[.pointer none, .int .i64 i] w fun e w' => e = .returned (.bool false) ∧ w = w' := by
  by_cases hi : i < 0
  · go_enter Tryd.func29, Tryd.ntmps29
    go_wp2
    go_ret
    exact ⟨rfl, rfl⟩
  · have hd : decide (i < 0) = false := by simpa using hi
    go_enter Tryd.func29, Tryd.ntmps29
    go_wp2_with fail
    refine (len_nil _).mono ?_; rintro e w' ⟨rfl, rfl⟩
    go_wp2
    go_ret
    exact ⟨rfl, rfl⟩
theorem room_yes {w : World} {B R : Nat} {v : Value} {l : List Bool} {m : Bool} (h : St w B R v l m) (i : Int) (h0 : 0 ≤ i) (h1 : i < (l.length : Int)) :
    Calls Tryd.prog 29 #[.pointer (some ⟨R, 0, none⟩), .int .i64 i] w fun e w' => e = .returned (.bool true) ∧ w = w' := by
  have H := Lib.hid h
  clear h
  go_enter Tryd.func29, Tryd.ntmps29
  go_wp2_with fail
  refine (len_any H.out).mono ?_; rintro e w' ⟨rfl, rfl⟩
  go_wp2
  go_ret
  exact ⟨rfl, rfl⟩
theorem room_no {w : World} {B R : Nat} {v : Value} {l : List Bool} {m : Bool} (h : St w B R v l m) (i : Int) (h0 : ¬ (0 ≤ i ∧ i < (l.length : Int))) :
    Calls Tryd.prog 29 #[.pointer (some ⟨R, 0, none⟩), .int .i64 i] w fun e w' => e = .returned (.bool false) ∧ w = w' := by
  have H := Lib.hid h
  clear h
  by_cases hi : i < 0
  · clear h0
    go_enter Tryd.func29, Tryd.ntmps29
    go_wp2
    go_ret
    exact ⟨rfl, rfl⟩
  · have h1 : (l.length : Int) ≤ i := by omega
    have hd : decide (i < (l.length : Int)) = false := by simpa using h1
    clear h0
    go_enter Tryd.func29, Tryd.ntmps29
    go_wp2_with fail
    refine (len_any H.out).mono ?_; rintro e w' ⟨rfl, rfl⟩
    go_wp2
    go_ret
    exact ⟨rfl, rfl⟩

theorem count_nil (w : World) : Calls Tryd.prog 12 #[.pointer none] w fun e w' => e = .returned (.int .i64 0) ∧ w = w' := by
  go_enter Tryd.func12, Tryd.ntmps12
  go_wp2
  go_ret
  exact ⟨rfl, rfl⟩
set_option maxHeartbeats 1000000 in
theorem count_any {w : World} {B R : Nat} {v : Value} {l : List Bool} {m : Bool} (h : St w B R v l m) (hl : l.length ≤ 4096) (r : Nat) (hr : cnt l = r) :
    Calls Tryd.prog 12 #[.pointer (some ⟨R, 0, none⟩)] w fun e w' => e = .returned (.int .i64 (r : Int)) ∧ w = w' := by
  obtain ⟨c0, c1, c2⟩ := h.cells
  obtain ⟨A, c, rfl, hc, hs⟩ := h.form
  obtain ⟨N, hN⟩ : ∃ N, nw l.length = N := ⟨_, rfl⟩
  have hN2 : N ≤ 64 := by rw [← hN]; unfold nw; omega
  have HS := Lib.hid hs
  have HN := Lib.hid hN
  have HR := Lib.hid hr
  rw [hN] at c1
  clear h hs hN hr c0 c2 hc
  go_enter Tryd.func12, Tryd.ntmps12
  go_wp2
  go_loop [3, 12] (fun y q => ∃ j a : Nat, j ≤ N ∧ q = .int .i64 j ∧ y = .int .i64 a ∧ a ≤ 64 * j ∧ Hid (cnt (l.take (64 * j)) = a)) (fun _ q => N - (intOf q).toNat)
  case atStart => exact ⟨0, 0, by omega, rfl, rfl, by omega, rfl⟩
  case round =>
    obtain ⟨j, a, hj, rfl, rfl, ha, E⟩ := hrel
    by_cases hlt : j < N
    · obtain ⟨b, off, rfl, hcell⟩ := word_cell HS.out (show j < nw l.length by rw [HN.out]; exact hlt)
      obtain ⟨x, hx⟩ : ∃ x, word l j = x := ⟨_, rfl⟩
      have hxl : Hid (x < 18446744073709551616) := by show x < _; rw [← hx]; exact word_lt l j
      obtain ⟨p, hp⟩ : ∃ p, pop 64 x = p := ⟨_, rfl⟩
      have hp2 : cnt (l.take (64 * (j + 1))) = a + p := by rw [cnt_word, E.out, hx, hp]
      have hp3 : a + p ≤ 64 * (j + 1) := by rw [← hp2]; have := cnt_le (l.take (64 * (j + 1))); rw [List.length_take] at this; omega
      rw [hx] at hcell
      have HP := Lib.hid hp
      have HP2 := Lib.hid hp2
      clear hx hp hp2
      go_wp2_with fail
      refine (ones_any x p _ hxl.out HP.out).mono ?_; rintro e w' ⟨rfl, rfl⟩
      go_wp2
      go_round
      case rel => exact ⟨j + 1, a + p, by omega, by go_num, by go_num, hp3, HP2⟩
      case measure => simp [intOf]; omega
    · have : j = N := by omega
      subst this
      have e : a = r := by rw [← HR.out, ← E.out, ← HN.out, cnt_all]
      subst e
      go_wp2
      go_ret
      exact ⟨rfl, rfl⟩
end Go.Proofs.YtmeknghlhfpjnaaDoor.W
