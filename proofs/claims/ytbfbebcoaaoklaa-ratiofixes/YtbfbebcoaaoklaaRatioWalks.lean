/-
  Contracts of package ratio's order and of the reference's ranks: what each call returns, and that nothing turns.
-/
import Derived.Test.YtbfbebcoaaoklaaFloatNum
import Derived.Test.YtbfbebcoaaoklaaChecked
import Derived.WalkKit
import Derived.WalkLawsBesides
import Derived.Laws.Externs
import Derived.Laws.Cover2
import Derived.Lib.Hide
namespace Go.Proofs.Ytbfbebcoaaoklaa.W
open Go.RowKit Flt

theorem ret_bool {a b : Bool} (h : a = b) : Ending.returned (.bool a) = .returned (.bool b) := by rw [h]
theorem ret_int {k : IntKind} {a b : Int} (h : a = b) : Ending.returned (.int k a) = .returned (.int k b) := by rw [h]
theorem ret_float {k : FloatKind} {a b : Nat} (h : a = b) : Ending.returned (.float k a) = .returned (.float k b) := by rw [h]


@[go_sem] theorem run_bits (b : Nat) (w : World) : (callFunc 38 #[.float .f64 b]).run Try.prog w = .ok (.value (.int .u64 b)) w := by
  rw [run_callFunc_extern Try.func38 (by kernel_rfl) (by kernel_rfl) (by kernel_rfl) (e := Extern.MathFloatBits.float64bits) (by kernel_rfl)]
  rfl
@[go_sem] theorem run_frombits (n : Int) (w : World) : (callFunc 28 #[.int .u64 n]).run Try.prog w = .ok (.value (.float .f64 n.toNat)) w := by
  rw [run_callFunc_extern Try.func28 (by kernel_rfl) (by kernel_rfl) (by kernel_rfl) (e := Extern.MathFloatBits.float64frombits) (by kernel_rfl)]
  rfl

theorem fmt64 : FloatKind.f64.format = Ieee.double := rfl
theorem self_nan {b : Nat} (h : nan b) : (FloatKind.f64.format.order b b != some Ordering.eq) = true := by rw [fmt64, order_nan_l h]; rfl
theorem self_not {b : Nat} (h : ¬ nan b) : (FloatKind.f64.format.order b b != some Ordering.eq) = false := by rw [fmt64, order_val h h, cmp_eq rfl]; rfl
theorem self_dec (b : Nat) : (FloatKind.f64.format.order b b != some Ordering.eq) = decide (nan b) := by
  by_cases h : nan b
  · rw [self_nan h]; simp [h]
  · rw [self_not h]; simp [h]
theorem sign_dec {b : Nat} (hb : b < 18446744073709551616) : decide (wrap64 (b : Int) < 0) = neg b := by
  cases s : neg b
  · obtain ⟨h, -⟩ := neg_false hb s
    unfold wrap64; simp; omega
  · obtain ⟨h, -⟩ := neg_true hb s
    unfold wrap64; simp; omega

set_option maxHeartbeats 400000 in
theorem isnan_any (b : Nat) (w : World) :
    Calls Try.prog 29 #[.float .f64 b] w fun e w' => e = .returned (.bool (decide (nan b))) ∧ w = w' := by
  go_enter Try.func29, Try.ntmps29
  go_wp2
  go_ret
  exact ⟨ret_bool (self_dec b), rfl⟩

set_option maxHeartbeats 400000 in
theorem signbit_any (b : Nat) (hb : b < 18446744073709551616) (w : World) :
    Calls Try.prog 30 #[.float .f64 b] w fun e w' => e = .returned (.bool (neg b)) ∧ w = w' := by
  have H := Lib.hid (sign_dec hb)
  clear hb
  go_enter Try.func30, Try.ntmps30
  go_wp2
  go_ret
  exact ⟨ret_bool H.out, rfl⟩

set_option maxHeartbeats 400000 in
theorem rank_any (b : Nat) (hb : b < 18446744073709551616) (w : World) :
    Calls Try.prog 31 #[.float .f64 b] w fun e w' => e = .returned (.int .u64 (rk b)) ∧ w = w' := by
  by_cases h : nan b
  · have H := Lib.hid (rk_nan h)
    have hs := self_nan h
    clear h
    go_enter Try.func31, Try.ntmps31
    go_wp2
    go_ret
    exact ⟨ret_int (by rw [H.out]; rfl), rfl⟩
  · have hs := self_not h
    cases s : neg b
    · have H := Lib.hid (rk_pos h s)
      obtain ⟨h1, -⟩ := neg_false hb s
      clear h s
      go_enter Try.func31, Try.ntmps31
      go_wp2
      go_ret
      exact ⟨ret_int (by rw [H.out]; clear H; omega), rfl⟩
    · have H := Lib.hid (rk_neg h s)
      obtain ⟨h1, -⟩ := neg_true hb s
      clear h s
      go_enter Try.func31, Try.ntmps31
      go_wp2
      go_ret
      exact ⟨ret_int (by rw [H.out]; clear H; omega), rfl⟩

theorem isnan_yes {b : Nat} (h : nan b) (w : World) :
    Calls Try.prog 29 #[.float .f64 b] w fun e w' => e = .returned (.bool true) ∧ w = w' := by
  have := isnan_any b w; simpa only [h, decide_true] using this
theorem isnan_no {b : Nat} (h : ¬ nan b) (w : World) :
    Calls Try.prog 29 #[.float .f64 b] w fun e w' => e = .returned (.bool false) ∧ w = w' := by
  have := isnan_any b w; simpa only [h, decide_false] using this

set_option maxHeartbeats 400000 in
theorem rless_any (a b : Nat) (ha : a < 18446744073709551616) (hb : b < 18446744073709551616) (w : World) :
    Calls Try.prog 11 #[.float .f64 a, .float .f64 b] w fun e w' => e = .returned (.bool (decide (rk a < rk b))) ∧ w = w' := by
  have HA := Lib.hid ha
  have HB := Lib.hid hb
  clear ha hb
  go_enter Try.func11, Try.ntmps11
  go_wp2_with fail
  refine (rank_any _ HA.out _).mono ?_; rintro e w' ⟨rfl, rfl⟩
  go_wp2_with fail
  refine (rank_any _ HB.out _).mono ?_; rintro e w' ⟨rfl, rfl⟩
  go_wp2
  go_ret
  exact ⟨ret_bool (by simp), rfl⟩

set_option maxHeartbeats 400000 in
theorem rsame_any (a b : Nat) (ha : a < 18446744073709551616) (hb : b < 18446744073709551616) (w : World) :
    Calls Try.prog 13 #[.float .f64 a, .float .f64 b] w fun e w' => e = .returned (.bool (decide (rk a = rk b))) ∧ w = w' := by
  have HA := Lib.hid ha
  have HB := Lib.hid hb
  clear ha hb
  go_enter Try.func13, Try.ntmps13
  go_wp2_with fail
  refine (rank_any _ HA.out _).mono ?_; rintro e w' ⟨rfl, rfl⟩
  go_wp2_with fail
  refine (rank_any _ HB.out _).mono ?_; rintro e w' ⟨rfl, rfl⟩
  go_wp2
  go_ret
  exact ⟨ret_bool (by rw [Bool.eq_iff_iff]; simp; omega), rfl⟩

theorem ord_lt {a b : Nat} (na : ¬ nan a) (nb : ¬ nan b) (h : val a < val b) : (FloatKind.f64.format.order a b == some Ordering.eq) = false ∧ (FloatKind.f64.format.order a b == some Ordering.lt) = true := by
  rw [fmt64, order_val na nb, cmp_lt h]; exact ⟨rfl, rfl⟩
theorem ord_eq {a b : Nat} (na : ¬ nan a) (nb : ¬ nan b) (h : val a = val b) : (FloatKind.f64.format.order a b == some Ordering.eq) = true ∧ (FloatKind.f64.format.order a b == some Ordering.lt) = false := by
  rw [fmt64, order_val na nb, cmp_eq h]; exact ⟨rfl, rfl⟩
theorem ord_gt {a b : Nat} (na : ¬ nan a) (nb : ¬ nan b) (h : val b < val a) : (FloatKind.f64.format.order a b == some Ordering.eq) = false ∧ (FloatKind.f64.format.order a b == some Ordering.lt) = false := by
  rw [fmt64, order_val na nb, cmp_gt h]; exact ⟨rfl, rfl⟩

set_option maxHeartbeats 1000000 in
theorem less_any (a b : Nat) (ha : a < 18446744073709551616) (hb : b < 18446744073709551616) (w : World) :
    Calls Try.prog 10 #[.float .f64 a, .float .f64 b] w fun e w' => e = .returned (.bool (decide (rk a < rk b))) ∧ w = w' := by
  by_cases na : nan a
  · have H : Hid (decide (rk a < rk b) = false) := by show decide (rk a < rk b) = false; have := rk_le hb; rw [rk_nan na]; simp; omega
    have NA := Lib.hid na
    clear na
    go_enter Try.func10, Try.ntmps10
    go_wp2_with fail
    refine (isnan_yes NA.out _).mono ?_; rintro e w' ⟨rfl, rfl⟩
    go_wp2_with fail
    refine (isnan_yes NA.out _).mono ?_; rintro e w' ⟨rfl, rfl⟩
    go_wp2
    go_ret
    exact ⟨ret_bool H.out.symm, rfl⟩
  · by_cases nb : nan b
    · have H : Hid (decide (rk a < rk b) = true) := by show decide (rk a < rk b) = true; have := rk_lt ha na; rw [rk_nan nb]; simp; omega
      have NA := Lib.hid na
      have NB := Lib.hid nb
      clear na nb
      go_enter Try.func10, Try.ntmps10
      go_wp2_with fail
      refine (isnan_no NA.out _).mono ?_; rintro e w' ⟨rfl, rfl⟩
      go_wp2_with fail
      refine (isnan_yes NB.out _).mono ?_; rintro e w' ⟨rfl, rfl⟩
      go_wp2_with fail
      refine (isnan_no NA.out _).mono ?_; rintro e w' ⟨rfl, rfl⟩
      go_wp2
      go_ret
      exact ⟨ret_bool H.out.symm, rfl⟩
    · have R := rk_val ha hb na nb
      rcases Int.lt_trichotomy (val a) (val b) with h | h | h
      · have H : Hid (decide (rk a < rk b) = true) := by show decide (rk a < rk b) = true; simp [R, h]
        obtain ⟨o1, o2⟩ := ord_lt na nb h
        have NA := Lib.hid na
        have NB := Lib.hid nb
        clear na nb R h
        go_enter Try.func10, Try.ntmps10
        go_wp2_with fail
        refine (isnan_no NA.out _).mono ?_; rintro e w' ⟨rfl, rfl⟩
        go_wp2_with fail
        refine (isnan_no NB.out _).mono ?_; rintro e w' ⟨rfl, rfl⟩
        go_wp2
        go_ret
        exact ⟨ret_bool H.out.symm, rfl⟩
      · have H : Hid (decide (rk a < rk b) = (neg a && !neg b)) := by show decide (rk a < rk b) = (neg a && !neg b); rw [Bool.eq_iff_iff]; simp [R, h]
        obtain ⟨o1, o2⟩ := ord_eq na nb h
        have NA := Lib.hid na
        have NB := Lib.hid nb
        have HA := Lib.hid ha
        have HB := Lib.hid hb
        clear na nb R h o2 ha hb
        cases sa : neg a
        · have SA : ∀ w, Calls Try.prog 30 #[.float .f64 a] w fun e w' => e = .returned (.bool false) ∧ w = w' := fun w => by have := signbit_any a HA.out w; rwa [sa] at this
          have SA := Lib.hid SA
          have HH := H.out
          rw [sa] at HH
          have HH := Lib.hid HH
          clear H sa
          go_enter Try.func10, Try.ntmps10
          go_wp2_with fail
          refine (isnan_no NA.out _).mono ?_; rintro e w' ⟨rfl, rfl⟩
          go_wp2_with fail
          refine (isnan_no NB.out _).mono ?_; rintro e w' ⟨rfl, rfl⟩
          go_wp2_with fail
          refine (SA.out _).mono ?_; rintro e w' ⟨rfl, rfl⟩
          go_wp2
          go_ret
          exact ⟨ret_bool HH.out.symm, rfl⟩
        · have SA : ∀ w, Calls Try.prog 30 #[.float .f64 a] w fun e w' => e = .returned (.bool true) ∧ w = w' := fun w => by have := signbit_any a HA.out w; rwa [sa] at this
          have SA := Lib.hid SA
          have HH := H.out
          rw [sa] at HH
          have HH := Lib.hid HH
          clear H sa
          go_enter Try.func10, Try.ntmps10
          go_wp2_with fail
          refine (isnan_no NA.out _).mono ?_; rintro e w' ⟨rfl, rfl⟩
          go_wp2_with fail
          refine (isnan_no NB.out _).mono ?_; rintro e w' ⟨rfl, rfl⟩
          go_wp2_with fail
          refine (SA.out _).mono ?_; rintro e w' ⟨rfl, rfl⟩
          go_wp2_with fail
          refine (signbit_any _ HB.out _).mono ?_; rintro e w' ⟨rfl, rfl⟩
          go_wp2
          go_ret
          exact ⟨ret_bool HH.out.symm, rfl⟩
      · have H : Hid (decide (rk a < rk b) = false) := by
          show decide (rk a < rk b) = false
          have h1 : ¬ val a < val b := by omega
          have h2 : ¬ val a = val b := by omega
          simp only [R, h1, h2, false_and, or_self, decide_false]
        obtain ⟨o1, o2⟩ := ord_gt na nb h
        have NA := Lib.hid na
        have NB := Lib.hid nb
        clear na nb R h
        go_enter Try.func10, Try.ntmps10
        go_wp2_with fail
        refine (isnan_no NA.out _).mono ?_; rintro e w' ⟨rfl, rfl⟩
        go_wp2_with fail
        refine (isnan_no NB.out _).mono ?_; rintro e w' ⟨rfl, rfl⟩
        go_wp2
        go_ret
        exact ⟨ret_bool H.out.symm, rfl⟩

theorem less_yes {a b : Nat} (ha : a < 18446744073709551616) (hb : b < 18446744073709551616) (h : rk a < rk b) (w : World) :
    Calls Try.prog 10 #[.float .f64 a, .float .f64 b] w fun e w' => e = .returned (.bool true) ∧ w = w' := by
  have := less_any a b ha hb w; simpa only [h, decide_true] using this
theorem less_no {a b : Nat} (ha : a < 18446744073709551616) (hb : b < 18446744073709551616) (h : ¬ rk a < rk b) (w : World) :
    Calls Try.prog 10 #[.float .f64 a, .float .f64 b] w fun e w' => e = .returned (.bool false) ∧ w = w' := by
  have := less_any a b ha hb w; simpa only [h, decide_false] using this
theorem rless_yes {a b : Nat} (ha : a < 18446744073709551616) (hb : b < 18446744073709551616) (h : rk a < rk b) (w : World) :
    Calls Try.prog 11 #[.float .f64 a, .float .f64 b] w fun e w' => e = .returned (.bool true) ∧ w = w' := by
  have := rless_any a b ha hb w; simpa only [h, decide_true] using this
theorem rless_no {a b : Nat} (ha : a < 18446744073709551616) (hb : b < 18446744073709551616) (h : ¬ rk a < rk b) (w : World) :
    Calls Try.prog 11 #[.float .f64 a, .float .f64 b] w fun e w' => e = .returned (.bool false) ∧ w = w' := by
  have := rless_any a b ha hb w; simpa only [h, decide_false] using this

set_option maxHeartbeats 400000 in
theorem same_any (a b : Nat) (ha : a < 18446744073709551616) (hb : b < 18446744073709551616) (w : World) :
    Calls Try.prog 12 #[.float .f64 a, .float .f64 b] w fun e w' => e = .returned (.bool (decide (rk a = rk b))) ∧ w = w' := by
  have HA := Lib.hid ha
  have HB := Lib.hid hb
  clear ha hb
  by_cases h : rk a < rk b
  · have H : Hid (decide (rk a = rk b) = false) := by show decide (rk a = rk b) = false; simp; omega
    have L := Lib.hid h
    clear h
    go_enter Try.func12, Try.ntmps12
    go_wp2_with fail
    refine (less_yes HA.out HB.out L.out _).mono ?_; rintro e w' ⟨rfl, rfl⟩
    go_wp2
    go_ret
    exact ⟨ret_bool H.out.symm, rfl⟩
  · have H : Hid (decide (rk a = rk b) = !decide (rk b < rk a)) := by show decide (rk a = rk b) = !decide (rk b < rk a); rw [Bool.eq_iff_iff]; simp; omega
    have L := Lib.hid h
    clear h
    go_enter Try.func12, Try.ntmps12
    go_wp2_with fail
    refine (less_no HA.out HB.out L.out _).mono ?_; rintro e w' ⟨rfl, rfl⟩
    go_wp2_with fail
    refine (less_any _ _ HB.out HA.out _).mono ?_; rintro e w' ⟨rfl, rfl⟩
    go_wp2
    go_ret
    exact ⟨ret_bool H.out.symm, rfl⟩

/-- a float fixed between two -/
def fixN (f lo hi no : Nat) : Nat := if nan f then no else if rk f < rk lo then lo else if rk hi < rk f then hi else f
theorem fixN_lt {f lo hi no : Nat} (h1 : f < 18446744073709551616) (h2 : lo < 18446744073709551616) (h3 : hi < 18446744073709551616) (h4 : no < 18446744073709551616) : fixN f lo hi no < 18446744073709551616 := by
  unfold fixN; split
  · exact h4
  · split
    · exact h2
    · split <;> assumption

set_option maxHeartbeats 1000000 in
theorem fix_any (f lo hi no : Nat) (h1 : f < 18446744073709551616) (h2 : lo < 18446744073709551616) (h3 : hi < 18446744073709551616) (w : World) :
    Calls Try.prog 15 #[.float .f64 f, .float .f64 lo, .float .f64 hi, .float .f64 no] w fun e w' => e = .returned (.float .f64 (fixN f lo hi no)) ∧ w = w' := by
  have K1 := Lib.hid h1
  have K2 := Lib.hid h2
  have K3 := Lib.hid h3
  clear h1 h2 h3
  by_cases n : nan f
  · have H : Hid (fixN f lo hi no = no) := by show fixN f lo hi no = no; unfold fixN; rw [if_pos n]
    have N := Lib.hid n
    clear n
    go_enter Try.func15, Try.ntmps15
    go_wp2_with fail
    refine (isnan_yes N.out _).mono ?_; rintro e w' ⟨rfl, rfl⟩
    go_wp2
    go_ret
    exact ⟨ret_float H.out.symm, rfl⟩
  · by_cases l : rk f < rk lo
    · have H : Hid (fixN f lo hi no = lo) := by show fixN f lo hi no = lo; unfold fixN; rw [if_neg n, if_pos l]
      have N := Lib.hid n
      have L := Lib.hid l
      clear n l
      go_enter Try.func15, Try.ntmps15
      go_wp2_with fail
      refine (isnan_no N.out _).mono ?_; rintro e w' ⟨rfl, rfl⟩
      go_wp2_with fail
      refine (less_yes K1.out K2.out L.out _).mono ?_; rintro e w' ⟨rfl, rfl⟩
      go_wp2
      go_ret
      exact ⟨ret_float H.out.symm, rfl⟩
    · by_cases u : rk hi < rk f
      · have H : Hid (fixN f lo hi no = hi) := by show fixN f lo hi no = hi; unfold fixN; rw [if_neg n, if_neg l, if_pos u]
        have N := Lib.hid n
        have L := Lib.hid l
        have U := Lib.hid u
        clear n l u
        go_enter Try.func15, Try.ntmps15
        go_wp2_with fail
        refine (isnan_no N.out _).mono ?_; rintro e w' ⟨rfl, rfl⟩
        go_wp2_with fail
        refine (less_no K1.out K2.out L.out _).mono ?_; rintro e w' ⟨rfl, rfl⟩
        go_wp2_with fail
        refine (less_yes K3.out K1.out U.out _).mono ?_; rintro e w' ⟨rfl, rfl⟩
        go_wp2
        go_ret
        exact ⟨ret_float H.out.symm, rfl⟩
      · have H : Hid (fixN f lo hi no = f) := by show fixN f lo hi no = f; unfold fixN; rw [if_neg n, if_neg l, if_neg u]
        have N := Lib.hid n
        have L := Lib.hid l
        have U := Lib.hid u
        clear n l u
        go_enter Try.func15, Try.ntmps15
        go_wp2_with fail
        refine (isnan_no N.out _).mono ?_; rintro e w' ⟨rfl, rfl⟩
        go_wp2_with fail
        refine (less_no K1.out K2.out L.out _).mono ?_; rintro e w' ⟨rfl, rfl⟩
        go_wp2_with fail
        refine (less_no K3.out K1.out U.out _).mono ?_; rintro e w' ⟨rfl, rfl⟩
        go_wp2
        go_ret
        exact ⟨ret_float H.out.symm, rfl⟩

set_option maxHeartbeats 1000000 in
theorem rfix_any (f lo hi no : Nat) (h1 : f < 18446744073709551616) (h2 : lo < 18446744073709551616) (h3 : hi < 18446744073709551616) (w : World) :
    Calls Try.prog 16 #[.float .f64 f, .float .f64 lo, .float .f64 hi, .float .f64 no] w fun e w' => e = .returned (.float .f64 (fixN f lo hi no)) ∧ w = w' := by
  have K1 := Lib.hid h1
  have K2 := Lib.hid h2
  have K3 := Lib.hid h3
  clear h1 h2 h3
  by_cases n : nan f
  · have H : Hid (fixN f lo hi no = no) := by show fixN f lo hi no = no; unfold fixN; rw [if_pos n]
    have s := self_nan n
    clear n
    go_enter Try.func16, Try.ntmps16
    go_wp2
    go_ret
    exact ⟨ret_float H.out.symm, rfl⟩
  · by_cases l : rk f < rk lo
    · have H : Hid (fixN f lo hi no = lo) := by show fixN f lo hi no = lo; unfold fixN; rw [if_neg n, if_pos l]
      have s := self_not n
      have L := Lib.hid l
      clear n l
      go_enter Try.func16, Try.ntmps16
      go_wp2_with fail
      refine (rless_yes K1.out K2.out L.out _).mono ?_; rintro e w' ⟨rfl, rfl⟩
      go_wp2
      go_ret
      exact ⟨ret_float H.out.symm, rfl⟩
    · by_cases u : rk hi < rk f
      · have H : Hid (fixN f lo hi no = hi) := by show fixN f lo hi no = hi; unfold fixN; rw [if_neg n, if_neg l, if_pos u]
        have s := self_not n
        have L := Lib.hid l
        have U := Lib.hid u
        clear n l u
        go_enter Try.func16, Try.ntmps16
        go_wp2_with fail
        refine (rless_no K1.out K2.out L.out _).mono ?_; rintro e w' ⟨rfl, rfl⟩
        go_wp2_with fail
        refine (rless_yes K3.out K1.out U.out _).mono ?_; rintro e w' ⟨rfl, rfl⟩
        go_wp2
        go_ret
        exact ⟨ret_float H.out.symm, rfl⟩
      · have H : Hid (fixN f lo hi no = f) := by show fixN f lo hi no = f; unfold fixN; rw [if_neg n, if_neg l, if_neg u]
        have s := self_not n
        have L := Lib.hid l
        have U := Lib.hid u
        clear n l u
        go_enter Try.func16, Try.ntmps16
        go_wp2_with fail
        refine (rless_no K1.out K2.out L.out _).mono ?_; rintro e w' ⟨rfl, rfl⟩
        go_wp2_with fail
        refine (rless_no K3.out K1.out U.out _).mono ?_; rintro e w' ⟨rfl, rfl⟩
        go_wp2
        go_ret
        exact ⟨ret_float H.out.symm, rfl⟩

set_option maxHeartbeats 400000 in
theorem weight_any (f : Nat) (h : f < 18446744073709551616) (w : World) :
    Calls Try.prog 37 #[.float .f64 f] w fun e w' => e = .returned (.float .f64 (fixN f 0 4607182418800017408 0)) ∧ w = w' := by
  have K := Lib.hid h
  clear h
  go_enter Try.func37, Try.ntmps37
  go_wp2_with fail
  refine (fix_any _ _ _ _ K.out (by omega) (by omega) _).mono ?_; rintro e w' ⟨rfl, rfl⟩
  go_wp2
  go_ret
  exact ⟨rfl, rfl⟩

set_option maxHeartbeats 400000 in
theorem lawf_any (n : Int) (w : World) :
    Calls Try.prog 9 #[.int .u64 n] w fun e w' => e = .returned (.float .f64 n.toNat) ∧ w = w' := by
  go_enter Try.func9, Try.ntmps9
  go_wp2
  go_ret
  exact ⟨rfl, rfl⟩
end Go.Proofs.Ytbfbebcoaaoklaa.W
