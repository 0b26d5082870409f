/-
  Contracts of package bits' Has, least, Next and Free. No conditions.
-/
import Derived.Test.YtmeknghlhfpjnaaDoorBitSet
import Derived.Test.YtmeknghlhfpjnaaDoorBitSeek
import Derived.IntWalk
import Derived.BigQuiet
namespace Go.Proofs.YtmeknghlhfpjnaaDoor.W
open Go.RowKit Bt Rw
set_option linter.unusedVariables false

/-- what a call leaves that only reads -/
def Tells (w : World) (v : Value) (e : Ending) (w' : World) : Prop := e = .returned v ∧ ∃ k, w' = w.drewN k
theorem quiet {P : Program} {f : FuncId} {args : Array Value} {w : World} {n : Nat} {v : Value} (h : Calls P f args (w.drewN n) fun e w' => e = .returned v ∧ w.drewN n = w') : Calls P f args (w.drewN n) fun e w'' => e = .returned v ∧ ∃ m, w'' = w.drewN m :=
  h.mono fun _ _ ⟨he, hm⟩ => ⟨he, n, hm.symm⟩
/-- is i in? -/
def hasI (l : List Bool) (i : Int) : Bool := decide (0 ≤ i) && inn l i.toNat

set_option maxHeartbeats 2000000 in
theorem has_nil (i : Int) (w : World) : Calls Tryd.prog 18 #[.pointer none, .int .i64 i] w (Tells w (.bool false)) := by
  go_enter Tryd.func18, Tryd.ntmps18
  go_wp2
  go_quiet ((go_at_call 29; exact quiet (room_nil _ _)))
  go_wp2
  go_ret
  exact ⟨rfl, _, rfl⟩
set_option maxHeartbeats 2000000 in
theorem has_out {w : World} {B R : Nat} {v : Value} {l : List Bool} {m : Bool} (h : St w B R v l m) (i : Int) (h0 : ¬ (0 ≤ i ∧ i < (l.length : Int))) :
    Calls Tryd.prog 18 #[.pointer (some ⟨R, 0, none⟩), .int .i64 i] w (Tells w (.bool false)) := by
  have H := Lib.hid h
  have H0 := Lib.hid h0
  clear h h0
  go_enter Tryd.func18, Tryd.ntmps18
  go_wp2
  go_quiet ((go_at_call 29; exact quiet (room_no (H.out.dn _) _ H0.out)))
  go_wp2
  go_ret
  exact ⟨rfl, _, rfl⟩
theorem quo64 (i : Nat) (h : i ≤ 1000000) : IntKind.i64.wrap ((i : Int) / 64) = ((i / 64 : Nat) : Int) := by
  rw [IntWalk.i64_in _ (by omega)]
  omega
set_option maxHeartbeats 1000000 in
theorem has_in {w : World} {B R : Nat} {v : Value} {l : List Bool} {m : Bool} (h : St w B R v l m) (hl : l.length ≤ 4096) (i : Nat) (h0 : i < l.length) (b : Bool) (hb : inn l i = b) :
    Calls Tryd.prog 18 #[.pointer (some ⟨R, 0, none⟩), .int .i64 (i : Int)] w (Tells w (.bool b)) := by
  have H := Lib.hid h
  obtain ⟨c0, c1, c2⟩ := h.cells
  obtain ⟨A, c, rfl, hc, hs⟩ := h.form
  obtain ⟨bk, off, rfl, hcell⟩ := word_cell hs (nw_at h0)
  obtain ⟨N, hN⟩ : ∃ N, nw l.length = N := ⟨_, rfl⟩
  obtain ⟨j, hj⟩ : ∃ j, i / 64 = j := ⟨_, rfl⟩
  have hjN : j < N := by rw [← hN, ← hj]; exact nw_at h0
  have hN2 : N ≤ 64 := by rw [← hN]; unfold nw; omega
  have eq1 := quo64 i (by omega)
  obtain ⟨x, hx⟩ : ∃ x, word l j = x := ⟨_, rfl⟩
  obtain ⟨p, hp⟩ : ∃ p, 2 ^ (i % 64) = p := ⟨_, rfl⟩
  obtain ⟨y, hy⟩ : ∃ y, x &&& p = y := ⟨_, rfl⟩
  have hxl : x < 18446744073709551616 := by rw [← hx]; exact word_lt l j
  have hpl : p < 18446744073709551616 := by rw [← hp]; exact pow_mod64 i
  have e1 : bits BinOp.and IntKind.u64 (x : Int) (p : Int) = (y : Int) := by rw [u64_and_nat x p hxl hpl, hy]
  have e2 : ((y : Int) != 0) = b := by
    have := word_has l i
    rw [hj, hx, hp, hy, hb] at this
    cases b
    · simp [this]
    · simpa using this
  rw [hN] at c1
  rw [hj] at eq1 hcell
  rw [hx] at hcell
  have HP := Lib.hid hp
  have hi0 : (0 : Int) ≤ (j : Int) := by omega
  have hi1 : (j : Int) < (N : Int) := by omega
  clear h hs hN hc c0 c2 hj hx hp hy hb hxl hpl
  go_enter Tryd.func18, Tryd.ntmps18
  go_wp2
  go_quiet ((first | (go_at_call 29; exact quiet (room_yes (H.out.dn _) _ (by omega) (by omega))) | (go_at_call 30; exact quiet (bitof_any i p _ (by omega) HP.out))))
  go_wp2
  go_ret
  exact ⟨rfl, _, rfl⟩
theorem has_any {w : World} {B R : Nat} {v : Value} {l : List Bool} {m : Bool} (h : St w B R v l m) (hl : l.length ≤ 4096) (i : Int) (b : Bool) (hb : hasI l i = b) :
    Calls Tryd.prog 18 #[.pointer (some ⟨R, 0, none⟩), .int .i64 i] w (Tells w (.bool b)) := by
  by_cases h0 : 0 ≤ i ∧ i < (l.length : Int)
  · obtain ⟨k, rfl⟩ := Int.eq_ofNat_of_zero_le h0.1
    refine has_in h hl k (by omega) b ?_
    rw [← hb, hasI, Int.toNat_natCast]
    simp
  · have e : b = false := by
      rw [← hb, hasI]
      by_cases h1 : 0 ≤ i
      · rw [inn_ge (by omega)]; simp
      · simp [h1]
    subst e
    exact has_out h i h0

theorem max_zero (i : Int) : (if i < 0 then (0 : Int) else i) = (i.toNat : Int) := by split <;> omega
theorem ret_pair {a b : Int} {x y : Bool} (h1 : a = b) (h2 : x = y) : Ending.returned (.tuple #[.int .i64 a, .bool x]) = .returned (.tuple #[.int .i64 b, .bool y]) := by rw [h1, h2]
theorem less_one {p q : Nat} (h : 1 ≤ p) (hp : p < 18446744073709551616) (hq : p - 1 = q) : IntKind.u64.wrap ((p : Int) - 1) = (q : Int) := by rw [IntKind.wrap_u64]; omega

theorem least_out {w : World} {B R : Nat} {v : Value} {l : List Bool} {m : Bool} (h : St w B R v l m) (i : Int) (k f : Nat) (hk : i.toNat = k) (h0 : l.length ≤ k) :
    Calls Tryd.prog 28 #[.pointer (some ⟨R, 0, none⟩), .int .i64 i, .int .u64 (f : Int)] w fun e w' => e = .returned (.tuple #[.int .i64 0, .bool false]) ∧ w = w' := by
  have H := Lib.hid h
  have hmx := max_zero i
  rw [hk] at hmx
  clear h hk
  go_enter Tryd.func28, Tryd.ntmps28
  go_wp2_with fail
  refine (room_no H.out _ (by omega)).mono ?_; rintro e w' ⟨rfl, rfl⟩
  go_wp2
  go_ret2
  exact ⟨rfl, rfl⟩
set_option maxHeartbeats 4000000 in
theorem least_in {w : World} {B R : Nat} {v : Value} {l : List Bool} {m : Bool} (h : St w B R v l m) (hl : l.length ≤ 4096) (he : Env w) (i : Int) (k : Nat) (b : Bool) (f : Nat) (hf : fl b = f) (hk : i.toNat = k) (h0 : k < l.length) (r : Int) (ok : Bool) (hn : Nx l k b r ok) :
    Calls Tryd.prog 28 #[.pointer (some ⟨R, 0, none⟩), .int .i64 i, .int .u64 (f : Int)] w fun e w' => e = .returned (.tuple #[.int .i64 r, .bool ok]) ∧ w = w' := by
  have H := Lib.hid h
  have HE := Lib.hid he
  have HF := Lib.hid hf
  have HNX := Lib.hid hn
  have hmx := max_zero i
  rw [hk] at hmx
  obtain ⟨c0, c1, c2⟩ := h.cells
  obtain ⟨A, c, rfl, hc, hs⟩ := h.form
  obtain ⟨N, hN⟩ : ∃ N, nw l.length = N := ⟨_, rfl⟩
  obtain ⟨F, hF⟩ : ∃ F, k / 64 = F := ⟨_, rfl⟩
  have hFN : F < N := by rw [← hN, ← hF]; exact nw_at h0
  have hN2 : N ≤ 64 := by rw [← hN]; unfold nw; omega
  have hNl : l.length ≤ 64 * N := by rw [← hN]; unfold nw; omega
  have e0 : (k : Int) / 64 = (F : Int) := by omega
  obtain ⟨p, hp⟩ : ∃ p, 2 ^ (k % 64) = p := ⟨_, rfl⟩
  have p1 : 1 ≤ p := by rw [← hp]; exact Nat.one_le_two_pow
  have p2 : p < 18446744073709551616 := by rw [← hp]; exact pow_mod64 k
  obtain ⟨b0, hb0⟩ : ∃ b0, p - 1 = b0 := ⟨_, rfl⟩
  have e1 := less_one p1 p2 hb0
  have HS := Lib.hid hs
  have HN := Lib.hid hN
  have HP := Lib.hid hp
  have HB0 : Hid (low k 0 = b0) := by show low k 0 = b0; rw [low, if_pos rfl, hp, hb0]
  have HFF := Lib.hid hF
  have fl1 := fl_lt b
  rw [hf] at fl1
  have FL := Lib.hid fl1
  rw [hN] at c1
  clear h hs hN hk hf he hn c0 c2 hc hp hb0 p1 p2 hF fl1
  go_enter Tryd.func28, Tryd.ntmps28
  go_wp2_with fail
  refine (room_yes H.out _ (by omega) (by omega)).mono ?_; rintro e w' ⟨rfl, rfl⟩
  go_wp2_with fail
  refine (bitof_any k p _ (by omega) HP.out).mono ?_; rintro e w' ⟨rfl, rfl⟩
  go_wp2
  go_loop [9, 31] (fun y q => ∃ j a : Nat, F + j ≤ N ∧ q = .int .i64 j ∧ y = .int .u64 a ∧ Hid (low k j = a) ∧ Hid (Nobody l b k (64 * (k / 64 + j)))) (fun _ q => N - (intOf q).toNat)
  case atStart => exact ⟨0, b0, by omega, rfl, rfl, HB0, nobody_zero l b k⟩
  case round =>
    obtain ⟨j, a, hj, rfl, rfl, EA, NB⟩ := hrel
    by_cases hlt : F + j < N
    · have hlt2 : (j : Int) < (N : Int) - (F : Int) := by omega
      obtain ⟨bk, off, rfl, hcell⟩ := word_cell HS.out (show F + j < nw l.length by rw [HN.out]; exact hlt)
      obtain ⟨x, hx⟩ : ∃ x, word l (F + j) = x := ⟨_, rfl⟩
      obtain ⟨y, hy⟩ : ∃ y, x ^^^ f = y := ⟨_, rfl⟩
      obtain ⟨z, hz⟩ : ∃ z, seek l b (F + j) a = z := ⟨_, rfl⟩
      have hxl : x < 18446744073709551616 := by rw [← hx]; exact word_lt l _
      have hal : a < 18446744073709551616 := by rw [← EA.out]; exact low_lt k j
      have hyl : y < 18446744073709551616 := by rw [← hy]; exact Nat.xor_lt_two_pow (n := 64) hxl FL.out
      have hzl : z < 18446744073709551616 := by rw [← hz]; exact seek_lt _ _ _ _
      have q1 : bits BinOp.xor IntKind.u64 (x : Int) (f : Int) = (y : Int) := by rw [u64_xor_nat x f hxl FL.out, hy]
      have q2 : bits BinOp.andNot IntKind.u64 (y : Int) (a : Int) = (z : Int) := by
        rw [u64_andNot_nat y a hyl hal, ← hz, seek, hx, HF.out, hy]
      obtain ⟨t, ht⟩ : ∃ t, Lib.ctz 64 z = t := ⟨_, rfl⟩
      rw [← EA.out, ← HFF.out] at hz
      rw [hx] at hcell
      have HZ := Lib.hid hz
      have HZL := Lib.hid hzl
      have HT := Lib.hid ht
      clear hx hy hz hxl hal hyl hzl ht
      by_cases z0 : z = 0
      · subst z0
        have ht64 : t = 64 := HT.out.symm
        subst ht64
        go_wp2_with fail
        refine (tz_any 0 64 _ (by decide) HE.out rfl).mono ?_; rintro e w' ⟨rfl, rfl⟩
        go_wp2
        go_round
        case rel => exact ⟨j + 1, 0, by omega, by go_num, rfl, by show low k (j + 1) = 0; rw [low, if_neg (by omega)], nobody_word NB.out HZ.out⟩
        case measure => simp [intOf]; omega
      · have hz0 : ((z : Int) != 0) = true := by simp; omega
        have FD := Lib.hid (found (t := t) NB.out (by rw [HZ.out]; exact z0) (by rw [HZ.out]; exact HT.out))
        have t64 := FD.out.1
        by_cases hr : 64 * (F + j) + t < l.length
        · have HR := Lib.hid (HNX.out.yes (k := 64 * (k / 64 + j) + t) FD.out.2.1 (by rw [HFF.out]; exact hr) FD.out.2.2.1 fun q h1 h2 => FD.out.2.2.2 q h1 h2 (by rw [HFF.out] at h2; omega))
          have HR1 : Hid (((F : Int) + (j : Int)) * 64 + (t : Int) = r) := by show _ = _; rw [HR.out.1, HFF.out]; omega
          go_wp2_with fail
          refine (tz_any z t _ HZL.out HE.out HT.out).mono ?_; rintro e w' ⟨rfl, rfl⟩
          go_wp2_with fail
          refine (room_yes H.out _ (by omega) (by omega)).mono ?_; rintro e w' ⟨rfl, rfl⟩
          go_wp2
          go_ret2
          exact ⟨ret_pair HR1.out HR.out.2.symm, rfl⟩
        · go_wp2_with fail
          refine (tz_any z t _ HZL.out HE.out HT.out).mono ?_; rintro e w' ⟨rfl, rfl⟩
          go_wp2_with fail
          refine (room_no H.out _ (by omega)).mono ?_; rintro e w' ⟨rfl, rfl⟩
          go_wp2
          go_round
          case rel => exact ⟨j + 1, 0, by omega, by go_num, rfl, by show low k (j + 1) = 0; rw [low, if_neg (by omega)], nobody_over FD.out.2.2.2 (by rw [HFF.out]; omega)⟩
          case measure => simp [intOf]; omega
    · have hlt2 : (N : Int) - (F : Int) ≤ (j : Int) := by omega
      have HR := Lib.hid (HNX.out.no fun q h1 h2 => NB.out q h1 (by rw [HFF.out]; omega) h2)
      go_wp2
      go_ret2
      exact ⟨ret_pair HR.out.1.symm HR.out.2.symm, rfl⟩
theorem least_any {w : World} {B R : Nat} {v : Value} {l : List Bool} {m : Bool} (h : St w B R v l m) (hl : l.length ≤ 4096) (he : Env w) (i : Int) (b : Bool) (f : Nat) (hf : fl b = f) (r : Int) (ok : Bool) (hn : Nx l i.toNat b r ok) :
    Calls Tryd.prog 28 #[.pointer (some ⟨R, 0, none⟩), .int .i64 i, .int .u64 (f : Int)] w fun e w' => e = .returned (.tuple #[.int .i64 r, .bool ok]) ∧ w = w' := by
  by_cases h0 : i.toNat < l.length
  · exact least_in h hl he i _ b f hf rfl h0 r ok hn
  · obtain ⟨rfl, rfl⟩ := hn.no fun j h1 h2 => by omega
    exact least_out h i _ f rfl (by omega)
theorem least_nil (i : Int) (f : Nat) (w : World) : Calls Tryd.prog 28 #[.pointer none, .int .i64 i, .int .u64 (f : Int)] w fun e w' => e = .returned (.tuple #[.int .i64 0, .bool false]) ∧ w = w' := by
  have hmx := max_zero i
  go_enter Tryd.func28, Tryd.ntmps28
  go_wp2_with fail
  refine (room_nil _ _).mono ?_; rintro e w' ⟨rfl, rfl⟩
  go_wp2
  go_ret2
  exact ⟨rfl, rfl⟩
theorem next_nil (i : Int) (w : World) : Calls Tryd.prog 14 #[.pointer none, .int .i64 i] w fun e w' => e = .returned (.tuple #[.int .i64 0, .bool false]) ∧ w = w' := by
  go_enter Tryd.func14, Tryd.ntmps14
  go_wp2_with fail
  refine (least_nil i 0 _).mono ?_; rintro e w' ⟨rfl, rfl⟩
  go_wp2
  go_ret2
  exact ⟨rfl, rfl⟩
theorem next_any {w : World} {B R : Nat} {v : Value} {l : List Bool} {m : Bool} (h : St w B R v l m) (hl : l.length ≤ 4096) (he : Env w) (i : Int) (r : Int) (ok : Bool) (hn : Nx l i.toNat true r ok) :
    Calls Tryd.prog 14 #[.pointer (some ⟨R, 0, none⟩), .int .i64 i] w fun e w' => e = .returned (.tuple #[.int .i64 r, .bool ok]) ∧ w = w' := by
  have H := Lib.hid h
  have HE := Lib.hid he
  have HN := Lib.hid hn
  clear h he hn
  go_enter Tryd.func14, Tryd.ntmps14
  go_wp2_with fail
  refine (least_any H.out hl HE.out i true 0 rfl r ok HN.out).mono ?_; rintro e w' ⟨rfl, rfl⟩
  go_wp2
  go_ret2
  exact ⟨rfl, rfl⟩
theorem free_any {w : World} {B R : Nat} {v : Value} {l : List Bool} {m : Bool} (h : St w B R v l m) (hl : l.length ≤ 4096) (he : Env w) (i : Int) (r : Int) (ok : Bool) (hn : Nx l i.toNat false r ok) :
    Calls Tryd.prog 15 #[.pointer (some ⟨R, 0, none⟩), .int .i64 i] w fun e w' => e = .returned (.tuple #[.int .i64 r, .bool ok]) ∧ w = w' := by
  have H := Lib.hid h
  have HE := Lib.hid he
  have HN := Lib.hid hn
  clear h he hn
  go_enter Tryd.func15, Tryd.ntmps15
  go_wp2_with fail
  refine (least_any H.out hl HE.out i false 18446744073709551615 rfl r ok HN.out).mono ?_; rintro e w' ⟨rfl, rfl⟩
  go_wp2
  go_ret2
  exact ⟨rfl, rfl⟩
end Go.Proofs.YtmeknghlhfpjnaaDoor.W
