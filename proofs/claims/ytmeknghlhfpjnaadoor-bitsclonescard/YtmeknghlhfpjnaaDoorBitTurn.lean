/-
  Contracts of package bits' All, Put, Drop, Clear, Clone and New, and of count.Up. No conditions.
-/
import Derived.Test.YtmeknghlhfpjnaaDoorBitLeast
import Derived.Deep.RegionWith
import Derived.StillTailTactics
namespace Go.Proofs.YtmeknghlhfpjnaaDoor.W
open Go.RowKit Bt Rw
set_option linter.unusedVariables false

theorem it : ElTy Tryd.prog 42 3 (.int .i64 0) 8 := ⟨Tryd.underlying42, by kernel_rfl, rfl, by decide⟩
/-- numbers as cells -/
def nv (xs : List Nat) : List Value := xs.map fun x : Nat => Value.int .i64 (x : Int)
theorem nv_len (xs : List Nat) : (nv xs).length = xs.length := by simp [nv]
/-- what a call leaves that hands back numbers in new memory -/
def MadeV (w : World) (vs : List Value) (e : Ending) (w' : World) : Prop := ∃ v, e = .returned v ∧ OwnV w' 3 w.heap.size v vs ∧ Below w.heap.size w w'
theorem all_nil (w : World) : Calls Tryd.prog 19 #[.pointer none] w fun e w' => e = .returned (.slice none 0 0) ∧ w = w' := by
  go_enter Tryd.func19, Tryd.ntmps19
  go_wp2
  go_ret
  exact ⟨rfl, rfl⟩

/-- what is left of a word: its bits from p on -/
def Left (x p y : Nat) : Prop := ∀ j, y.testBit j = (x.testBit j && decide (p ≤ j))
theorem left_all (x : Nat) : Left x 0 x := fun j => by simp
theorem left_none {l : List Bool} {F p : Nat} (h : Left (word l F) p 0) (hp : p ≤ 64) : tell l (64 * F + p) = tell l (64 * (F + 1)) := by
  have := tell_none l (64 - p) (64 * F + p) fun j h1 h2 => by
    have hb := h (j - 64 * F)
    rw [Nat.zero_testBit, word_bit, show 64 * F + (j - 64 * F) = j by omega] at hb
    have d1 : j - 64 * F < 64 := by omega
    have d2 : p ≤ j - 64 * F := by omega
    simpa [d1, d2] using hb.symm
  rw [← this]
  congr 1
  omega
theorem left_step {l : List Bool} {F p y t : Nat} (h : Left (word l F) p y) (hy : y < 18446744073709551616) (y0 : y ≠ 0) (ht : Lib.ctz 64 y = t) :
    Left (word l F) (t + 1) (y &&& (y - 1)) ∧ t < 64 ∧ tell l (64 * F + (t + 1)) = tell l (64 * F + p) ++ [64 * F + t] := by
  have t1 := ctz_lt y0 hy
  have t2 := ctz_at y0 hy
  rw [ht] at t1 t2
  rw [h t, word_bit] at t2
  simp at t2
  have t3 : p ≤ t := t2.2
  refine ⟨fun j => ?_, t1, ?_⟩
  · rw [off_bit y0 hy j, ht, h j]
    by_cases hj : j < t
    · have hb := ctz_below y0 hy (j := j) (by omega)
      rw [h j] at hb
      rw [hb]
      have : ¬ t + 1 ≤ j := by omega
      simp [this]
    · by_cases e : j = t
      · subst e
        have : ¬ j + 1 ≤ j := by omega
        simp [this]
      · have d1 : t + 1 ≤ j := by omega
        have d2 : p ≤ j := by omega
        simp [e, d1, d2]
  · have e := tell_none l (t - p) (64 * F + p) fun j h1 h2 => by
      have hb := ctz_below y0 hy (j := j - 64 * F) (by omega)
      rw [h, word_bit, show 64 * F + (j - 64 * F) = j by omega] at hb
      have d1 : j - 64 * F < 64 := by omega
      have d2 : p ≤ j - 64 * F := by omega
      simpa [d1, d2] using hb
    rw [show 64 * F + p + (t - p) = 64 * F + t by omega] at e
    rw [← Nat.add_assoc, tell_succ, e, t2.1.2]
    rfl
theorem nv_snoc (xs : List Nat) (k : Nat) : nv (xs ++ [k]) = nv xs ++ [Value.int .i64 (k : Int)] := by simp [nv]

set_option maxHeartbeats 4000000 in
theorem all_any {w : World} {B R : Nat} {v : Value} {l : List Bool} {m : Bool} (h : St w B R v l m) (hl : l.length ≤ 4096) (he : Env w) :
    Calls Tryd.prog 19 #[.pointer (some ⟨R, 0, none⟩)] w (MadeV w (nv (tell l l.length))) := by
  have H := Lib.hid h
  have HE := Lib.hid he
  obtain ⟨A, c, rfl, hc, hs⟩ := h.form
  obtain ⟨N, hN⟩ : ∃ N, nw l.length = N := ⟨_, rfl⟩
  have hN2 : N ≤ 64 := by rw [← hN]; unfold nw; omega
  have hNl : l.length ≤ 64 * N := by rw [← hN]; unfold nw; omega
  obtain ⟨r, hr⟩ : ∃ r, cnt l = r := ⟨_, rfl⟩
  have hr2 : r ≤ 4096 := by rw [← hr]; have := cnt_le l; omega
  have HS := Lib.hid hs
  have HN := Lib.hid hN
  have HR := Lib.hid hr
  rw [hN] at H
  clear h hs hN hr hc he
  go_enter Tryd.func19, Tryd.ntmps19
  go_wp2_with fail
  refine (count_any H.out hl r HR.out).mono ?_; rintro e w' ⟨rfl, rfl⟩
  go_wp2_with (at_make; refine wpList_make_room rfl _ _ 42 rfl it _ r rfl rfl (by omega) (by omega) ?_; intro w1 o1 b1; obtain ⟨c0, c1, c2⟩ := (H.out.below b1).cells; have O1 := Lib.hid o1; have B1 := Lib.hid b1; clear o1 b1 c0 c2)
  clear c1
  go_loopw [3, 16] (fun y q wr => ∃ j : Nat, j ≤ N ∧ q = .int .i64 j ∧ Hid (OwnV wr 3 w.heap.size y (nv (tell l (64 * j)))) ∧ Hid (Below w.heap.size w wr)) (fun _ q _ => N - (intOf q).toNat)
  case atStart => exact ⟨0, by omega, rfl, O1, B1⟩
  case round =>
    obtain ⟨j, hj, rfl, OJ, BJ⟩ := hrel
    by_cases hlt : j < N
    · obtain ⟨bk, off, rfl, hcell⟩ := word_cell (HS.out.below BJ.out) (show j < nw l.length by rw [HN.out]; exact hlt)
      obtain ⟨c0, c1, c2⟩ := (H.out.below BJ.out).cells
      obtain ⟨x, hx⟩ : ∃ x, word l j = x := ⟨_, rfl⟩
      have hxl : Hid (x < 18446744073709551616) := by show x < _; rw [← hx]; exact word_lt l j
      rw [hx] at hcell
      have HX := Lib.hid hx
      clear hx c0 c2
      go_wp2
      clear c1 hcell
      go_loopw [3, 5] (fun y q wr => ∃ p u : Nat, p ≤ 64 ∧ q = .int .u64 (u : Int) ∧ u < 18446744073709551616 ∧ Hid (Left x p u) ∧ Hid (OwnV wr 3 w.heap.size y (nv (tell l (64 * j + p)))) ∧ Hid (Below w.heap.size w wr)) (fun _ q _ => (intOf q).toNat)
      case atStart => exact ⟨0, x, by omega, rfl, hxl.out, left_all x, OJ, BJ⟩
      case round =>
        obtain ⟨p, u, hp, rfl, hul, LU, OU, BU⟩ := hrel
        by_cases hu : u = 0
        · subst hu
          go_wp2
          go_roundw
          case rel => exact ⟨j + 1, by omega, by go_num, by show OwnV _ _ _ _ _; rw [← left_none (by rw [HX.out]; exact LU.out) hp]; exact OU.out, BU⟩
          case measure => simp [intOf]; omega
        · have hu0 : ((u : Int) != 0) = true := by simp; omega
          obtain ⟨t, ht⟩ : ∃ t, Lib.ctz 64 u = t := ⟨_, rfl⟩
          obtain ⟨z, hz⟩ : ∃ z, u &&& (u - 1) = z := ⟨_, rfl⟩
          have LS := left_step (l := l) (F := j) (by rw [HX.out]; exact LU.out) hul hu ht
          rw [HX.out, hz] at LS
          obtain ⟨ls1, t64, ls3⟩ := LS
          have hzu : z < u := by rw [← hz]; exact off_lt hu
          have q1 : bits BinOp.and IntKind.u64 (u : Int) ((u : Int) - 1) = (z : Int) := by
            rw [show (u : Int) - 1 = ((u - 1 : Nat) : Int) by omega, u64_and_nat u (u - 1) hul (by omega), hz]
          have HT := Lib.hid ht
          have LS1 := Lib.hid ls1
          have LS3 := Lib.hid ls3
          have TL := Lib.hid (tell_le l (64 * j + p))
          have HUL := Lib.hid hul
          clear ht hz ls1 ls3
          go_wp2_with fail
          refine (tz_any u t _ HUL.out (HE.out.below BU.out) HT.out).mono ?_; rintro e w' ⟨rfl, rfl⟩
          go_wp2_with (at_builtin; refine wpList_append_one rfl _ _ 42 rfl it rfl OU.out BU.out _ rfl rfl (by rw [nv_len]; have := TL.out; omega) ?_; intro v2 w2 o2 b2; have O2 := Lib.hid o2; have B2 := Lib.hid b2; clear o2 b2)
          go_roundw
          case rel => exact ⟨t + 1, z, by omega, rfl, by omega, LS1, by show OwnV _ _ _ _ _; rw [LS3.out, nv_snoc, show ((64 * j + t : Nat) : Int) = (j : Int) * 64 + (t : Int) by omega]; exact O2.out, B2⟩
          case measure => simp [intOf]; omega
    · have : j = N := by omega
      subst this
      go_wp2
      go_ret
      exact ⟨_, rfl, by rw [← tell_over l (64 * j) hNl]; exact OJ.out, BJ.out⟩

/-- what a call leaves that turns one set -/
def Turned (w : World) (B R : Nat) (v : Value) (l : List Bool) (m : Bool) (u : Value) (e : Ending) (w' : World) : Prop := e = .returned u ∧ St w' B R v l m ∧ w.grownBy w' v.ownBlock
theorem grown_drewN (w : World) (n : Nat) (row : Option Nat) : w.grownBy (w.drewN n) row := ⟨rfl, rfl, rfl, Nat.le_refl _, fun _ _ _ => rfl⟩
theorem turned_not {w : World} {B R : Nat} {v : Value} {l : List Bool} {m : Bool} (h : St w B R v l m) (u : Value) (n : Nat) : Turned w B R v l m u (.returned u) (w.drewN n) := ⟨rfl, h.dn n, grown_drewN w n _⟩
/-- one word set anew -/
theorem turned_word {w : World} {B R g n cap : Nat} {l l2 : List Bool} {m : Bool} {j x : Nat} (h : St w B R (.slice (some ⟨g, 0, none⟩) n cap) l m) (hn : nw l.length = n) (hl : l2.length = l.length) (hw : words l2 = (words l).set j x) (u : Value) (k : Nat) :
    Turned w B R (.slice (some ⟨g, 0, none⟩) n cap) l2 m u (.returned u) ((w.drewN k).setCell ⟨g, j, none⟩ (.int .u64 (x : Int))) := by
  obtain ⟨h1, g1⟩ := (h.dn k).row.set (j := j) (by rw [words_cells, hn]) (.int .u64 (x : Int))
  have hne : some R ≠ (Value.slice (some ⟨g, 0, none⟩) n cap).ownBlock := h.ne h.row
  have gg : w.grownBy ((w.drewN k).setCell ⟨g, j, none⟩ (.int .u64 (x : Int))) (some g) := grown_step (grown_drewN w k _) g1
  refine ⟨rfl, ⟨?_, ?_⟩, gg⟩
  · rw [gg.block R h.lt hne, hl]; exact h.head
  · rw [hw, List.map_set]; exact h1

set_option maxHeartbeats 2000000 in
theorem put_not {w : World} {B R : Nat} {v : Value} {l : List Bool} {m : Bool} (h : St w B R v l m) (hl : l.length ≤ 4096) (i : Int) (h0 : ¬ (0 ≤ i ∧ i < (l.length : Int)) ∨ hasI l i = true) :
    Calls Tryd.prog 16 #[.pointer (some ⟨R, 0, none⟩), .int .i64 i] w (Turned w B R v l m (.bool false)) := by
  have H := Lib.hid h
  clear h
  by_cases hr : 0 ≤ i ∧ i < (l.length : Int)
  · have hi : Hid (hasI l i = true) := by rcases h0 with h0 | h0
                                          · exact absurd hr h0
                                          · exact h0
    obtain ⟨r0, r1⟩ := hr
    clear h0
    go_enter Tryd.func16, Tryd.ntmps16
    go_wp2_with fail
    refine (room_yes H.out _ r0 r1).mono ?_; rintro e w' ⟨rfl, rfl⟩
    go_wp2_with fail
    refine (has_any H.out hl i true hi.out).mono ?_; rintro e w' ⟨rfl, k, rfl⟩
    go_wp2
    go_ret
    exact turned_not H.out _ k
  · have HR := Lib.hid hr
    clear h0 hr
    go_enter Tryd.func16, Tryd.ntmps16
    go_wp2_with fail
    refine (room_no H.out _ HR.out).mono ?_; rintro e w' ⟨rfl, rfl⟩
    go_wp2
    go_ret
    exact turned_not H.out _ 0
theorem put_nil (i : Int) (w : World) : Calls Tryd.prog 16 #[.pointer none, .int .i64 i] w fun e w' => e = .returned (.bool false) ∧ w = w' := by
  go_enter Tryd.func16, Tryd.ntmps16
  go_wp2_with fail
  refine (room_nil _ _).mono ?_; rintro e w' ⟨rfl, rfl⟩
  go_wp2
  go_ret
  exact ⟨rfl, rfl⟩
set_option maxHeartbeats 2000000 in
theorem put_yes {w : World} {B R : Nat} {v : Value} {l : List Bool} {m : Bool} (h : St w B R v l m) (hl : l.length ≤ 4096) (i : Nat) (h0 : i < l.length) (h1 : inn l i = false) :
    Calls Tryd.prog 16 #[.pointer (some ⟨R, 0, none⟩), .int .i64 (i : Int)] w (Turned w B R v (l.set i true) m (.bool true)) := by
  have hi : Hid (hasI l (i : Int) = false) := by show hasI l (i : Int) = false; rw [hasI, Int.toNat_natCast, h1, Bool.and_false]
  obtain ⟨c0, c1, c2⟩ := h.cells
  obtain ⟨N, hN⟩ : ∃ N, nw l.length = N := ⟨_, rfl⟩
  obtain ⟨j, hj⟩ : ∃ j, i / 64 = j := ⟨_, rfl⟩
  have hjN : j < N := by rw [← hN, ← hj]; exact nw_at h0
  have hN2 : N ≤ 64 := by rw [← hN]; unfold nw; omega
  obtain ⟨g, cap, rfl, hB, hcap⟩ := h.row.here (n := N) (by rw [words_cells, hN]) (by omega)
  obtain ⟨x, hx⟩ : ∃ x, word l j = x := ⟨_, rfl⟩
  obtain ⟨hcell, hfr⟩ := h.row.cell (j := j) (by rw [words_cells, hN]) (by rw [List.getElem?_map, words_at (by omega), hx]; rfl)
  obtain ⟨p, hp⟩ : ∃ p, 2 ^ (i % 64) = p := ⟨_, rfl⟩
  obtain ⟨y, hy⟩ : ∃ y, x ||| p = y := ⟨_, rfl⟩
  have hxl : x < 18446744073709551616 := by rw [← hx]; exact word_lt l j
  have hpl : p < 18446744073709551616 := by rw [← hp]; exact pow_mod64 i
  have e0' : IntKind.i64.wrap ((i : Int) / 64) = (j : Int) := by rw [quo64 i (by omega), hj]
  have e1 : bits BinOp.or IntKind.u64 (x : Int) (p : Int) = (y : Int) := by rw [u64_or_nat x p hxl hpl, hy]
  have hw : words (l.set i true) = (words l).set j y := by rw [words_put h0, hj, hx, hp, hy]
  have H := Lib.hid h
  have HP := Lib.hid hp
  have HN := Lib.hid hN
  have HW := Lib.hid hw
  have hi0 : (0 : Int) ≤ (j : Int) := by omega
  have hi1 : (j : Int) < (N : Int) := by omega
  unfold uv at hcell
  clear h hN hj hx hp hy hxl hpl hw c0 c2 h1
  go_enter Tryd.func16, Tryd.ntmps16
  go_wp2_with fail
  refine (room_yes H.out _ (by omega) (by omega)).mono ?_; rintro e w' ⟨rfl, rfl⟩
  go_wp2_with fail
  refine (has_any H.out hl i false hi.out).mono ?_; rintro e w' ⟨rfl, k, rfl⟩
  go_wp2_with fail
  go_region_with (first | (go_at_call 30; refine (bitof_any i p _ (by omega) HP.out).mono ?_; rintro e w' ⟨rfl, rfl⟩))
  all_goals go_wp2
  all_goals go_ret
  all_goals exact turned_word H.out HN.out (List.length_set ..) HW.out _ _

set_option maxHeartbeats 2000000 in
theorem drop_not {w : World} {B R : Nat} {v : Value} {l : List Bool} {m : Bool} (h : St w B R v l m) (hl : l.length ≤ 4096) (i : Int) (h0 : hasI l i = false) :
    Calls Tryd.prog 17 #[.pointer (some ⟨R, 0, none⟩), .int .i64 i] w (Turned w B R v l m (.bool false)) := by
  have H := Lib.hid h
  have H0 := Lib.hid h0
  clear h h0
  go_enter Tryd.func17, Tryd.ntmps17
  go_wp2_with fail
  refine (has_any H.out hl i false H0.out).mono ?_; rintro e w' ⟨rfl, k, rfl⟩
  go_wp2
  go_ret
  exact turned_not H.out _ k
theorem drop_nil (i : Int) (w : World) : Calls Tryd.prog 17 #[.pointer none, .int .i64 i] w (Tells w (.bool false)) := by
  go_enter Tryd.func17, Tryd.ntmps17
  go_wp2_with fail
  refine (has_nil _ _).mono ?_; rintro e w' ⟨rfl, k, rfl⟩
  go_wp2
  go_ret
  exact ⟨rfl, k, rfl⟩
set_option maxHeartbeats 2000000 in
theorem drop_yes {w : World} {B R : Nat} {v : Value} {l : List Bool} {m : Bool} (h : St w B R v l m) (hl : l.length ≤ 4096) (i : Nat) (h1 : inn l i = true) :
    Calls Tryd.prog 17 #[.pointer (some ⟨R, 0, none⟩), .int .i64 (i : Int)] w (Turned w B R v (l.set i false) m (.bool true)) := by
  have h0 := inn_lt h1
  have hi : Hid (hasI l (i : Int) = true) := by show hasI l (i : Int) = true; rw [hasI, Int.toNat_natCast, h1]; simp
  obtain ⟨c0, c1, c2⟩ := h.cells
  obtain ⟨N, hN⟩ : ∃ N, nw l.length = N := ⟨_, rfl⟩
  obtain ⟨j, hj⟩ : ∃ j, i / 64 = j := ⟨_, rfl⟩
  have hjN : j < N := by rw [← hN, ← hj]; exact nw_at h0
  have hN2 : N ≤ 64 := by rw [← hN]; unfold nw; omega
  obtain ⟨g, cap, rfl, hB, hcap⟩ := h.row.here (n := N) (by rw [words_cells, hN]) (by omega)
  obtain ⟨x, hx⟩ : ∃ x, word l j = x := ⟨_, rfl⟩
  obtain ⟨hcell, hfr⟩ := h.row.cell (j := j) (by rw [words_cells, hN]) (by rw [List.getElem?_map, words_at (by omega), hx]; rfl)
  obtain ⟨p, hp⟩ : ∃ p, 2 ^ (i % 64) = p := ⟨_, rfl⟩
  obtain ⟨y, hy⟩ : ∃ y, x &&& (18446744073709551615 - p) = y := ⟨_, rfl⟩
  have hxl : x < 18446744073709551616 := by rw [← hx]; exact word_lt l j
  have hpl : p < 18446744073709551616 := by rw [← hp]; exact pow_mod64 i
  have e0' : IntKind.i64.wrap ((i : Int) / 64) = (j : Int) := by rw [quo64 i (by omega), hj]
  have e1 : bits BinOp.andNot IntKind.u64 (x : Int) (p : Int) = (y : Int) := by rw [u64_andNot_nat x p hxl hpl, hy]
  have hw : words (l.set i false) = (words l).set j y := by rw [words_drop h0, hj, hx, hp, hy]
  have H := Lib.hid h
  have HP := Lib.hid hp
  have HN := Lib.hid hN
  have HW := Lib.hid hw
  have hi0 : (0 : Int) ≤ (j : Int) := by omega
  have hi1 : (j : Int) < (N : Int) := by omega
  unfold uv at hcell
  clear h hN hj hx hp hy hxl hpl hw c0 c2 h1
  go_enter Tryd.func17, Tryd.ntmps17
  go_wp2_with fail
  refine (has_any H.out hl i true hi.out).mono ?_; rintro e w' ⟨rfl, k, rfl⟩
  go_wp2_with fail
  go_region_with (first | (go_at_call 30; refine (bitof_any i p _ (by omega) HP.out).mono ?_; rintro e w' ⟨rfl, rfl⟩))
  all_goals go_wp2
  all_goals go_ret
  all_goals exact turned_word H.out HN.out (List.length_set ..) HW.out _ _

theorem clear_nil (w : World) : Calls Tryd.prog 13 #[.pointer none] w fun e w' => e = .returned (.tuple #[]) ∧ w = w' := by
  go_enter Tryd.func13, Tryd.ntmps13
  go_wp2
  go_end0
  exact ⟨rfl, rfl⟩
theorem clear_any {w : World} {B R : Nat} {v : Value} {l : List Bool} {m : Bool} (h : St w B R v l m) :
    Calls Tryd.prog 13 #[.pointer (some ⟨R, 0, none⟩)] w (Turned w B R v (List.replicate l.length false) m (.tuple #[])) := by
  obtain ⟨c0, c1, c2⟩ := h.cells
  obtain ⟨w1, hcl, o1, g1⟩ := h.row.clear u64t rfl
  have HO : Hid (Turned w B R v (List.replicate l.length false) m (.tuple #[]) (.returned (.tuple #[])) w1) := by
    refine ⟨rfl, ⟨?_, ?_⟩, g1⟩
    · rw [g1.block R h.lt (h.ne h.row), List.length_replicate]; exact h.head
    · rw [words_rep, List.map_replicate]
      rwa [words_cells] at o1
  clear h o1 g1 c0 c2
  go_enter Tryd.func13, Tryd.ntmps13
  go_wp2
  go_end0
  exact HO.out

/-- what a call leaves that hands back a new set -/
def NewSt (w : World) (B : Nat) (l : List Bool) (e : Ending) (w' : World) : Prop :=
  ∃ R v, e = .returned (.pointer (some ⟨R, 0, none⟩)) ∧ St w' B R v l true ∧ w.heap.size ≤ R ∧ (∀ g, v.ownBlock = some g → w.heap.size ≤ g) ∧ Below w.heap.size w w'
theorem clone_nil (w : World) : Calls Tryd.prog 9 #[.pointer none] w fun e w' => e = .returned (.pointer none) ∧ w = w' := by
  go_enter Tryd.func9, Tryd.ntmps9
  go_wp2
  go_ret
  exact ⟨rfl, rfl⟩
theorem clone_odd {w : World} {B R : Nat} {v : Value} {l : List Bool} (h : St w B R v l false) : Calls Tryd.prog 9 #[.pointer (some ⟨R, 0, none⟩)] w fun e w' => e = .returned (.pointer none) ∧ w = w' := by
  obtain ⟨c0, c1, c2⟩ := h.cells
  clear h c0 c1
  go_enter Tryd.func9, Tryd.ntmps9
  go_wp2
  go_ret
  exact ⟨rfl, rfl⟩
end Go.Proofs.YtmeknghlhfpjnaaDoor.W
