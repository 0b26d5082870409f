/-
  The walk of plays on a set and on its row. No conditions.
-/
import Derived.Test.YtmeknghlhfpjnaaDoorBitActs
import Derived.Deep.CutRange
import Derived.Deep.CutBlock
namespace Go.Proofs.YtmeknghlhfpjnaaDoor.W
open Go.RowKit Bt Rw
set_option linter.unusedVariables false

theorem set_same {l : List Bool} {k : Nat} {b : Bool} (h : k < l.length) (hb : inn l k = b) : l.set k b = l := by
  have e := inn_get h
  rw [hb, List.getElem?_eq_getElem h] at e
  injection e with e
  rw [← e, List.set_getElem_self]
/-- does it come in? -/
def putOk (l : List Bool) (i : Int) : Bool := decide (0 ≤ i ∧ i < (l.length : Int)) && !inn l i.toNat
theorem put_any {w : World} {B R : Nat} {v : Value} {l : List Bool} {m : Bool} (h : St w B R v l m) (hl : l.length ≤ 4096) (i : Int) (b : Bool) (hb : putOk l i = b) :
    Calls Tryd.prog 16 #[.pointer (some ⟨R, 0, none⟩), .int .i64 i] w (Turned w B R v (setI l i true) m (.bool b)) := by
  by_cases h0 : 0 ≤ i ∧ i < (l.length : Int)
  · obtain ⟨k, rfl⟩ := Int.eq_ofNat_of_zero_le h0.1
    rw [setI, if_pos h0, Int.toNat_natCast]
    rw [putOk, Int.toNat_natCast] at hb
    cases hk : inn l k
    · rw [hk] at hb
      have : b = true := by rw [← hb]; simpa using h0.2
      subst this
      exact put_yes h hl k (by omega) hk
    · rw [hk] at hb
      have : b = false := by rw [← hb]; simp
      subst this
      rw [set_same (by omega) hk]
      exact put_not h hl _ (.inr (by rw [hasI, Int.toNat_natCast, hk]; simp))
  · have : b = false := by rw [← hb, putOk]; simp only [h0, decide_false, Bool.false_and]
    subst this
    rw [setI, if_neg h0]
    exact put_not h hl i (.inl h0)
theorem drop_any {w : World} {B R : Nat} {v : Value} {l : List Bool} {m : Bool} (h : St w B R v l m) (hl : l.length ≤ 4096) (i : Int) (b : Bool) (hb : hasI l i = b) :
    Calls Tryd.prog 17 #[.pointer (some ⟨R, 0, none⟩), .int .i64 i] w (Turned w B R v (setI l i false) m (.bool b)) := by
  cases b
  · have e : setI l i false = l := by
      unfold setI
      split
      · rename_i h0
        refine set_same (by omega) ?_
        rw [hasI] at hb
        simpa [h0.1] using hb
      · rfl
    rw [e]
    exact drop_not h hl i hb
  · rw [hasI] at hb
    simp at hb
    obtain ⟨k, rfl⟩ := Int.eq_ofNat_of_zero_le hb.1
    rw [Int.toNat_natCast] at hb
    have hk := inn_lt hb.2
    rw [setI, if_pos ⟨hb.1, by omega⟩, Int.toNat_natCast]
    exact drop_yes h hl k hb.2

/-- what holds at each round's end: a set and its row -/
def Pl (w : World) (B R : Nat) (v : Value) (m : Bool) (n : Nat) (vl : Value) (wr : World) : Prop :=
  ∃ l, St wr B R v l m ∧ OwnV wr 4 B vl (bv l) ∧ l.length = n ∧ w.grownBy wr v.ownBlock
/-- what a play leaves -/
def Played (w : World) (B R : Nat) (v : Value) (m : Bool) (n : Nat) (e : Ending) (w' : World) : Prop := ∃ vl, e = .returned (.tuple #[vl, .bool true]) ∧ Pl w B R v m n vl w'

theorem grown_of_below {a b : World} (h : Below a.heap.size a b) (row : Option Nat) : a.grownBy b row := ⟨h.os, h.tape, h.output, h.size, fun i hi _ => h.block i hi⟩
theorem pl_next {w wr w2 w3 : World} {B R : Nat} {v : Value} {m : Bool} {n : Nat} {l2 : List Bool} {v3 : Value} (GR : w.grownBy wr v.ownBlock) (st2 : St w2 B R v l2 m) (g2 : wr.grownBy w2 v.ownBlock) (o3 : OwnV w3 4 w2.heap.size v3 (bv l2)) (b3 : Below w2.heap.size w2 w3) (hB : B ≤ w2.heap.size) (hl : l2.length = n) : Pl w B R v m n v3 w3 :=
  ⟨l2, st2.below b3, o3.more hB, hl, grown_step (grown_step GR g2) (grown_of_below b3 _)⟩
theorem row_sl {w : World} {B : Nat} {A : Option Addr} {n c : Nat} {l : List Bool} (h : OwnV w 4 B (.slice A n c) (bv l)) (hl : l.length = n) : Sl w A n (bv l) := by
  obtain ⟨A', c', e, _, _, h'⟩ := h.form (n := n) (by rw [bv_len]; exact hl)
  injection e with e1 e2 e3
  subst e1
  exact h'
theorem row_form {w : World} {B : Nat} {n : Nat} {v : Value} {l : List Bool} (h : OwnV w 4 B v (bv l)) (hl : l.length = n) : ∃ A c, v = .slice A n c := by
  obtain ⟨A', c', e, _⟩ := h.form (n := n) (by rw [bv_len]; exact hl)
  exact ⟨A', c', e⟩
theorem bv_rep (n : Nat) : List.replicate n (Value.bool false) = bv (List.replicate n false) := by rw [bv, List.map_replicate]

set_option maxRecDepth 100000 in
set_option maxHeartbeats 8000000 in
theorem play_any {w0 w : World} {R : Nat} {v : Value} {m : Bool} {n : Nat} {vl : Value} (hp : Pl w w0.heap.size R v m n vl w) (hn : n ≤ 4096) (hb : Below w0.heap.size w0 w) (he : Env w0) (D : Option Addr) (n2 c2 : Nat) (L : Nat → ActV) (ha : Acts w0 D n2 L) (at_ : Int) :
    Calls Tryd.prog 7 #[.pointer (some ⟨R, 0, none⟩), vl, .slice D n2 c2, .int .i64 at_] w (Played w w0.heap.size R v m n) := by
  have HP := Lib.hid hp
  have HB := Lib.hid hb
  have HE := Lib.hid he
  have HA := Lib.hid ha
  have RV : Hid (∀ k, v.ownBlock = some k → w0.heap.size ≤ k) := by obtain ⟨l, h, _⟩ := hp; exact fun k hk => (h.row.ge k hk).1
  obtain ⟨A, c, rfl⟩ : ∃ A c, vl = .slice A n c := by
    obtain ⟨l, _, h, hl, _⟩ := hp
    obtain ⟨A, c, e, _⟩ := h.form (n := n) (by rw [bv_len]; exact hl)
    exact ⟨A, c, e⟩
  clear hp hb he ha
  go_enter Tryd.func7, Tryd.ntmps7
  go_wp2
  go_loopw [1, 10] (fun s q wr => ∃ (j : Nat) (A : Option Addr) (c : Nat), j ≤ 50 ∧ j ≤ n2 ∧ q = .int .i64 j ∧ s = .slice A n c ∧ Hid (Pl w w0.heap.size R v m n (.slice A n c) wr)) (fun _ q _ => n2 - (intOf q).toNat)
  case atStart => exact ⟨0, A, c, by omega, by omega, rfl, rfl, HP⟩
  case round =>
    obtain ⟨j, A, c, hj50, hjn, rfl, rfl, PJ⟩ := hrel
    by_cases hlt : j < n2 ∧ j < 50
    · obtain ⟨hlt1, hlt2⟩ := hlt
      obtain ⟨l, st, row, len, gr⟩ := PJ.out
      have bel : Below w0.heap.size w0 wr := HB.out.grown gr HB.out.size RV.out
      obtain ⟨b, off, rfl, h0, h1⟩ := (HA.out.below bel) j hlt1
      obtain ⟨kd, ekd⟩ : ∃ x, (L j).kind = x := ⟨_, rfl⟩
      obtain ⟨k, ek⟩ : ∃ x, (L j).i = x := ⟨_, rfl⟩
      rw [ekd] at h0
      rw [ek] at h1
      have BEL := Lib.hid bel
      have ST := Lib.hid st
      have ROW := Lib.hid row
      have LEN := Lib.hid len
      have GR := Lib.hid gr
      clear st row len gr bel ekd ek
      have hi0 : (0 : Int) ≤ (j : Int) := by omega
      have hi1 : (j : Int) < (n2 : Int) := by omega
      go_upto_block 2 with (fail)
      go_cut [1] from 12 to 89 (fun s1 wc => ∃ (A : Option Addr) (c : Nat), s1 = .slice A n c ∧ Hid (Pl w w0.heap.size R v m n (.slice A n c) wc))
      case first =>
        have HL : Hid (l.length ≤ 4096) := by show l.length ≤ 4096; rw [LEN.out]; exact hn
        by_cases k0 : kd = 0
        · subst k0
          by_cases hr : 0 ≤ k ∧ k < (n : Int)
          · obtain ⟨q, rfl⟩ := Int.eq_ofNat_of_zero_le hr.1
            have hq : q < n := by omega
            obtain ⟨x, hx⟩ : ∃ x, inn l q = x := ⟨_, rfl⟩
            have hok : Hid (putOk l (q : Int) = !x) := by show putOk l (q : Int) = _; rw [putOk, Int.toNat_natCast, hx, LEN.out]; simp [hq]
            have HX := Lib.hid hx
            clear hr hx
            go_wp2_with fail
            refine (put_any ST.out HL.out _ (!x) hok.out).mono ?_; rintro e w2 ⟨rfl, st2, g2⟩
            have row2 := ROW.out.apart ST.out.row (by decide) g2
            obtain ⟨bk, of2, rfl, hcell⟩ := (row_sl row2 LEN.out).at_ (bv_at (l := l) (k := q) (by rw [LEN.out]; exact hq))
            rw [HX.out] at hcell
            have hxx : (!x != !x) = false := by simp
            have ST2 := Lib.hid st2
            have G2 := Lib.hid g2
            have ROW2 := Lib.hid row2
            clear st2 g2 row2
            go_wp2_with fail
            refine (rset_any _ n c l _ (row_sl ROW2.out LEN.out) LEN.out hn _ true).mono ?_; rintro e w3 ⟨v3, rfl, o3, b3⟩
            have P3 := Lib.hid (pl_next GR.out ST2.out G2.out o3 b3 (Nat.le_trans BEL.out.size G2.out.size) ((setI_len _ _ _).trans LEN.out))
            obtain ⟨A3, c3, rfl⟩ := row_form o3 ((setI_len _ _ _).trans LEN.out)
            clear o3 b3
            go_wp2
            go_meet
            case rel => exact ⟨_, _, rfl, P3⟩
          · have hok : Hid (putOk l k = false) := by show putOk l k = _; rw [putOk, LEN.out]; simp only [hr, decide_false, Bool.false_and]
            by_cases hk : k < 0
            · clear hr
              go_wp2_with fail
              refine (put_any ST.out HL.out _ false hok.out).mono ?_; rintro e w2 ⟨rfl, st2, g2⟩
              have row2 := ROW.out.apart ST.out.row (by decide) g2
              have ST2 := Lib.hid st2
              have G2 := Lib.hid g2
              have ROW2 := Lib.hid row2
              clear st2 g2 row2
              go_wp2_with fail
              refine (rset_any _ n c l _ (row_sl ROW2.out LEN.out) LEN.out hn _ true).mono ?_; rintro e w3 ⟨v3, rfl, o3, b3⟩
              have P3 := Lib.hid (pl_next GR.out ST2.out G2.out o3 b3 (Nat.le_trans BEL.out.size G2.out.size) ((setI_len _ _ _).trans LEN.out))
              obtain ⟨A3, c3, rfl⟩ := row_form o3 ((setI_len _ _ _).trans LEN.out)
              clear o3 b3
              go_wp2
              go_meet
              case rel => exact ⟨_, _, rfl, P3⟩
            · have hk2 : (n : Int) ≤ k := by omega
              have hk3 : decide (k < (n : Int)) = false := by simpa using hk2
              clear hr
              go_wp2_with fail
              refine (put_any ST.out HL.out _ false hok.out).mono ?_; rintro e w2 ⟨rfl, st2, g2⟩
              have row2 := ROW.out.apart ST.out.row (by decide) g2
              have ST2 := Lib.hid st2
              have G2 := Lib.hid g2
              have ROW2 := Lib.hid row2
              clear st2 g2 row2
              go_wp2_with fail
              refine (rset_any _ n c l _ (row_sl ROW2.out LEN.out) LEN.out hn _ true).mono ?_; rintro e w3 ⟨v3, rfl, o3, b3⟩
              have P3 := Lib.hid (pl_next GR.out ST2.out G2.out o3 b3 (Nat.le_trans BEL.out.size G2.out.size) ((setI_len _ _ _).trans LEN.out))
              obtain ⟨A3, c3, rfl⟩ := row_form o3 ((setI_len _ _ _).trans LEN.out)
              clear o3 b3
              go_wp2
              go_meet
              case rel => exact ⟨_, _, rfl, P3⟩
        · have hk0 : (kd == 0) = false := by simpa using k0
          by_cases k1 : kd = 1
          · subst k1
            obtain ⟨x, hx⟩ : ∃ x, hasI l k = x := ⟨_, rfl⟩
            have HX := Lib.hid hx
            have hxx : (x != x) = false := by simp
            clear hx k0
            go_wp2_with fail
            refine (drop_any ST.out HL.out _ x HX.out).mono ?_; rintro e w2 ⟨rfl, st2, g2⟩
            have row2 := ROW.out.apart ST.out.row (by decide) g2
            have ST2 := Lib.hid st2
            have G2 := Lib.hid g2
            have ROW2 := Lib.hid row2
            clear st2 g2 row2
            go_wp2_with fail
            refine (rhas_any _ n c l _ (row_sl ROW2.out LEN.out) LEN.out _ x HX.out).mono ?_; rintro e w' ⟨rfl, rfl⟩
            go_wp2_with fail
            refine (rset_any _ n c l _ (row_sl ROW2.out LEN.out) LEN.out hn _ false).mono ?_; rintro e w3 ⟨v3, rfl, o3, b3⟩
            have P3 := Lib.hid (pl_next GR.out ST2.out G2.out o3 b3 (Nat.le_trans BEL.out.size G2.out.size) ((setI_len _ _ _).trans LEN.out))
            obtain ⟨A3, c3, rfl⟩ := row_form o3 ((setI_len _ _ _).trans LEN.out)
            clear o3 b3
            go_wp2
            go_meet
            case rel => exact ⟨_, _, rfl, P3⟩
          · have hk1 : (kd == 1) = false := by simpa using k1
            by_cases k2 : kd = 2
            · subst k2
              clear k0 k1
              go_wp2_with fail
              refine (clear_any ST.out).mono ?_; rintro e w2 ⟨rfl, st2, g2⟩
              have ST2 := Lib.hid st2
              have G2 := Lib.hid g2
              clear st2 g2
              go_wp2_with (at_make; refine wpList_make_row rfl _ _ 27 rfl bt _ _ n rfl rfl (by omega) (by omega) (by omega) ?_; intro w3 o3 b3; rw [bv_rep] at o3; have O3 := Lib.hid o3; have B3 := Lib.hid b3; clear o3 b3)
              go_meet
              case rel => exact ⟨_, _, rfl, pl_next GR.out ST2.out G2.out (by rw [LEN.out]; exact O3.out) B3.out (Nat.le_trans BEL.out.size G2.out.size) (by rw [List.length_replicate]; exact LEN.out)⟩
            · have hk2 : (kd == 2) = false := by simpa using k2
              go_wp2
              go_meet
              case rel => exact ⟨_, _, rfl, PJ⟩
      case rest =>
        obtain ⟨A', c', rfl, PC⟩ := hcut
        clear ST ROW LEN GR BEL PJ
        obtain ⟨l', st, row, len, gr⟩ := PC.out
        have ST := Lib.hid st
        have ROW := Lib.hid row
        have LEN := Lib.hid len
        have GR := Lib.hid gr
        have BEL : Hid (Below w0.heap.size w0 wc) := HB.out.grown gr HB.out.size RV.out
        clear st row len gr
        go_wp2_with fail
        refine (same_any ST.out A' n c' (row_sl ROW.out LEN.out) LEN.out hn (HE.out.below BEL.out) at_).mono ?_; rintro e w3 ⟨rfl, b3⟩
        have ST3 := Lib.hid (ST.out.below b3)
        have ROW3 := Lib.hid (ROW.out.below b3)
        have GR3 := Lib.hid (grown_step GR.out (grown_of_below b3 _))
        have BEL3 : Hid (Below w0.heap.size w0 w3) := BEL.out.trans (b3.mono BEL.out.size)
        clear b3
        go_wp2_with fail
        refine (same_any ST3.out A' n c' (row_sl ROW3.out LEN.out) LEN.out hn (HE.out.below BEL3.out) k).mono ?_; rintro e w4 ⟨rfl, b4⟩
        have P4 : Hid (Pl w w0.heap.size R v m n (.slice A' n c') w4) := ⟨l', ST3.out.below b4, ROW3.out.below b4, LEN.out, grown_step GR3.out (grown_of_below b4 _)⟩
        clear b4
        go_wp2
        go_roundw
        case rel => exact ⟨j + 1, A', c', by omega, by omega, by go_num, rfl, P4⟩
        case measure => simp [intOf]; omega
    · have hcase : (n2 ≤ j) ∨ (j < n2 ∧ 50 ≤ j) := by omega
      clear hlt
      rcases hcase with hx | ⟨hx1, hx2⟩
      all_goals
        go_wp2
        go_ret2
        exact ⟨_, rfl, PJ.out⟩
end Go.Proofs.YtmeknghlhfpjnaaDoor.W
