/-
  The law's own examples ('awake') and the walks of the three statements. Condition: the library's table is as its text lays it.
-/
import Derived.Test.YtmeknghlhfpjnaaDoorBitPlay
namespace Go.Proofs.YtmeknghlhfpjnaaDoor.W
open Go.RowKit Bt Rw
set_option linter.unusedVariables false

def exL : List Bool := [false, false, false, true, false, false, false, false, false]
theorem ex_new (w : World) : Calls Tryd.prog 6 #[.int .i64 9] w (Opened w w.heap.size (List.replicate 9 false)) := new_any 9 w w.heap.size (by decide) (Nat.le_refl _)
theorem ex_put {w : World} {B R : Nat} {v : Value} (h : St w B R v (List.replicate 9 false) true) : Calls Tryd.prog 16 #[.pointer (some ⟨R, 0, none⟩), .int .i64 3] w (Turned w B R v exL true (.bool true)) := put_any h (by decide) 3 true (by decide)
theorem ex_put2 {w : World} {B R : Nat} {v : Value} (h : St w B R v exL true) : Calls Tryd.prog 16 #[.pointer (some ⟨R, 0, none⟩), .int .i64 3] w (Turned w B R v exL true (.bool false)) := put_any h (by decide) 3 false (by decide)
theorem ex_nx : Nx exL 3 false 4 true := by
  refine .inl ⟨rfl, 4, rfl, by decide, by decide, by decide, fun j h1 h2 => ?_⟩
  have : j = 3 := by omega
  subst this
  rfl
theorem ex_free {w : World} {B R : Nat} {v : Value} (h : St w B R v exL true) (he : Env w) : Calls Tryd.prog 15 #[.pointer (some ⟨R, 0, none⟩), .int .i64 3] w fun e w' => e = .returned (.tuple #[.int .i64 4, .bool true]) ∧ w = w' := free_any h (by decide) he 3 4 true ex_nx
theorem ex_count {w : World} {B R : Nat} {v : Value} (h : St w B R v exL true) : Calls Tryd.prog 12 #[.pointer (some ⟨R, 0, none⟩)] w fun e w' => e = .returned (.int .i64 1) ∧ w = w' := count_any h (by decide) 1 (by decide)

set_option maxHeartbeats 1000000 in
theorem awake_any (w : World) (he : Env w) : Calls Tryd.prog 8 #[] w fun e w' => e = .returned (.bool true) ∧ Below w.heap.size w w' := by
  have HE := Lib.hid he
  clear he
  go_enter Tryd.func8, Tryd.ntmps8
  go_wp2_with fail
  refine (ex_new _).mono ?_; rintro e w1 ⟨R, v, rfl, st1, hR, hv, b1⟩
  have ST1 := Lib.hid st1
  have HV := Lib.hid hv
  have B1 := Lib.hid b1
  clear st1 hR hv b1
  go_wp2_with fail
  refine (ex_put ST1.out).mono ?_; rintro e w2 ⟨rfl, st2, g2⟩
  have ST2 := Lib.hid st2
  have B2 : Hid (Below w.heap.size w w2) := B1.out.grown g2 B1.out.size HV.out
  clear st2 g2
  go_wp2_with fail
  refine (ex_put2 ST2.out).mono ?_; rintro e w3 ⟨rfl, st3, g3⟩
  have ST3 := Lib.hid st3
  have B3 : Hid (Below w.heap.size w w3) := B2.out.grown g3 B2.out.size HV.out
  clear st3 g3
  go_wp2_with fail
  refine (ex_free ST3.out (HE.out.below B3.out)).mono ?_; rintro e w' ⟨rfl, rfl⟩
  go_wp2_with fail
  refine (ex_count ST3.out).mono ?_; rintro e w' ⟨rfl, rfl⟩
  go_wp2
  go_ret
  exact ⟨rfl, B3.out⟩

theorem nat_u8 {n : Int} (h : (Lit.int .u8 n).wf = true) : ∃ x : Nat, n = (x : Int) ∧ x ≤ 255 := by
  simp [Lit.wf, IntKind.min, IntKind.max, IntKind.signed, IntKind.bits] at h
  exact ⟨n.toNat, by omega, by omega⟩
theorem bounds_i64 {n : Int} (h : (Lit.int .i64 n).wf = true) : -9223372036854775808 ≤ n ∧ n ≤ 9223372036854775807 := by
  have h1 : IntKind.i64.min = -9223372036854775808 := by decide
  have h2 : IntKind.i64.max = 9223372036854775807 := by decide
  simpa [Lit.wf, h1, h2] using h
theorem then_below {a b c : World} (h : Below a.heap.size a b) (k : Below b.heap.size b c) : Below a.heap.size a c := h.trans (k.mono h.size)
/-- a new set and its row -/
theorem pl_first {w0 w1 w2 : World} {R : Nat} {v : Value} {n : Nat} {vl : Value} (st : St w1 w0.heap.size R v (List.replicate n false) true) (o : OwnV w2 4 w1.heap.size vl (List.replicate n (.bool false))) (hB : w0.heap.size ≤ w1.heap.size) (b : Below w1.heap.size w1 w2) : Pl w2 w0.heap.size R v true n vl w2 :=
  ⟨List.replicate n false, st.below b, by rw [← bv_rep]; exact o.more hB, List.length_replicate .., World.grownBy.refl _ _⟩
theorem pl_below {w0 w w' : World} {B R : Nat} {v : Value} {m : Bool} {n : Nat} {vl : Value} (hp : Pl w B R v m n vl w') (hb : Below B w0 w) (hB : B ≤ w.heap.size) : Below B w0 w' := by
  obtain ⟨l, st, _, _, gr⟩ := hp
  exact hb.grown gr hB fun k hk => (st.row.ge k hk).1

set_option maxRecDepth 100000 in
set_option maxHeartbeats 2000000 in
theorem plays_walk (x : Nat) (hx : x ≤ 255) (D : Option Addr) (n2 c2 : Nat) (L : Nat → ActV) (w : World) (ha : Acts w D n2 L) (at_ : Int) (he : Env w) :
    Calls Tryd.prog 3 #[.int .u8 (x : Int), .slice D n2 c2, .int .i64 at_] w fun e w' => e = .returned (.bool true) ∧ Below w.heap.size w w' := by
  have HE := Lib.hid he
  have HA := Lib.hid ha
  clear he ha
  go_enter Tryd.func3, Tryd.ntmps3
  go_wp2_with fail
  refine (new_any x w w.heap.size (by omega) (Nat.le_refl _)).mono ?_; rintro e w1 ⟨R, v, rfl, st1, hR, hv, b1⟩
  have ST1 := Lib.hid st1
  have B1 := Lib.hid b1
  clear st1 hR hv b1
  go_wp2_with (first | (at_make; refine wpList_make_row rfl _ _ 27 rfl bt _ _ x rfl rfl (by omega) (by omega) (by omega) ?_; intro w2 o2 b2; have P2 := Lib.hid (pl_first ST1.out o2 B1.out.size b2); have B2 := Lib.hid (then_below B1.out b2); clear o2 b2) | fail)
  refine (play_any P2.out (by omega) B2.out HE.out D n2 c2 L HA.out at_).mono ?_; rintro e w3 ⟨vl3, rfl, p3⟩
  have B3 : Hid (Below w.heap.size w w3) := pl_below p3 B2.out B2.out.size
  clear p3
  go_wp2_with fail
  refine (awake_any _ (HE.out.below B3.out)).mono ?_; rintro e w4 ⟨rfl, b4⟩
  have B4 := Lib.hid (then_below B3.out b4)
  clear b4
  go_wp2
  go_ret
  exact ⟨rfl, B4.out⟩

/-- what turns in one set's words leaves another set, and its row -/
theorem pl_other {w w' : World} {B R : Nat} {v : Value} {l : List Bool} {m : Bool} {row : Option Nat} {n : Nat} {A : Option Addr} {c : Nat} (st : St w B R v l m) (o : OwnV w 4 B (.slice A n c) (bv l)) (hl : l.length = n) {v2 : Value} {vs2 : List Value} {B2 : Nat} (h2 : OwnV w 55 B2 v2 vs2) (hne : ∀ g, v.ownBlock = some g → some g ≠ v2.ownBlock) (hg : w.grownBy w' v2.ownBlock) : Pl w' B R v m n (.slice A n c) w' :=
  ⟨l, ⟨(hg.block R st.lt (st.ne h2)).trans st.head, st.row.other hg hne⟩, o.apart h2 (by decide) hg, hl, World.grownBy.refl _ _⟩

set_option maxRecDepth 100000 in
set_option maxHeartbeats 4000000 in
theorem clones_walk (x : Nat) (hx : x ≤ 255) (D1 : Option Addr) (n1 c1 : Nat) (L1 : Nat → ActV) (D2 : Option Addr) (n2 c2 : Nat) (L2 : Nat → ActV) (D3 : Option Addr) (n3 c3 : Nat) (L3 : Nat → ActV) (w : World) (ha1 : Acts w D1 n1 L1) (ha2 : Acts w D2 n2 L2) (ha3 : Acts w D3 n3 L3) (he : Env w) :
    Calls Tryd.prog 4 #[.int .u8 (x : Int), .slice D1 n1 c1, .slice D2 n2 c2, .slice D3 n3 c3] w fun e w' => e = .returned (.bool true) ∧ Below w.heap.size w w' := by
  have HE := Lib.hid he
  have HA1 := Lib.hid ha1
  have HA2 := Lib.hid ha2
  have HA3 := Lib.hid ha3
  clear he ha1 ha2 ha3
  go_enter Tryd.func4, Tryd.ntmps4
  go_wp2_with fail
  refine (new_any x w w.heap.size (by omega) (Nat.le_refl _)).mono ?_; rintro e w1 ⟨R, v, rfl, st1, hR, hv, b1⟩
  have ST1 := Lib.hid st1
  have B1 := Lib.hid b1
  clear st1 hR hv b1
  go_wp2_with (first | (at_make; refine wpList_make_row rfl _ _ 27 rfl bt _ _ x rfl rfl (by omega) (by omega) (by omega) ?_; intro w2 o2 b2; have P2 := Lib.hid (pl_first ST1.out o2 B1.out.size b2); have B2 := Lib.hid (then_below B1.out b2); clear o2 b2) | fail)
  refine (play_any P2.out (by omega) B2.out HE.out D1 n1 c1 L1 HA1.out 0).mono ?_; rintro e w3 ⟨vl, rfl, p3⟩
  have B3 : Hid (Below w.heap.size w w3) := pl_below p3 B2.out B2.out.size
  obtain ⟨l, st3, row3, len3, gr3⟩ := p3
  obtain ⟨A, c, rfl⟩ := row_form row3 len3
  have ST3 := Lib.hid st3
  have ROW3 := Lib.hid row3
  have LEN := Lib.hid len3
  have HL : Hid (l.length ≤ 4096) := by show l.length ≤ 4096; omega
  clear st3 row3 len3 gr3
  go_wp2_with fail
  refine (clone_any ST3.out HL.out B3.out.size).mono ?_; rintro e w4 ⟨R2, v2, rfl, st4, hR2, hv2, b4⟩
  have ST4 := Lib.hid st4
  have ST4s := Lib.hid (ST3.out.below b4)
  have ROW4 := Lib.hid (ROW3.out.below b4)
  have B4 := Lib.hid (then_below B3.out b4)
  have HV2 : Hid (∀ g, v2.ownBlock = some g → some g ≠ v.ownBlock) := fun g hg e => by
    have := hv2 g hg
    have := (ST3.out.row.ge g e.symm).2
    omega
  clear st4 hR2 hv2 b4
  go_wp2_with fail
  refine (same_any ST4.out A x c (row_sl ROW4.out LEN.out) LEN.out (by omega) (HE.out.below B4.out) 0).mono ?_; rintro e w5 ⟨rfl, b5⟩
  have ST5 := Lib.hid (ST4.out.below b5)
  have ST5s := Lib.hid (ST4s.out.below b5)
  have ROW5 := Lib.hid (ROW4.out.below b5)
  have B5 := Lib.hid (then_below B4.out b5)
  have P5 : Hid (Pl w5 w.heap.size R v true x (.slice A x c) w5) := ⟨l, ST5s.out, ROW5.out, LEN.out, World.grownBy.refl _ _⟩
  clear b5
  go_wp2_with fail
  refine (play_any P5.out (by omega) B5.out HE.out D2 n2 c2 L2 HA2.out 0).mono ?_; rintro e w6 ⟨vl6, rfl, p6⟩
  have B6 : Hid (Below w.heap.size w w6) := pl_below p6 B5.out B5.out.size
  have P6 : Hid (Pl w6 w.heap.size R2 v2 true x (.slice A x c) w6) := by
    obtain ⟨l6, st6, row6, len6, gr6⟩ := p6
    exact pl_other (row := none) ST5.out ROW5.out LEN.out ST5s.out.row HV2.out gr6
  clear p6
  go_wp2_with fail
  refine (play_any P6.out (by omega) B6.out HE.out D3 n3 c3 L3 HA3.out 0).mono ?_; rintro e w7 ⟨vl7, rfl, p7⟩
  have B7 : Hid (Below w.heap.size w w7) := pl_below p7 B6.out B6.out.size
  clear p7
  go_wp2_with fail
  refine (awake_any _ (HE.out.below B7.out)).mono ?_; rintro e w8 ⟨rfl, b8⟩
  have B8 := Lib.hid (then_below B7.out b8)
  clear b8
  go_wp2
  go_ret
  exact ⟨rfl, B8.out⟩

/-- a set that nobody made -/
theorem odd_new (w : World) (B : Nat) : St (w.alloc (.cells #[.int .i64 0, .slice none 0 0, .bool false] 38)) B w.heap.size (.slice none 0 0) [] false :=
  ⟨heap_alloc_new w _, OwnV.nil _ _ _⟩
theorem nx_none (i : Nat) (b : Bool) : Nx [] i b 0 false := .inr ⟨rfl, rfl, fun j _ h => by simp at h⟩
theorem odd_put (i : Int) : putOk [] i = false := by
  have : ¬ (0 ≤ i ∧ i < ((([] : List Bool).length : Nat) : Int)) := by simp
  rw [putOk]
  simp only [this, decide_false, Bool.false_and]
theorem odd_has (i : Int) : hasI [] i = false := by rw [hasI, inn_ge (by simp), Bool.and_false]
theorem odd_set (i : Int) (b : Bool) : setI [] i b = [] := by unfold setI; split <;> rfl
end Go.Proofs.YtmeknghlhfpjnaaDoor.W
