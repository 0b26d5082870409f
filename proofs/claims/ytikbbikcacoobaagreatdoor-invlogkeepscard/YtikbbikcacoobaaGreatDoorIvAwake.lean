/-
  The page's example. No conditions.
-/
import Derived.Test.YtikbbikcacoobaaGreatDoorIvBegin
import Derived.Deep.RegionHeld
import Derived.Deep.DrawnRows
namespace Go.Proofs.YtikbbikcacoobaaGreatDoor.Pd.Iv
open Go.RowKit Oc Dm W Dw Sr
set_option linter.unusedVariables false
set_option maxRecDepth 100000
attribute [local go_sem ↓] Go.wp_at_zero Go.wp_at_succ

/-- a device whose power stays, and whose writes don't fail -/
structure Calm (m : Vs) : Prop where
  off : m.s.off = false
  fuse : m.s.fuse = none
  wr : m.wr = 0
theorem wr1_calm {m : Vs} (h : Calm m) (i : Nat) (x : List UInt8) : wr1 m i x = (0, (wr1 m i x).2) ∧ Calm (wr1 m i x).2 := by
  have hg : m.s.goes = false := by unfold PS.goes; rw [h.fuse]; rfl
  have e : wr1 m i x = (0, { m with s := m.s.spend, S := wrote m.S i x, wr := m.wr / 2 }) := by
    unfold wr1
    rw [if_neg (by rw [h.off]; decide), if_neg (by rw [hg]; decide), if_neg (by rw [h.wr]; decide)]
  have hs : m.s.spend.off = false ∧ m.s.spend.fuse = none := by
    have h1 := h.off
    have h2 := h.fuse
    generalize m.s = s at h1 h2
    obtain ⟨a, b, c⟩ := s
    subst h2
    exact ⟨h1, rfl⟩
  refine ⟨by rw [e], ?_⟩
  rw [e]
  exact ⟨hs.1, hs.2, by show m.wr / 2 = 0; rw [h.wr]⟩
theorem app_calm {la lg : Nat} {p : Rc} {g : Lg} {m : Vs} (h : Calm m) (hr : ¬ g.nx - g.f = lg) (hm : MayBe p) : ∃ m', app la lg p g m = (0, ⟨g.f, g.nx + 1, g.ep⟩, m') ∧ Calm m' := by
  obtain ⟨e1, e2⟩ := wr1_calm h (la + g.nx % lg) (sect p)
  refine ⟨_, ?_, e2⟩
  unfold app
  rw [if_neg hr, if_neg (fun x => x hm), e1]
  rfl
theorem app_full {la lg : Nat} {p : Rc} {g : Lg} {m : Vs} (hr : g.nx - g.f = lg) : app la lg p g m = (5, g, m) := by unfold app; rw [if_pos hr]
theorem may_ex {q g : Nat} (hq : q ≤ 10) (hg : 1 ≤ g ∧ g ≤ 10) : MayBe ⟨q, 0, 1, g, 3⟩ := ⟨by show q ≤ 4611686018427387904; omega, by show 0 ≤ 4611686018427387904; omega, ⟨(show (0 : Int) ≤ 1 by decide), (show (1 : Int) < 65536 by decide)⟩, ⟨hg.1, by show g ≤ 4611686018427387904; omega⟩, (show 0 < (3 : UInt8).toNat by decide)⟩
theorem ok_ex {f nx : Nat} (h : f ≤ nx) (h2 : nx ≤ f + 2) (h3 : nx ≤ 10) : GOk 10 2 ⟨f, nx, 0⟩ := ⟨h, h2, h3, Nat.zero_le _, by decide⟩
set_option maxHeartbeats 8000000 in
theorem awake_any (w : World) (he : Env w) : Calls Tryz.prog 9 #[] w fun e w' => e = .returned (.bool true) ∧ Below w.heap.size w w' := by
  have HE := Lib.hid he
  clear he
  obtain ⟨m1, a1, q1⟩ := app_calm (la := 4) (lg := 2) (p := ⟨0, 0, 1, 2, 3⟩) (g := ⟨0, 0, 0⟩) (m := m00) ⟨rfl, rfl, rfl⟩ (by decide) (may_ex (by decide) (by decide))
  obtain ⟨m2, a2, q2⟩ := app_calm (la := 4) (lg := 2) (p := ⟨1, 0, 1, 3, 3⟩) (g := ⟨0, 1, 0⟩) q1 (by decide) (may_ex (by decide) (by decide))
  have a3 := app_full (la := 4) (lg := 2) (p := ⟨2, 0, 1, 4, 3⟩) (g := ⟨0, 2, 0⟩) (m := m2) (by decide)
  obtain ⟨m4, a4, q4⟩ := app_calm (la := 4) (lg := 2) (p := ⟨2, 0, 1, 4, 3⟩) (g := ⟨1, 2, 0⟩) q2 (by decide) (may_ex (by decide) (by decide))
  have A1 := Lib.hid a1
  have A2 := Lib.hid a2
  have A3 := Lib.hid a3
  have A4 := Lib.hid a4
  clear a1 a2 a3 a4 q1 q2 q4
  go_enter Tryz.func9, Tryz.ntmps9
  go_wp2_with fail
  refine (begin_any 1 (by decide) 0 (by decide) _ rfl _ rfl 4 2 8 (pln_plan 1 (by decide)) w HE.out).mono ?_
  rintro e w1 ⟨P, pw, D, q, E, T, U, rfl, ⟨F, G, H1, H2, r1⟩, h1⟩
  have PL : Hid (Pln (Pn.planOf (1 + (0 : Int) % 512) (1 + (0 : Int) % 192) (1 + ((1 : Nat) : Int) % 256)) 4 2 8) := pln_plan 1 (by decide)
  have R1 : Hid (Pr w P (Pn.planOf (1 + (0 : Int) % 512) (1 + (0 : Int) % 192) (1 + ((1 : Nat) : Int) % 256)) 8 0 pw D q E (some ⟨T, 0, none⟩) (some ⟨U, 0, none⟩) F G H1 H2 m00 m00 (some ⟨0, 0, 0⟩) (some ⟨0, 0, 0⟩) w1) := r1
  have Z1 : Hid (PHead w1 P (Pn.planOf (1 + (0 : Int) % 512) (1 + (0 : Int) % 192) (1 + ((1 : Nat) : Int) % 256)) pw D q E (some ⟨T, 0, none⟩) (some ⟨U, 0, none⟩)) := h1
  clear r1 h1
  generalize Pn.planOf _ _ _ = p at PL R1 Z1
  have KA1 : Hid (∀ y, Below w1.heap.size w1 y → Calls Tryz.prog 13 #[.pointer (some ⟨T, 0, none⟩), .int .i64 1, .int .u64 2, .int .u8 3] y fun e y' => e = .returned (.int .i64 0) ∧ (∃ F, Pr w P p 8 1 pw D q E (some ⟨T, 0, none⟩) (some ⟨U, 0, none⟩) F G H1 H2 m1 m00 (some ⟨0, 1, 0⟩) (some ⟨0, 0, 0⟩) y') ∧ y'.heap[P]? = y.heap[P]?) := fun y hy =>
    ((R1.out.below hy).append HE.out PL.out (ok_ex (by decide) (by decide) (by decide)) (by decide) 1 2 3 _ A1.out).mono fun e y' ⟨e1, e2, e3, _⟩ => ⟨e1, ⟨_, e2⟩, e3⟩
  have KA2 : Hid (∀ y F', Pr w P p 8 1 pw D q E (some ⟨T, 0, none⟩) (some ⟨U, 0, none⟩) F' G H1 H2 m1 m00 (some ⟨0, 1, 0⟩) (some ⟨0, 0, 0⟩) y → Calls Tryz.prog 13 #[.pointer (some ⟨T, 0, none⟩), .int .i64 1, .int .u64 3, .int .u8 3] y fun e y' => e = .returned (.int .i64 0) ∧ (∃ F, Pr w P p 8 2 pw D q E (some ⟨T, 0, none⟩) (some ⟨U, 0, none⟩) F G H1 H2 m2 m00 (some ⟨0, 2, 0⟩) (some ⟨0, 0, 0⟩) y') ∧ y'.heap[P]? = y.heap[P]?) := fun y F' hy =>
    (hy.append HE.out PL.out (ok_ex (by decide) (by decide) (by decide)) (by decide) 1 3 3 _ A2.out).mono fun e y' ⟨e1, e2, e3, _⟩ => ⟨e1, ⟨_, e2⟩, e3⟩
  have KA3 : Hid (∀ y F', Pr w P p 8 2 pw D q E (some ⟨T, 0, none⟩) (some ⟨U, 0, none⟩) F' G H1 H2 m2 m00 (some ⟨0, 2, 0⟩) (some ⟨0, 0, 0⟩) y → Calls Tryz.prog 13 #[.pointer (some ⟨T, 0, none⟩), .int .i64 1, .int .u64 4, .int .u8 3] y fun e y' => e = .returned (.int .i64 5) ∧ (∃ F, Pr w P p 8 3 pw D q E (some ⟨T, 0, none⟩) (some ⟨U, 0, none⟩) F G H1 H2 m2 m00 (some ⟨0, 2, 0⟩) (some ⟨0, 0, 0⟩) y') ∧ y'.heap[P]? = y.heap[P]?) := fun y F' hy =>
    (hy.append HE.out PL.out (ok_ex (by decide) (by decide) (by decide)) (by decide) 1 4 3 _ A3.out).mono fun e y' ⟨e1, e2, e3, _⟩ => ⟨e1, ⟨_, e2⟩, e3⟩
  have KC : Hid (∀ y F', Pr w P p 8 3 pw D q E (some ⟨T, 0, none⟩) (some ⟨U, 0, none⟩) F' G H1 H2 m2 m00 (some ⟨0, 2, 0⟩) (some ⟨0, 0, 0⟩) y → Calls Tryz.prog 14 #[.pointer (some ⟨T, 0, none⟩), .int .u64 1] y fun e y' => e = .returned (.bool true) ∧ (∃ F, Pr w P p 8 3 pw D q E (some ⟨T, 0, none⟩) (some ⟨U, 0, none⟩) F G H1 H2 m2 m00 (some ⟨1, 2, 0⟩) (some ⟨0, 0, 0⟩) y') ∧ y'.heap[P]? = y.heap[P]?) := fun y F' hy =>
    (hy.cut 1 (by decide)).mono fun e y' ⟨e1, e2, e3, _⟩ => ⟨e1, ⟨_, e2⟩, e3⟩
  have KA4 : Hid (∀ y F', Pr w P p 8 3 pw D q E (some ⟨T, 0, none⟩) (some ⟨U, 0, none⟩) F' G H1 H2 m2 m00 (some ⟨1, 2, 0⟩) (some ⟨0, 0, 0⟩) y → Calls Tryz.prog 13 #[.pointer (some ⟨T, 0, none⟩), .int .i64 1, .int .u64 4, .int .u8 3] y fun e y' => e = .returned (.int .i64 0) ∧ (∃ F, Pr w P p 8 4 pw D q E (some ⟨T, 0, none⟩) (some ⟨U, 0, none⟩) F G H1 H2 m4 m00 (some ⟨1, 3, 0⟩) (some ⟨0, 0, 0⟩) y') ∧ y'.heap[P]? = y.heap[P]?) := fun y F' hy =>
    (hy.append HE.out PL.out (ok_ex (by decide) (by decide) (by decide)) (by decide) 1 4 3 _ A4.out).mono fun e y' ⟨e1, e2, e3, _⟩ => ⟨e1, ⟨_, e2⟩, e3⟩
  have C28 : Hid (∀ y, PHead y P p pw D q E (some ⟨T, 0, none⟩) (some ⟨U, 0, none⟩) → y.cell? ⟨P, 28, none⟩ = some (.pointer (some ⟨T, 0, none⟩))) := fun y hy => (hy.cell 28).1
  have c28 := C28.out _ Z1.out
  clear A1 A2 A3 A4 PL HE
  go_wp2_with fail
  go_region_held (fun y => y.cell? ⟨P, 28, none⟩ = some (.pointer (some ⟨T, 0, none⟩))) (first | go_keep | exact C28.out _ Z4.out | exact C28.out _ Z3.out | exact C28.out _ Z2.out)
    (first
      | (go_at_call 13; (with_reducible refine (KA3.out _ _ R3.out).mono ?_); rintro e w4 ⟨rfl, ⟨F4, r4⟩, h4⟩; have R4 := Lib.hid r4; have Z4 := Lib.hid (Z3.out.of h4); clear r4 h4)
      | (go_at_call 13; (with_reducible refine (KA2.out _ _ R2.out).mono ?_); rintro e w3 ⟨rfl, ⟨F3, r3⟩, h3⟩; have R3 := Lib.hid r3; have Z3 := Lib.hid (Z2.out.of h3); clear r3 h3)
      | (go_at_call 13; (with_reducible refine (KA1.out _ (bdrew _)).mono ?_); rintro e w2 ⟨rfl, ⟨F2, r2⟩, h2⟩; have R2 := Lib.hid r2; have Z2 : Hid (PHead w2 P p pw D q E (some ⟨T, 0, none⟩) (some ⟨U, 0, none⟩)) := (Z1.out.below (bdrew _)).of h2; clear r2 h2))
  all_goals
    clear c28
    have c28 := C28.out _ Z4.out
    go_wp2_with fail
    refine (KC.out _ _ R4.out).mono ?_; rintro e w5 ⟨rfl, ⟨F5, r5⟩, h5⟩
    have R5 := Lib.hid r5
    have Z5 := Lib.hid (Z4.out.of h5)
    clear c28 r5 h5
    have c28 := C28.out _ Z5.out
    go_wp2_with fail
    refine (KA4.out _ _ R5.out).mono ?_; rintro e w6 ⟨rfl, ⟨F6, r6⟩, h6⟩
    have R6 := Lib.hid r6
    have Z6 := Lib.hid (Z5.out.of h6)
    clear c28 r6 h6
    have c28 := C28.out _ Z6.out
    have KN : Hid (Calls Tryz.prog 11 #[.pointer (some ⟨T, 0, none⟩)] w6 fun e y' => e = .returned (.int .u64 3) ∧ w6 = y') := by
      obtain ⟨t, e, _, hl⟩ := R6.out.tb1
      injection e with e
      injection e with e
      subst e
      exact next_any hl
    go_wp2_with fail
    refine KN.out.mono ?_; rintro e w7 ⟨rfl, rfl⟩
    go_wp2
    go_ret
    exact ⟨rfl, R6.out.bel⟩
end Go.Proofs.YtikbbikcacoobaaGreatDoor.Pd.Iv
