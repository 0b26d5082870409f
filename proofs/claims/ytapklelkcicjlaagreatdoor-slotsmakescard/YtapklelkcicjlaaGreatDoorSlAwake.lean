/-
  The page's example. No conditions.
-/
import Derived.Test.YtapklelkcicjlaaGreatDoorKSt
import Derived.BigQuiet
import Derived.Deep.RegionHeld
import Derived.Deep.DrawnRows
namespace Go.Proofs.YtapklelkcicjlaaGreatDoor.Pd.Sl
set_option maxRecDepth 100000
open Go.RowKit Oc Dm W Dw Sr Gt W.Hd
set_option linter.unusedVariables false
set_option maxRecDepth 100000
attribute [local go_sem ↓] Go.wp_at_zero Go.wp_at_succ

/-- a filled slice, laid open -/
def FilledAs (xs : List UInt8) (w : World) (e : Ending) (w' : World) : Prop := ∃ b, e = .returned (.slice (some ⟨b, 0, none⟩) 64 64) ∧ w.heap.size ≤ b ∧ Oct w' (some ⟨b, 0, none⟩) 64 xs ∧ Below w.heap.size w w'
theorem fill_sec (w : World) (c : UInt8) : Calls Tryz.prog 13 #[.int .u8 (c.toNat : Int), .int .i64 0] w (FilledAs (List.replicate 64 c) w) :=
  (Dw.fill_any w c 0).mono fun e w' ⟨b, e1, e2, e3, e4⟩ => ⟨b, e1, e2, oct_own (by rw [List.map_replicate]; exact e3) List.length_replicate, e4⟩
/-- what the example leaves -/
structure Ex (la : Nat) (xs : List UInt8) (L0 L1 L2 L3 : List Slt) (m1 : Vs) : Prop where
  f1 : Sl.fill la 0 7 2 xs L0 m00 = (0, L1, m1)
  r1 : readS la 0 7 L1 m1 = ((xs, 2, 0), m1)
  r2 : readS la 0 8 L1 m1 = (([], 0, 4), m1)
  t1 : Sl.fault L1 0 = L2
  t2 : Sl.fault L2 0 = L3
  b2 : badZ L2 0 = false
  b3 : badZ L3 0 = true
  f2 : Sl.fill la 0 7 2 xs L3 m1 = (6, L3, m1)
  l1 : L1.length = 2
  l3 : L3.length = 2
  s1 : small L1 999999
  s2 : small L2 999999
  hz : hasZ L3 0
  wr : ((at0 L3 0).r.toNat : Int) = 1
theorem ex_any (la : Nat) : ∃ L1 L2 L3 m1, Ex la (List.replicate 64 4) (fresh 2) L1 L2 L3 m1 := by
  have hok : okB 7 2 := ⟨by decide, by decide⟩
  have hx : (List.replicate 64 (4 : UInt8)).length = 64 := List.length_replicate
  obtain ⟨m1, e1, q1, s1, s2⟩ := fill_calm (la := la) (z := 0) (b := 7) (g := 2) (xs := List.replicate 64 4) (L := fresh 2) (m := m00) ⟨rfl, rfl, rfl, rfl⟩ (by decide) hx hok (by decide) (by decide)
  refine ⟨[⟨0, 1⟩, ⟨0, 0⟩], [⟨1, 1⟩, ⟨0, 0⟩], [⟨2, 1⟩, ⟨0, 0⟩], m1, e1, ?_, ?_, rfl, rfl, rfl, rfl, ?_, rfl, rfl, ?_, ?_, by decide, by decide⟩
  · have := read_calm q1 (L := [⟨0, 1⟩, ⟨0, 0⟩]) (z := 0) (by decide) hok s1 s2 7
    rwa [if_pos rfl] at this
  · have := read_calm q1 (L := [⟨0, 1⟩, ⟨0, 0⟩]) (z := 0) (by decide) hok s1 s2 8
    rwa [if_neg (by decide)] at this
  · exact fill_gone (by decide) hx hok (by decide)
  · intro s hs
    simp at hs
    rcases hs with rfl | rfl <;> decide
  · intro s hs
    simp at hs
    rcases hs with rfl | rfl <;> decide
set_option maxHeartbeats 16000000 in
theorem awake_any (w : World) (he : EnvH w) : Calls Tryz.prog 10 #[] w fun e w' => e = .returned (.bool true) ∧ Below w.heap.size w w' := by
  obtain ⟨p, la, ns, n, hP, hns, hB⟩ := begin_some 1 (by decide) w he
  have hns2 : ns = 2 := hns
  subst hns2
  obtain ⟨xs, hxs⟩ : ∃ xs, List.replicate 64 (4 : UInt8) = xs := ⟨_, rfl⟩
  obtain ⟨L1, L2, L3, m1, ex⟩ := ex_any la
  rw [hxs] at ex
  have EX := Lib.hid ex
  have HB := Lib.hid hB
  have HP := Lib.hid hP
  have HE := Lib.hid he
  have KA : Hid (∀ y, Calls Tryz.prog 13 #[.int .u8 4, .int .i64 0] y fun e y' => ∃ b, e = .returned (.slice (some ⟨b, 0, none⟩) 64 64) ∧ y.heap.size ≤ b ∧ Oct y' (some ⟨b, 0, none⟩) 64 xs ∧ Below y.heap.size y y') := fun y => by
    have := fill_sec y 4
    rw [hxs] at this
    exact this
  have HL : Hid ((fresh 2).length = 2) := fresh_len 2
  generalize fresh 2 = L0 at HB EX HL
  clear hB hP he ex hns hxs
  go_enter Tryz.func10, Tryz.ntmps10
  go_wp2_with fail
  refine HB.out.mono ?_; rintro e w1 ⟨P, rfl, st1⟩
  obtain ⟨pw, D, q, E, T, U, F, G, H1, H2, r1, h1, kk⟩ := st1
  have R1 := Lib.hid r1
  have Z1 := Lib.hid h1
  clear r1 h1 kk HB
  have KF : Hid (∀ y b, Below w1.heap.size w1 y → w1.heap.size ≤ b → Oct y (some ⟨b, 0, none⟩) 64 xs → Calls Tryz.prog 12 #[.pointer T, .int .i64 0, .int .i64 7, .int .u64 2, .slice (some ⟨b, 0, none⟩) 64 64] y fun e y' => e = .returned (.int .i64 0) ∧ (∃ F', Pr w P p n 5 pw D q E T U F' G H1 H2 m1 m00 (some L1) (some L0) y') ∧ y'.heap[P]? = y.heap[P]?) := fun y b hy hb ho =>
    ((R1.out.below hy).fill HE.out HP.out HL.out (by decide) 0 7 2 (by decide) ho (fun k off _ e => by
      injection e with e
      injection e with e
      subst e
      exact ⟨fun x => by have := (R1.out.ubound (.inl x)).2; omega, fun x => by have := (R1.out.ubound (.inr (.inr (.inl x)))).2; omega⟩) (0, L1, m1) EX.out.f1).mono fun e y' ⟨e1, e2, e3, _⟩ => ⟨e1, ⟨_, e2⟩, e3⟩
  have C28 : Hid (∀ y, PHead y P p pw D q E T U → y.cell? ⟨P, 28, none⟩ = some (.pointer T)) := fun y hy => (hy.cell 28).1
  have c28 := C28.out _ Z1.out
  go_wp2_with fail
  go_region_held (fun y => y.cell? ⟨P, 28, none⟩ = some (.pointer T)) (first | go_keep | exact C28.out _ Z3.out | exact C28.out _ Z2.out)
    (first
      | (go_at_call 13; (with_reducible refine (KA.out _).mono ?_); rintro e w2 ⟨b, rfl, hb, o2, b2⟩; have B2 : Hid (Below w1.heap.size w1 w2) := below_of_drew b2; have HB2 : Hid (w1.heap.size ≤ b) := hb; have O2 := Lib.hid o2; have Z2 : Hid (PHead w2 P p pw D q E T U) := Z1.out.below B2.out; clear b2 hb o2)
      | (go_at_call 12; (with_reducible refine (KF.out _ _ B2.out HB2.out O2.out).mono ?_); rintro e w3 ⟨rfl, ⟨F3, r3⟩, h3⟩; have R3 := Lib.hid r3; have Z3 := Lib.hid (Z2.out.of h3); clear r3 h3))
  all_goals
    clear c28 O2 HB2 B2 Z2 KF
    have c28 := C28.out _ Z3.out
    go_wp2_with fail
    refine (R3.out.read HE.out HP.out EX.out.l1 0 7 ((xs, 2, 0), m1) EX.out.r1).mono ?_; rintro e w4 ⟨⟨A4, l4, c4, rfl, o4, _, _, f4⟩, r4, h4, k4⟩
    have R4 := Lib.hid r4
    have O4 := Lib.hid o4
    have Z4 := Lib.hid (Z3.out.of h4)
    have FR4 : Hid (∀ b off, 0 < l4 → A4 = some ⟨b, off, none⟩ → ¬ (Us F3 pw G q H1 H2 b ∨ b = P)) := fun b off h0 e y => by
      have := f4 b off h0 e
      have := R3.out.uP b y
      omega
    clear c28 r4 o4 h4 f4 k4
    have c28 := C28.out _ Z4.out
    go_wp2_with fail
    refine (R4.out.read HE.out HP.out EX.out.l1 0 8 (([], 0, 4), m1) EX.out.r2).mono ?_; rintro e w5 ⟨⟨A5, l5, c5, rfl, o5, _, _, f5⟩, r5, h5, k5⟩
    have R5 := Lib.hid r5
    have Z5 := Lib.hid (Z4.out.of h5)
    have O5 : Hid (Oct w5 A4 l4 xs) := O4.out.heap fun b off h0 e => (k5.at_ b (O4.out.lt h0 e) (fun y => FR4.out b off h0 e (.inl y))).1
    have FR5 : Hid (∀ b off, 0 < l4 → A4 = some ⟨b, off, none⟩ → b < w5.heap.size) := fun b off h0 e => O5.out.lt h0 e
    clear c28 r5 o5 h5 f5 k5 O4
    have c28 := C28.out _ Z5.out
    have KG : Hid (∀ y, Below w5.heap.size w5 y → Calls Tryz.prog 33 #[.pointer T, .int .i64 0] y fun e y' => e = .returned (.bool false) ∧ (∃ F', Pr w P p n 5 pw D q E T U F' G H1 H2 m1 m00 (some L2) (some L0) y' ∧ Kp y (Us F3 pw G q H1 H2) y' (Us F' pw G q H1 H2)) ∧ y'.heap[P]? = y.heap[P]?) := fun y hy => by
      have := (R5.out.below hy).fault 0 EX.out.s1
      rw [EX.out.t1, EX.out.b2] at this
      exact this.mono fun e y' ⟨e1, e2, e3, e4⟩ => ⟨e1, ⟨_, e2, e4⟩, e3⟩
    have KH : Hid (∀ y F6, Pr w P p n 5 pw D q E T U F6 G H1 H2 m1 m00 (some L2) (some L0) y → Calls Tryz.prog 33 #[.pointer T, .int .i64 0] y fun e y' => e = .returned (.bool true) ∧ (∃ F', Pr w P p n 5 pw D q E T U F' G H1 H2 m1 m00 (some L3) (some L0) y' ∧ Kp y (Us F6 pw G q H1 H2) y' (Us F' pw G q H1 H2)) ∧ y'.heap[P]? = y.heap[P]?) := fun y F6 hy => by
      have := hy.fault 0 EX.out.s2
      rw [EX.out.t2, EX.out.b3] at this
      exact this.mono fun e y' ⟨e1, e2, e3, e4⟩ => ⟨e1, ⟨_, e2, e4⟩, e3⟩
    go_wp2_with fail
    go_region_held (fun y => y.cell? ⟨P, 28, none⟩ = some (.pointer T)) (first | go_keep | exact C28.out _ Z7.out | exact C28.out _ Z6.out)
      (first
        | (go_at_call 33; (with_reducible refine (KH.out _ _ R6.out).mono ?_); rintro e w7 ⟨rfl, ⟨F7, r7, k7⟩, h7⟩; have R7 := Lib.hid r7; have Z7 := Lib.hid (Z6.out.of h7); have O7 : Hid (Oct w7 A4 l4 xs) := (O6.out.heap fun b off h0 e => (k7.at_ b (O6.out.lt h0 e) (fun y => FR6.out b off h0 e (.inl y))).1); clear r7 h7 k7)
        | (go_at_call 33; (with_reducible refine (KG.out _ (bdrew _)).mono ?_); rintro e w6 ⟨rfl, ⟨F6, r6, k6⟩, h6⟩; have R6 := Lib.hid r6; have Z6 : Hid (PHead w6 P p pw D q E T U) := ((Z5.out.below (bdrew _)).of h6); have O6 : Hid (Oct w6 A4 l4 xs) := ((O5.out.below (bdrew _)).heap fun b off h0 e => (k6.at_ b (FR5.out b off h0 e) (fun y => FR4.out b off h0 e (.inl y))).1); have FR6 : Hid (∀ b off, 0 < l4 → A4 = some ⟨b, off, none⟩ → ¬ (Us F6 pw G q H1 H2 b ∨ b = P)) := (fun b off h0 e y => y.elim (fun z => (k6.at_ b (FR5.out b off h0 e) (fun y => FR4.out b off h0 e (.inl y))).2 z) (fun z => FR4.out b off h0 e (.inr z))); clear r6 h6 k6))
    all_goals
      clear c28 KG KH O5 O6 FR4 FR5 FR6 R6 Z6
      have c28 := C28.out _ Z7.out
      have CV : Hid (∀ y A l c, Oct y A l xs → (convert 57 9 (.slice A l c)).run Tryz.prog y = .ok (.string (bstr xs)) y) := fun y A l c hy => hy.conv Dm.bt Tryz.underlying9 c
      have KF2 : Hid (∀ y b, Below w7.heap.size w7 y → w7.heap.size ≤ b → Oct y (some ⟨b, 0, none⟩) 64 xs → Calls Tryz.prog 12 #[.pointer T, .int .i64 0, .int .i64 7, .int .u64 2, .slice (some ⟨b, 0, none⟩) 64 64] y fun e y' => e = .returned (.int .i64 6) ∧ (∃ F', Pr w P p n 10 pw D q E T U F' G H1 H2 m1 m00 (some L3) (some L0) y') ∧ y'.heap[P]? = y.heap[P]?) := fun y b hy hb ho =>
        ((R7.out.below hy).fill HE.out HP.out EX.out.l3 (by decide) 0 7 2 (by decide) ho (fun k off _ e => by
          injection e with e
          injection e with e
          subst e
          exact ⟨fun x => by have := (R7.out.ubound (.inl x)).2; omega, fun x => by have := (R7.out.ubound (.inr (.inr (.inl x)))).2; omega⟩) (6, L3, m1) EX.out.f2).mono fun e y' ⟨e1, e2, e3, _⟩ => ⟨e1, ⟨_, e2⟩, e3⟩
      have KW : Hid (∀ y F', Pr w P p n 10 pw D q E T U F' G H1 H2 m1 m00 (some L3) (some L0) y → Calls Tryz.prog 14 #[.pointer T, .int .i64 0] y fun e y' => e = .returned (.int .u32 1) ∧ y = y') := fun y F' hy => by
        obtain ⟨t, g, rfl, _, _, hl⟩ := hy.st1
        have := wear_yes hl EX.out.hz
        rwa [EX.out.wr] at this
      have cv7 := CV.out w7.drew A4 l4 c4 O7.out.drew
      have FR7 : Hid (Below w.heap.size w w7) := R7.out.bel
      go_wp2_with fail
      go_region_held (fun y => y.cell? ⟨P, 28, none⟩ = some (.pointer T)) (first | go_keep | exact C28.out _ Z10.out | exact C28.out _ Z9.out | exact C28.out _ Z8.out)
        (first
          | (go_at_call 13; (with_reducible refine (KA.out _).mono ?_); rintro e w9 ⟨b9, rfl, hb, o9, b2⟩; have B9 : Hid (Below w7.heap.size w7 w9) := bthen B8.out b2; have HB9 : Hid (w7.heap.size ≤ b9) := Nat.le_trans B8.out.size hb; have O9 := Lib.hid o9; have Z9 : Hid (PHead w9 P p pw D q E T U) := Z7.out.below B9.out; clear b2 hb o9)
          | (go_at_call 13; (with_reducible refine (KA.out _).mono ?_); rintro e w8 ⟨b8, rfl, hb, o8, b2⟩; have B8 : Hid (Below w7.heap.size w7 w8) := below_of_drew b2; have Z8 : Hid (PHead w8 P p pw D q E T U) := Z7.out.below B8.out; have cv8 := CV.out w8 A4 l4 c4 (O7.out.below B8.out); have cv9 := CV.out w8 (some ⟨b8, 0, none⟩) 64 64 o8; clear b2 hb o8)
          | (go_at_call 12; (with_reducible refine (KF2.out _ _ B9.out HB9.out O9.out).mono ?_); rintro e w10 ⟨rfl, ⟨F10, r10⟩, h10⟩; have R10 := Lib.hid r10; have Z10 := Lib.hid (Z9.out.of h10); clear r10 h10)
          | (go_at_call 14; (with_reducible refine (KW.out _ _ R10.out).mono ?_); rintro e w11 ⟨rfl, rfl⟩))
      all_goals
        clear cv7 cv8 cv9 c28
        go_wp2
      all_goals (go_ret; exact ⟨by simp, R10.out.bel⟩)
end Go.Proofs.YtapklelkcicjlaaGreatDoor.Pd.Sl
