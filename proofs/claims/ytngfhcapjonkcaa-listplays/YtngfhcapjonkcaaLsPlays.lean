/-
  The walk of ListPlays. No conditions.
-/
import Derived.Test.YtngfhcapjonkcaaLsActs
import Derived.Deep.CutRange
import Derived.Deep.CutBlock
import Derived.Deep.RegionHeld
import Derived.Deep.DrawnRows
namespace Go.Proofs.Ytngfhcapjonkcaa.W
open Go.RowKit Rw Ls
set_option linter.unusedVariables false

/-- a call that does to both lists the same -/
structure Both (F RF : FuncId) (n : Nat) (L L' : List (List Nat)) (args : Value → Array Value) (b : Bool) : Prop where
  x : ∀ {w : World} {R g1 g2 : Nat}, Rows w R g1 g2 n L → Calls Try.prog F (args (.pointer (some ⟨R, 0, none⟩))) w (Moved w R g1 g2 n L' (.bool b))
  r : ∀ {w : World} {RR gL m B : Nat}, Ref w RR gL n m B L → Calls Try.prog RF (args (.pointer (some ⟨RR, 0, none⟩))) w (RMoved w RR gL n m B L' (.bool b))
theorem push_both (n : Nat) (L : List (List Nat)) (k a : Int) : ∃ L' b, Both 8 9 n L L' (fun p => #[p, .int .i64 k, .int .i64 a]) b := by
  by_cases h : (0 ≤ k ∧ k < (L.length : Int)) ∧ (0 ≤ a ∧ a < (n : Int))
  · obtain ⟨kk, rfl⟩ := Int.eq_ofNat_of_zero_le h.1.1
    obtain ⟨aa, rfl⟩ := Int.eq_ofNat_of_zero_le h.2.1
    exact ⟨push L kk aa, true, fun hx => push_yes hx kk aa (by omega) (by omega), fun {w RR gL m B} hr => rpush_yes hr kk aa (by obtain ⟨vs, hr⟩ := hr; have := hr.len; omega) (by omega)⟩
  · exact ⟨L, false, fun hx => push_no hx k a h, fun {w RR gL m B} hr => rpush_no hr k a (by obtain ⟨vs, hr⟩ := hr; have := hr.len; omega)⟩
theorem append_both (n : Nat) (L : List (List Nat)) (k a : Int) : ∃ L' b, Both 10 11 n L L' (fun p => #[p, .int .i64 k, .int .i64 a]) b := by
  by_cases h : (0 ≤ k ∧ k < (L.length : Int)) ∧ (0 ≤ a ∧ a < (n : Int))
  · obtain ⟨kk, rfl⟩ := Int.eq_ofNat_of_zero_le h.1.1
    obtain ⟨aa, rfl⟩ := Int.eq_ofNat_of_zero_le h.2.1
    exact ⟨app L kk aa, true, fun hx => append_yes hx kk aa (by omega) (by omega), fun {w RR gL m B} hr => rappend_yes hr kk aa (by obtain ⟨vs, hr⟩ := hr; have := hr.len; omega) (by omega)⟩
  · exact ⟨L, false, fun hx => append_no hx k a h, fun {w RR gL m B} hr => rappend_no hr k a (by obtain ⟨vs, hr⟩ := hr; have := hr.len; omega)⟩
theorem remove_both (n : Nat) (L : List (List Nat)) (i : Int) : ∃ L' b, Both 12 13 n L L' (fun p => #[p, .int .i64 i]) b := by
  rcases where_int L i with ⟨a, k, u, v, rfl, hk⟩ | hno
  · exact ⟨rm L a, true, fun hx => remove_yes hx a k u v hk, fun hr => rremove_yes hr a k u v hk⟩
  · exact ⟨L, false, fun hx => remove_no hx i hno, fun hr => rremove_no hr i hno⟩

/-- what holds at each round's end: lists and the reference's, with the same rows -/
def Pl (w0 : World) (R g1 g2 RR gL n m B : Nat) (wr : World) : Prop := ∃ L, Rows wr R g1 g2 n L ∧ Ref wr RR gL n m B L ∧ Below w0.heap.size w0 wr
structure Where (w0 : World) (R g1 g2 gL B : Nat) : Prop where
  r : R < B
  a : g1 < B
  b : g2 < B
  l : B ≤ gL
  c : w0.heap.size ≤ g1
  d : w0.heap.size ≤ g2
theorem Rows.lt {w : World} {R g1 g2 n : Nat} {L : List (List Nat)} (h : Rows w R g1 g2 n L) : R < w.heap.size ∧ g1 < w.heap.size ∧ g2 < w.heap.size := by
  obtain ⟨f, s, h⟩ := h
  exact h.st.lt
theorem Rows.other {w w' : World} {R g1 g2 n gL : Nat} {L : List (List Nat)} (h : Rows w R g1 g2 n L) (hg : w.grownBy w' (some gL)) (h0 : R ≠ gL) (h1 : g1 ≠ gL) (h2 : g2 ≠ gL) : Rows w' R g1 g2 n L := by
  obtain ⟨f, s, h⟩ := h
  obtain ⟨l0, l1, l2⟩ := h.st.lt
  exact ⟨f, s, h.st.blocks (hg.block _ l0 (by simpa using h0)) (hg.block _ l1 (by simpa using h1)) (hg.block _ l2 (by simpa using h2)), h.ok, h.fit, h.len⟩
/-- lists turned, then the reference's -/
theorem pl_both {w0 w w2 w3 : World} {R g1 g2 RR gL n m B : Nat} {L' : List (List Nat)} (hw : Where w0 R g1 g2 gL B) (hb : Below w0.heap.size w0 w) (x2 : Rows w2 R g1 g2 n L') (t2 : Turn2 w w2 g1 g2) (r3 : Ref w3 RR gL n m B L') (q3 : w2.grownBy w3 (some gL)) :
    Pl w0 R g1 g2 RR gL n m B w3 := by
  have := hw.r; have := hw.a; have := hw.b; have := hw.l; have := hw.c; have := hw.d
  have b2 : Below w0.heap.size w0 w2 := t2.under hb hb.size (by omega) (by omega)
  exact ⟨L', x2.other q3 (by omega) (by omega) (by omega), r3, b2.grown q3 b2.size (fun k e => by injection e with e; omega)⟩

/-- an act in a box: its list and its node -/
def Box (w : World) (ab : Nat) (li nd : Int) : Prop := w.cell? ⟨ab, 1, none⟩ = some (.int .i64 li) ∧ w.cell? ⟨ab, 2, none⟩ = some (.int .i64 nd)
theorem Box.lt {w : World} {ab : Nat} {li nd : Int} (h : Box w ab li nd) : ab < w.heap.size := World.block_lt_of_cell? w ⟨ab, 1, none⟩ h.1
theorem Box.keep {w w' : World} {ab : Nat} {li nd : Int} (h : Box w ab li nd) (hk : w'.heap[ab]? = w.heap[ab]?) : Box w' ab li nd :=
  ⟨(World.cell?_of_block (a := ⟨ab, 1, none⟩) hk).trans h.1, (World.cell?_of_block (a := ⟨ab, 2, none⟩) hk).trans h.2⟩
theorem Box.turn {w w' : World} {ab g1 g2 : Nat} {li nd : Int} (h : Box w ab li nd) (ht : Turn2 w w' g1 g2) (h1 : ab ≠ g1) (h2 : ab ≠ g2) : Box w' ab li nd := h.keep (ht.block ab h.lt h1 h2)
theorem Box.grown {w w' : World} {ab gL : Nat} {li nd : Int} (h : Box w ab li nd) (hg : w.grownBy w' (some gL)) (h1 : ab ≠ gL) : Box w' ab li nd := h.keep (hg.block ab h.lt (by simpa using h1))
theorem Box.below {w w' : World} {ab : Nat} {li nd : Int} (h : Box w ab li nd) (hb : Below w.heap.size w w') : Box w' ab li nd := h.keep (hb.block ab h.lt)
theorem box_new {w w4 : World} {kd li nd : Int} (e : w.alloc (.cells #[.int .i64 kd, .int .i64 li, .int .i64 nd] 30) = w4) : Box w4 w.heap.size li nd ∧ w4.cell? ⟨w.heap.size, 0, none⟩ = some (.int .i64 kd) ∧ Below w.heap.size w w4 := by
  subst e
  refine ⟨⟨?_, ?_⟩, ?_, (Below.refl _ _).alloc (Nat.le_refl _) _⟩
  · rw [cell_of_row _ _ _ _ _ _ (heap_alloc_new w _)]; rfl
  · rw [cell_of_row _ _ _ _ _ _ (heap_alloc_new w _)]; rfl
  · rw [cell_of_row _ _ _ _ _ _ (heap_alloc_new w _)]; rfl

set_option maxRecDepth 100000 in
set_option maxHeartbeats 8000000 in
theorem plays_walk (x y : Nat) (hx : x ≤ 255) (hy : y ≤ 255) (D : Option Addr) (n2 c2 : Nat) (L : Nat → ActV) (at_ node : Int) (w : World) (ha : Acts w D n2 L) :
    Calls Try.prog 3 #[.int .u8 (x : Int), .int .u8 (y : Int), .slice D n2 c2, .int .i64 at_, .int .i64 node] w fun e w' => e = .returned (.bool true) ∧ Below w.heap.size w w' := by
  have HA := Lib.hid ha
  obtain ⟨n, hn⟩ : ∃ n : Nat, (x : Int) % 40 = (n : Int) := ⟨x % 40, by omega⟩
  obtain ⟨m, hm⟩ : ∃ m : Nat, (y : Int) % 6 = (m : Int) := ⟨y % 6, by omega⟩
  have hn2 : n ≤ 39 := by omega
  have hm2 : m ≤ 5 := by omega
  clear ha
  go_enter Try.func3, Try.ntmps3
  go_wp2_with fail
  refine (new_any n m w (by omega) (by omega)).mono ?_; rintro e w1 ⟨R, g1, g2, rfl, x1, hR, h1, h2, b1⟩
  have X1 := Lib.hid x1
  have B1 := Lib.hid b1
  have HG := Lib.hid (And.intro h1 h2)
  clear x1 b1 h1 h2 hR
  go_wp2_with fail
  refine (rnew_any n m w1 (by omega) (by omega)).mono ?_; rintro e w2 ⟨RR, gL, rfl, r2, hgl, b2⟩
  have WH : Hid (Where w R g1 g2 gL w1.heap.size) := ⟨X1.out.lt.1, X1.out.lt.2.1, X1.out.lt.2.2, hgl, HG.out.1, HG.out.2⟩
  obtain ⟨B, hBe⟩ : ∃ B, w1.heap.size = B := ⟨_, rfl⟩
  rw [hBe] at WH r2
  have P2 : Hid (Pl w R g1 g2 RR gL n m B w2) := ⟨_, X1.out.below b2, r2, then_below B1.out b2⟩
  clear r2 hgl b2 X1 B1 HG hBe
  go_wp2
  go_loopw [16] (fun q wr => ∃ j : Nat, j ≤ 50 ∧ j ≤ n2 ∧ q = .int .i64 (j : Int) ∧ Hid (Pl w R g1 g2 RR gL n m B wr)) (fun q _ => n2 - (intOf q).toNat)
  case atStart => exact ⟨0, by omega, by omega, rfl, P2⟩
  case round =>
    clear P2
    obtain ⟨j, hj50, hjn, rfl, PJ⟩ := hrel
    by_cases hlt : j < n2 ∧ j < 50
    · obtain ⟨hlt1, hlt2⟩ := hlt
      obtain ⟨LL, xr, rr, bj⟩ := PJ.out
      obtain ⟨b, off, rfl, h0, h1, h2⟩ := (HA.out.below bj) j hlt1
      obtain ⟨kd, ekd⟩ : ∃ z, (L j).kind = z := ⟨_, rfl⟩
      obtain ⟨li, eli⟩ : ∃ z, (L j).list = z := ⟨_, rfl⟩
      obtain ⟨nd, end_⟩ : ∃ z, (L j).node = z := ⟨_, rfl⟩
      rw [ekd] at h0
      rw [eli] at h1
      rw [end_] at h2
      have X0 := Lib.hid xr
      have R0 := Lib.hid rr
      have B0 := Lib.hid bj
      clear xr rr bj ekd eli end_
      have hi0 : (0 : Int) ≤ (j : Int) := by omega
      have hi1 : (j : Int) < (n2 : Int) := by omega
      go_upto_block 2 with (fail)
      obtain ⟨ab, hab⟩ : ∃ ab, wr.heap.size = ab := ⟨_, rfl⟩
      obtain ⟨w4, hw4⟩ : ∃ w4, wr.alloc (.cells #[.int .i64 kd, .int .i64 li, .int .i64 nd] 30) = w4 := ⟨_, rfl⟩
      obtain ⟨bx, bk, b4⟩ := box_new hw4
      have NEQ : Hid (ab ≠ g1 ∧ ab ≠ g2 ∧ ab ≠ gL) := by
        have h1 := X0.out.lt
        have h3 : gL < wr.heap.size := by obtain ⟨vs, hr⟩ := R0.out; exact hr.lt.2
        exact ⟨by omega, by omega, by omega⟩
      have X4 := Lib.hid (X0.out.below b4)
      have R4 := Lib.hid (R0.out.below b4)
      have B4 : Hid (Below w.heap.size w w4) := then_below B0.out b4
      rw [hw4]
      rw [hab] at bx bk ⊢
      have BX := Lib.hid bx
      obtain ⟨bx1, bx2⟩ := bx
      clear b4 hw4 hab h0 h1 h2
      go_cut [18, 19] from 42 to 114 (fun s18 s19 wc => ∃ bb : Bool, s18 = .bool bb ∧ s19 = .bool bb ∧ Hid (Pl w R g1 g2 RR gL n m B wc) ∧ Hid (Box wc ab li nd))
      case first =>
        clear HA PJ
        by_cases k0 : kd = 0
        · subst k0
          obtain ⟨L2, bb, bo⟩ := push_both n LL li nd
          have PX : Hid (∀ (w : World), Rows w R g1 g2 n LL → Calls Try.prog 8 #[.pointer (some ⟨R, 0, none⟩), .int .i64 li, .int .i64 nd] w (Moved w R g1 g2 n L2 (.bool bb))) := fun w h => bo.x h
          have PR : Hid (∀ (w : World), Ref w RR gL n m B LL → Calls Try.prog 9 #[.pointer (some ⟨RR, 0, none⟩), .int .i64 li, .int .i64 nd] w (RMoved w RR gL n m B L2 (.bool bb))) := fun w h => bo.r h
          clear bo
          go_wp2_with fail
          go_region_held (fun w' => w'.cell? ⟨ab, 1, none⟩ = some (.int .i64 li) ∧ w'.cell? ⟨ab, 2, none⟩ = some (.int .i64 nd)) (first | go_keep | exact ((BX.out.turn T5.out NEQ.out.1 NEQ.out.2.1).grown Q6.out NEQ.out.2.2) | exact (BX.out.turn T5.out NEQ.out.1 NEQ.out.2.1))
            (first
              | (go_at_call 8; (with_reducible refine (PX.out _ (X4.out.below (Below.refl _ _).drew)).mono ?_); rintro e w5 ⟨rfl, x5, t5⟩; have X5 := Lib.hid x5; have T5 : Hid (Turn2 w4 w5 g1 g2) := turn_of_dn (n := 1) t5; have R5 := Lib.hid (R4.out.turn T5.out WH.out.a WH.out.b); clear x5 t5)
              | (go_at_call 9; (with_reducible refine (PR.out _ R5.out).mono ?_); rintro e w6 ⟨rfl, r6, q6⟩; have P6 := Lib.hid (pl_both WH.out B4.out X5.out T5.out r6 q6); have Q6 := Lib.hid q6; clear r6 q6))
          all_goals go_wp2
          all_goals
            go_meet
            case rel => exact ⟨bb, rfl, rfl, P6, (BX.out.turn T5.out NEQ.out.1 NEQ.out.2.1).grown Q6.out NEQ.out.2.2⟩
        · have hk0 : (kd == 0) = false := by simpa using k0
          by_cases k1 : kd = 1
          · subst k1
            clear k0
            obtain ⟨L2, bb, bo⟩ := append_both n LL li nd
            have PX : Hid (∀ (w : World), Rows w R g1 g2 n LL → Calls Try.prog 10 #[.pointer (some ⟨R, 0, none⟩), .int .i64 li, .int .i64 nd] w (Moved w R g1 g2 n L2 (.bool bb))) := fun w h => bo.x h
            have PR : Hid (∀ (w : World), Ref w RR gL n m B LL → Calls Try.prog 11 #[.pointer (some ⟨RR, 0, none⟩), .int .i64 li, .int .i64 nd] w (RMoved w RR gL n m B L2 (.bool bb))) := fun w h => bo.r h
            clear bo
            go_wp2_with fail
            go_region_held (fun w' => w'.cell? ⟨ab, 1, none⟩ = some (.int .i64 li) ∧ w'.cell? ⟨ab, 2, none⟩ = some (.int .i64 nd)) (first | go_keep | exact ((BX.out.turn T5.out NEQ.out.1 NEQ.out.2.1).grown Q6.out NEQ.out.2.2) | exact (BX.out.turn T5.out NEQ.out.1 NEQ.out.2.1))
              (first
                | (go_at_call 10; (with_reducible refine (PX.out _ (X4.out.below (Below.refl _ _).drew)).mono ?_); rintro e w5 ⟨rfl, x5, t5⟩; have X5 := Lib.hid x5; have T5 : Hid (Turn2 w4 w5 g1 g2) := turn_of_dn (n := 1) t5; have R5 := Lib.hid (R4.out.turn T5.out WH.out.a WH.out.b); clear x5 t5)
                | (go_at_call 11; (with_reducible refine (PR.out _ R5.out).mono ?_); rintro e w6 ⟨rfl, r6, q6⟩; have P6 := Lib.hid (pl_both WH.out B4.out X5.out T5.out r6 q6); have Q6 := Lib.hid q6; clear r6 q6))
            all_goals go_wp2
            all_goals
              go_meet
              case rel => exact ⟨bb, rfl, rfl, P6, (BX.out.turn T5.out NEQ.out.1 NEQ.out.2.1).grown Q6.out NEQ.out.2.2⟩
          · have hk1 : (kd == 1) = false := by simpa using k1
            clear k0 k1
            obtain ⟨L2, bb, bo⟩ := remove_both n LL nd
            have PX : Hid (∀ (w : World), Rows w R g1 g2 n LL → Calls Try.prog 12 #[.pointer (some ⟨R, 0, none⟩), .int .i64 nd] w (Moved w R g1 g2 n L2 (.bool bb))) := fun w h => bo.x h
            have PR : Hid (∀ (w : World), Ref w RR gL n m B LL → Calls Try.prog 13 #[.pointer (some ⟨RR, 0, none⟩), .int .i64 nd] w (RMoved w RR gL n m B L2 (.bool bb))) := fun w h => bo.r h
            clear bo
            go_wp2_with fail
            go_region_held (fun w' => w'.cell? ⟨ab, 2, none⟩ = some (.int .i64 nd)) (first | go_keep | exact ((BX.out.turn T5.out NEQ.out.1 NEQ.out.2.1).grown Q6.out NEQ.out.2.2).2 | exact (BX.out.turn T5.out NEQ.out.1 NEQ.out.2.1).2)
              (first
                | (go_at_call 12; (with_reducible refine (PX.out _ (X4.out.below (Below.refl _ _).drew)).mono ?_); rintro e w5 ⟨rfl, x5, t5⟩; have X5 := Lib.hid x5; have T5 : Hid (Turn2 w4 w5 g1 g2) := turn_of_dn (n := 1) t5; have R5 := Lib.hid (R4.out.turn T5.out WH.out.a WH.out.b); clear x5 t5)
                | (go_at_call 13; (with_reducible refine (PR.out _ R5.out).mono ?_); rintro e w6 ⟨rfl, r6, q6⟩; have P6 := Lib.hid (pl_both WH.out B4.out X5.out T5.out r6 q6); have Q6 := Lib.hid q6; clear r6 q6))
            all_goals go_wp2
            all_goals
              go_meet
              case rel => exact ⟨bb, rfl, rfl, P6, (BX.out.turn T5.out NEQ.out.1 NEQ.out.2.1).grown Q6.out NEQ.out.2.2⟩
      case rest =>
        obtain ⟨bb, rfl, rfl, PC, BC⟩ := hcut
        clear X0 R0 B0 X4 R4 B4 BX bx1 bx2 bk PJ
        obtain ⟨L5, x5, r5, b5⟩ := PC.out
        obtain ⟨bc1, bc2⟩ := BC.out
        have X5 := Lib.hid x5
        have R5 := Lib.hid r5
        have B5 := Lib.hid b5
        have hbb : (bb != bb) = false := by simp
        clear x5 r5 b5
        go_wp2_with fail
        refine (lsame_any X5.out R5.out at_ node).mono ?_; rintro e w6 ⟨rfl, b6⟩
        have X6 := Lib.hid (X5.out.below b6)
        have R6 := Lib.hid (R5.out.below b6)
        have B6 := Lib.hid (then_below B5.out b6)
        obtain ⟨bd1, bd2⟩ := BC.out.below b6
        clear b6 bc1 bc2
        go_wp2_with fail
        refine (lsame_any X6.out R6.out li nd).mono ?_; rintro e w7 ⟨rfl, b7⟩
        have P7 : Hid (Pl w R g1 g2 RR gL n m B w7) := ⟨L5, X6.out.below b7, R6.out.below b7, then_below B6.out b7⟩
        clear b7
        go_wp2
        go_roundw
        case rel => exact ⟨j + 1, by omega, by omega, by go_num, P7⟩
        case measure => simp [intOf]; omega
    · have hcase : (n2 ≤ j) ∨ (j < n2 ∧ 50 ≤ j) := by omega
      clear hlt
      rcases hcase with hx | ⟨hx1, hx2⟩
      all_goals
        go_wp2
        go_loopw [20] (fun q wr => ∃ k : Nat, k ≤ m ∧ q = .int .i64 (k : Int) ∧ Hid (Pl w R g1 g2 RR gL n m B wr)) (fun q _ => m - (intOf q).toNat)
        case atStart => exact ⟨0, by omega, rfl, PJ⟩
        case round =>
          clear PJ
          obtain ⟨k, hk, rfl, PK⟩ := hrel
          obtain ⟨L5, x5, r5, b5⟩ := PK.out
          have X5 := Lib.hid x5
          have R5 := Lib.hid r5
          have B5 := Lib.hid b5
          clear x5 r5 b5
          by_cases hkm : k < m
          · go_wp2_with fail
            refine (lsame_any X5.out R5.out k node).mono ?_; rintro e w6 ⟨rfl, b6⟩
            have P6 : Hid (Pl w R g1 g2 RR gL n m B w6) := ⟨L5, X5.out.below b6, R5.out.below b6, then_below B5.out b6⟩
            clear b6
            go_wp2
            go_roundw
            case rel => exact ⟨k + 1, by omega, by go_num, P6⟩
            case measure => simp [intOf]; omega
          · have hge : m ≤ k := by omega
            go_wp2_with fail
            refine (awake_any _).mono ?_; rintro e w6 ⟨rfl, b6⟩
            have B6 := Lib.hid (then_below B5.out b6)
            clear b6
            go_wp2
            go_ret
            exact ⟨rfl, B6.out⟩
end Go.Proofs.Ytngfhcapjonkcaa.W
