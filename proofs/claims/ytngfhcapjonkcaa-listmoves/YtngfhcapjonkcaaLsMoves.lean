/-
  The walk of ListMoves. No conditions.
-/
import Derived.Test.YtngfhcapjonkcaaLsMoveNum
namespace Go.Proofs.Ytngfhcapjonkcaa.W
open Go.RowKit Rw Ls
set_option linter.unusedVariables false

/-- a call that moves one node at most -/
structure Mv (F : FuncId) (n : Nat) (L L' : List (List Nat)) (args : Value → Array Value) (b : Bool) (i : Int) : Prop where
  x : ∀ {w : World} {R g1 g2 : Nat}, Rows w R g1 g2 n L → Calls Try.prog F (args (.pointer (some ⟨R, 0, none⟩))) w (Moved w R g1 g2 n L' (.bool b))
  keeps : Keeps L L' i
theorem push_mv (n : Nat) (L : List (List Nat)) (k a : Int) : ∃ L' b, Mv 8 n L L' (fun p => #[p, .int .i64 k, .int .i64 a]) b a := by
  by_cases h : (0 ≤ k ∧ k < (L.length : Int)) ∧ (0 ≤ a ∧ a < (n : Int))
  · obtain ⟨kk, rfl⟩ := Int.eq_ofNat_of_zero_le h.1.1
    obtain ⟨aa, rfl⟩ := Int.eq_ofNat_of_zero_le h.2.1
    exact ⟨push L kk aa, true, fun hx => push_yes hx kk aa (by omega) (by omega), keeps_push (by omega)⟩
  · exact ⟨L, false, fun hx => push_no hx k a h, keeps_same L a⟩
theorem append_mv (n : Nat) (L : List (List Nat)) (k a : Int) : ∃ L' b, Mv 10 n L L' (fun p => #[p, .int .i64 k, .int .i64 a]) b a := by
  by_cases h : (0 ≤ k ∧ k < (L.length : Int)) ∧ (0 ≤ a ∧ a < (n : Int))
  · obtain ⟨kk, rfl⟩ := Int.eq_ofNat_of_zero_le h.1.1
    obtain ⟨aa, rfl⟩ := Int.eq_ofNat_of_zero_le h.2.1
    exact ⟨app L kk aa, true, fun hx => append_yes hx kk aa (by omega) (by omega), keeps_app (by omega)⟩
  · exact ⟨L, false, fun hx => append_no hx k a h, keeps_same L a⟩
theorem remove_mv (n : Nat) (L : List (List Nat)) (i : Int) : ∃ L' b, Mv 12 n L L' (fun p => #[p, .int .i64 i]) b i := by
  rcases where_int L i with ⟨a, k, u, v, rfl, hk⟩ | hno
  · exact ⟨rm L a, true, fun hx => remove_yes hx a k u v hk, keeps_rm L a⟩
  · exact ⟨L, false, fun hx => remove_no hx i hno, keeps_same L i⟩

/-- the first k rows, kept in an array -/
def Kept (w : World) (rb B k : Nat) (L : List (List Nat)) : Prop := ∃ vs, w.rowIs rb 45 3 vs ∧ (∀ j, j < k → RowV w B (vs j) (rowOf L j)) ∧ ∀ j, j < 3 → ∃ A l c, vs j = .slice A l c
section
variable {w w' : World} {rb B k g1 g2 : Nat} {L : List (List Nat)}
theorem Kept.below (h : Kept w rb B k L) (hb : Below w.heap.size w w') : Kept w' rb B k L := by
  obtain ⟨vs, h1, h2, h3⟩ := h
  exact ⟨vs, rowIs_below h1 hb, fun j hj => (h2 j hj).keep fun b _ hlt _ => hb.block b hlt, h3⟩
theorem Kept.turn (h : Kept w rb B k L) (ht : Turn2 w w' g1 g2) (h1 : g1 < B) (h2 : g2 < B) (hr : B ≤ rb) : Kept w' rb B k L := by
  obtain ⟨vs, r1, r2, r3⟩ := h
  exact ⟨vs, r1.of_block (ht.block rb r1.lt (by omega) (by omega)), fun j hj => (r2 j hj).keep fun b hb hlt _ => ht.block b hlt (by omega) (by omega), r3⟩
theorem kept_new (w : World) (B : Nat) (L : List (List Nat)) : Kept (w.alloc (.cells #[.slice none 0 0, .slice none 0 0, .slice none 0 0] 45)) w.heap.size B 0 L :=
  ⟨fun _ => .slice none 0 0, World.rowIs_alloc w #[.slice none 0 0, .slice none 0 0, .slice none 0 0] 45 (fun _ => .slice none 0 0) (fun i hi => by
    match i, hi with
    | 0, _ => rfl
    | 1, _ => rfl
    | 2, _ => rfl), fun j hj => by omega, fun j _ => ⟨none, 0, 0, rfl⟩⟩
theorem Kept.lt (h : Kept w rb B k L) : rb < w.heap.size := by obtain ⟨vs, r1, _⟩ := h; exact r1.lt
theorem Kept.set {v : Value} (h : Kept w rb B k L) (hv : RowV w B v (rowOf L k)) : Kept (w.setCell ⟨rb, k, none⟩ v) rb B (k + 1) L := by
  obtain ⟨vs, r1, r2, r3⟩ := h
  have hint : ∀ (u : Value) (r' : List Nat), RowV w B u r' → RowV (w.setCell ⟨rb, k, none⟩ v) B u r' := fun u r' hu => hu.keep fun b h1 h2 hz => by
    obtain ⟨off, z, hz⟩ := hz
    refine Below.heap_setCell _ _ _ _ fun e => ?_
    subst e
    by_cases ho : off < 3
    · rw [r1.cell ho] at hz
      obtain ⟨A, l, c, e⟩ := r3 off ho
      rw [e] at hz
      cases hz
    · obtain ⟨c, hc, hs, _⟩ := r1
      rw [cell_of_row _ _ _ _ _ _ hc, Array.getElem?_eq_none (by omega)] at hz
      cases hz
  refine ⟨fun j => if j = k then v else vs j, r1.set k v, fun j hj => ?_, fun j hj => ?_⟩
  · dsimp only
    by_cases e : j = k
    · subst e; rw [if_pos rfl]; exact hint _ _ hv
    · rw [if_neg e]; exact hint _ _ (r2 j (by omega))
  · dsimp only
    by_cases e : j = k
    · rw [if_pos e]; obtain ⟨A, c, e, _⟩ := hv; exact ⟨A, _, c, e⟩
    · rw [if_neg e]; exact r3 j hj
theorem Kept.at_ (h : Kept w rb B k L) {j : Nat} (hj : j < k) (hk : k ≤ 3) : ∃ A c, w.cell? ⟨rb, j, none⟩ = some (.slice A (rowOf L j).length c) ∧ Sl w A (rowOf L j).length (nv (rowOf L j)) := by
  obtain ⟨vs, r1, r2, _⟩ := h
  obtain ⟨A, c, e, _, hs, _⟩ := r2 j hj
  exact ⟨A, c, by rw [r1.cell (by omega), e], hs⟩
theorem Kept.there (h : Kept w rb B k L) {j : Nat} (hj : j < 3) : (∃ v, w.cell? ⟨rb, j, none⟩ = some v) ∧ w.frozen? ⟨rb, j, none⟩ = false := by
  obtain ⟨vs, r1, _⟩ := h
  exact ⟨⟨_, r1.cell hj⟩, r1.frozen j⟩
end

structure WhereM (w0 : World) (R g1 g2 rb B ab : Nat) : Prop where
  r : R < B
  a : g1 < B
  b : g2 < B
  c : w0.heap.size ≤ g1
  d : w0.heap.size ≤ g2
  l : B ≤ rb
  ab0 : w0.heap.size ≤ ab
  n1 : ab ≠ g1
  n2 : ab ≠ g2
  n3 : ab < rb

theorem rowOf_len {n : Nat} {L : List (List Nat)} (hO : Ok n L) (hn : n ≤ 1024) (k : Nat) : (rowOf L k).length ≤ 1024 := by
  by_cases hk : k < L.length
  · exact row_len hO hn hk
  · rw [rowOf_ge (by omega)]; simp
theorem Rows.old {w : World} {R g1 g2 n : Nat} {L : List (List Nat)} (h : Rows w R g1 g2 n L) : ∀ k, (rowOf L k).length ≤ 1024 := by
  obtain ⟨f, s, hx⟩ := h
  exact rowOf_len hx.ok hx.st.hn
/-- what holds behind the call that is looked at -/
structure After (w wc : World) (R g1 g2 rb B ab n : Nat) (li nd : Int) (L L2 : List (List Nat)) : Prop where
  x : Rows wc R g1 g2 n L2
  k : Kept wc rb B 3 L
  b : Below w.heap.size w wc
  a : Box wc ab li nd
  keeps : Keeps L L2 nd
  old : ∀ k, (rowOf L k).length ≤ 1024
theorem After.below {w wc wd : World} {R g1 g2 rb B ab n : Nat} {li nd : Int} {L L2 : List (List Nat)} (h : After w wc R g1 g2 rb B ab n li nd L L2) (hb : Below wc.heap.size wc wd) : After w wd R g1 g2 rb B ab n li nd L L2 :=
  ⟨h.x.below hb, h.k.below hb, then_below h.b hb, h.a.below hb, h.keeps, h.old⟩
theorem After.ok {w wc : World} {R g1 g2 rb B ab n : Nat} {li nd : Int} {L L2 : List (List Nat)} (h : After w wc R g1 g2 rb B ab n li nd L L2) : Ok n L2 ∧ n ≤ 1024 := by
  obtain ⟨f, s, hx⟩ := h.x
  exact ⟨hx.ok, hx.st.hn⟩
theorem After.len {w wc : World} {R g1 g2 rb B ab n k : Nat} {li nd : Int} {L L2 : List (List Nat)} (h : After w wc R g1 g2 rb B ab n li nd L L2) : (rowOf L2 k).length ≤ 1024 := rowOf_len h.ok.1 h.ok.2 k
theorem After.inn_le {w wc : World} {R g1 g2 rb B ab n : Nat} {li nd : Int} {L L2 : List (List Nat)} (h : After w wc R g1 g2 rb B ab n li nd L L2) (k : Nat) (hk : k ≤ L2.length) : inn L2 nd k ≤ 1 := Ls.inn_le h.ok.1 nd k hk
theorem held_on {w w3 w5 : World} {R g1 g2 rb B ab n k : Nat} {li nd : Int} {L L2 : List (List Nat)} {u : Value} (h : After w w3 R g1 g2 rb B ab n li nd L L2) (hc : w3.cell? ⟨rb, k, none⟩ = some u ∧ w3.cell? ⟨ab, 2, none⟩ = some (.int .i64 nd)) (hb : Below w3.heap.size w3 w5) :
    w5.cell? ⟨rb, k, none⟩ = some u ∧ w5.cell? ⟨ab, 2, none⟩ = some (.int .i64 nd) :=
  ⟨(hb.cell (p := ⟨rb, k, none⟩) h.k.lt).trans hc.1, (hb.cell (p := ⟨ab, 2, none⟩) h.a.lt).trans hc.2⟩
theorem moved_on {w wr w5 : World} {R g1 g2 rb B ab n : Nat} {li nd kd : Int} {L L2 : List (List Nat)} (wm : WhereM w R g1 g2 rb B ab) (k : Kept wr rb B 3 L) (b : Below w.heap.size w wr) (a : Box wr ab li nd ∧ wr.cell? ⟨ab, 0, none⟩ = some (.int .i64 kd)) (z : B ≤ wr.heap.size)
    (x5 : Rows w5 R g1 g2 n L2) (t5 : Turn2 wr w5 g1 g2) (kp : Keeps L L2 nd) (hold : ∀ k, (rowOf L k).length ≤ 1024) : After w w5 R g1 g2 rb B ab n li nd L L2 :=
  ⟨x5, k.turn t5 wm.a wm.b wm.l, t5.under b b.size wm.c wm.d, a.1.turn t5 wm.n1 wm.n2, kp, hold⟩
theorem stored_on {w wr w3 : World} {R g1 g2 rb B ab n k : Nat} {li nd kd : Int} {L : List (List Nat)} {v : Value} (wm : WhereM w R g1 g2 rb B ab) (kk : Kept wr rb B k L) (xk : Rows wr R g1 g2 n L) (bk : Below w.heap.size w wr) (ak : Box wr ab li nd ∧ wr.cell? ⟨ab, 0, none⟩ = some (.int .i64 kd)) (zk : B ≤ wr.heap.size)
    (o3 : OwnV w3 3 wr.heap.size v (nv (rowOf L k))) (b3 : Below wr.heap.size wr w3) :
    Kept (w3.setCell ⟨rb, k, none⟩ v) rb B (k + 1) L ∧ Rows (w3.setCell ⟨rb, k, none⟩ v) R g1 g2 n L ∧ Below w.heap.size w (w3.setCell ⟨rb, k, none⟩ v) ∧ (Box (w3.setCell ⟨rb, k, none⟩ v) ab li nd ∧ (w3.setCell ⟨rb, k, none⟩ v).cell? ⟨ab, 0, none⟩ = some (.int .i64 kd)) ∧ B ≤ (w3.setCell ⟨rb, k, none⟩ v).heap.size := by
  have h1 := wm.r; have h2 := wm.a; have h3 := wm.b; have h4 := wm.l; have h5 := wm.n3; have h6 := wm.c
  have hne : (w3.setCell ⟨rb, k, none⟩ v).heap[ab]? = w3.heap[ab]? := Below.heap_setCell _ _ _ _ (by show ab ≠ rb; omega)
  refine ⟨(kk.below b3).set ((RowV.own o3).more zk), (xk.below b3).set v (by omega) (by omega) (by omega), (then_below bk b3).setCell (p := ⟨rb, k, none⟩) (by show w.heap.size ≤ rb; omega) v, ⟨(ak.1.below b3).keep hne, ?_⟩, ?_⟩
  · exact (World.cell?_of_block (a := ⟨ab, 0, none⟩) hne).trans ((b3.cell (p := ⟨ab, 0, none⟩) ak.1.lt).trans ak.2)
  · have := b3.size; simp [World.setCell]; omega

set_option maxRecDepth 100000 in
set_option maxHeartbeats 8000000 in
theorem moves_walk (x : Nat) (hx : x ≤ 255) (D : Option Addr) (n2 c2 : Nat) (L : Nat → ActV) (kd li nd : Int) (w : World) (ha : Acts w D n2 L) :
    Calls Try.prog 5 #[.int .u8 (x : Int), .slice D n2 c2, .agg #[.int .i64 kd, .int .i64 li, .int .i64 nd]] w fun e w' => e = .returned (.bool true) ∧ Below w.heap.size w w' := by
  have HA := Lib.hid ha
  obtain ⟨n, hn⟩ : ∃ n : Nat, (x : Int) % 40 = (n : Int) := ⟨x % 40, by omega⟩
  have hn2 : n ≤ 39 := by omega
  clear ha
  go_enter Try.func5, Try.ntmps5
  go_wp2_with fail
  obtain ⟨ab, hab⟩ : ∃ ab, w.heap.size = ab := ⟨_, rfl⟩
  obtain ⟨wa, hwa⟩ : ∃ wa, w.alloc (.cells #[.int .i64 kd, .int .i64 li, .int .i64 nd] 30) = wa := ⟨_, rfl⟩
  obtain ⟨bx, bk, b0⟩ := box_new hwa
  have hsz : wa.heap.size = ab + 1 := by rw [← hwa, ← hab]; simp
  rw [hwa]
  rw [hab] at bx bk ⊢
  have BX := Lib.hid bx
  have BK := Lib.hid bk
  have B0 := Lib.hid b0
  have HSZ := Lib.hid hsz
  have HAB := Lib.hid hab
  clear bx bk b0 hwa hsz hab
  refine (new_any n 3 wa (by omega) (by omega)).mono ?_; rintro e w1 ⟨R, g1, g2, rfl, x1, hR, h1, h2, b1⟩
  have X1 : Hid (Rows w1 R g1 g2 n (List.replicate 3 [])) := x1
  have B1 : Hid (Below w.heap.size w w1) := then_below B0.out b1
  have BX1 := Lib.hid (BX.out.below b1)
  have BK1 : Hid (w1.cell? ⟨ab, 0, none⟩ = some (.int .i64 kd)) := (b1.cell (p := ⟨ab, 0, none⟩) (World.block_lt_of_cell? wa ⟨ab, 0, none⟩ BK.out)).trans BK.out
  have HG : Hid (ab < g1 ∧ ab < g2 ∧ g1 < w1.heap.size ∧ g2 < w1.heap.size ∧ R < w1.heap.size) := ⟨by have := HSZ.out; omega, by have := HSZ.out; omega, x1.lt.2.1, x1.lt.2.2, x1.lt.1⟩
  clear x1 hR h1 h2 b1 BX BK B0
  go_wp2
  go_loopw [10] (fun q wr => ∃ j : Nat, j ≤ 50 ∧ j ≤ n2 ∧ q = .int .i64 (j : Int) ∧ Hid (∃ LL, Rows wr R g1 g2 n LL ∧ LL.length = 3) ∧ Hid (Below w.heap.size w wr) ∧ Hid (Box wr ab li nd ∧ wr.cell? ⟨ab, 0, none⟩ = some (.int .i64 kd)) ∧ Hid (w1.heap.size ≤ wr.heap.size)) (fun q _ => n2 - (intOf q).toNat)
  case atStart => exact ⟨0, by omega, by omega, rfl, ⟨_, X1.out, rfl⟩, B1, ⟨BX1.out, BK1.out⟩, Nat.le_refl _⟩
  case round =>
    clear X1 B1 BX1 BK1
    obtain ⟨j, hj50, hjn, rfl, XJ, BJ, AJ, ZJ⟩ := hrel
    obtain ⟨LL, xl, hll⟩ := XJ.out
    have X0 := Lib.hid xl
    have H3 := Lib.hid hll
    clear xl hll
    by_cases hlt : j < n2 ∧ j < 50
    · obtain ⟨hlt1, hlt2⟩ := hlt
      obtain ⟨b, off, rfl, h0, h10, h20⟩ := HA.out j hlt1
      have hbw : b < w.heap.size := World.block_lt_of_cell? w _ h0
      have h1 := (BJ.out.cell (p := ⟨b, _, none⟩) hbw).trans h10
      have h2 := (BJ.out.cell (p := ⟨b, _, none⟩) hbw).trans h20
      obtain ⟨lj, elj⟩ : ∃ z, (L j).list = z := ⟨_, rfl⟩
      obtain ⟨nj, enj⟩ : ∃ z, (L j).node = z := ⟨_, rfl⟩
      rw [elj] at h1
      rw [enj] at h2
      obtain ⟨kk, hkk⟩ : ∃ kk, bits BinOp.and IntKind.i64 lj 3 = kk := ⟨_, rfl⟩
      obtain ⟨L2, bb, mv⟩ := push_mv n LL kk nj
      have PX : Hid (∀ (w : World), Rows w R g1 g2 n LL → Calls Try.prog 8 #[.pointer (some ⟨R, 0, none⟩), .int .i64 kk, .int .i64 nj] w (Moved w R g1 g2 n L2 (.bool bb))) := fun w h => mv.x h
      have H4 : Hid (L2.length = 3) := mv.keeps.1.trans H3.out
      have hi0 : (0 : Int) ≤ (j : Int) := by omega
      have hi1 : (j : Int) < (n2 : Int) := by omega
      have NE : Hid (b < wr.heap.size ∧ b ≠ g1 ∧ b ≠ g2 ∧ ab ≠ g1 ∧ ab ≠ g2) := by have := HG.out; have := HAB.out; have := BJ.out.size; exact ⟨by omega, by omega, by omega, by omega, by omega⟩
      have HH := Lib.hid (And.intro h1 h2)
      clear mv elj enj h0 h10 h20 hbw
      go_wp2_with fail
      go_region_held (fun w' => w'.cell? ⟨b, off + j * 3 + 1, none⟩ = some (.int .i64 lj) ∧ w'.cell? ⟨b, off + j * 3 + 2, none⟩ = some (.int .i64 nj)) (first | go_keep | exact AFT.out)
        (first
          | (go_at_call 8; (with_reducible refine (PX.out _ (X0.out.below (Below.refl _ _).drew)).mono ?_); rintro e w5 ⟨rfl, x5, t5⟩; have X5 := Lib.hid x5; have T5 : Hid (Turn2 wr w5 g1 g2) := turn_of_dn (n := 1) t5; have AFT : Hid (w5.cell? ⟨b, off + j * 3 + 1, none⟩ = some (.int .i64 lj) ∧ w5.cell? ⟨b, off + j * 3 + 2, none⟩ = some (.int .i64 nj)) := ⟨(World.cell?_of_block (a := ⟨b, _, none⟩) (T5.out.block b NE.out.1 NE.out.2.1 NE.out.2.2.1)).trans HH.out.1, (World.cell?_of_block (a := ⟨b, _, none⟩) (T5.out.block b NE.out.1 NE.out.2.1 NE.out.2.2.1)).trans HH.out.2⟩; clear x5 t5))
      have B5 : Hid (Below w.heap.size w w5) := T5.out.under BJ.out BJ.out.size (by have := HG.out; have := HAB.out; omega) (by have := HG.out; have := HAB.out; omega)
      have A5 : Hid (Box w5 ab li nd ∧ w5.cell? ⟨ab, 0, none⟩ = some (.int .i64 kd)) := ⟨AJ.out.1.turn T5.out NE.out.2.2.2.1 NE.out.2.2.2.2, (World.cell?_of_block (a := ⟨ab, 0, none⟩) (T5.out.block ab AJ.out.1.lt NE.out.2.2.2.1 NE.out.2.2.2.2)).trans AJ.out.2⟩
      have Z5 : Hid (w1.heap.size ≤ w5.heap.size) := Nat.le_trans ZJ.out T5.out.size
      clear AFT T5
      go_wp2
      go_roundw
      case rel => exact ⟨j + 1, by omega, by omega, by go_num, ⟨L2, X5.out, H4.out⟩, B5, A5, Z5⟩
      case measure => simp [intOf]; omega
    · have hcase : (n2 ≤ j) ∨ (j < n2 ∧ 50 ≤ j) := by omega
      clear hlt HA
      obtain ⟨rb, hrb⟩ : ∃ rb, wr.heap.size = rb := ⟨_, rfl⟩
      obtain ⟨w2, hw2⟩ : ∃ w2, wr.alloc (.cells #[.slice none 0 0, .slice none 0 0, .slice none 0 0] 45) = w2 := ⟨_, rfl⟩
      have b2 : Below wr.heap.size wr w2 := by rw [← hw2]; exact (Below.refl _ _).alloc (Nat.le_refl _) _
      have K2 : Hid (Kept w2 rb w1.heap.size 0 LL) := by show Kept _ _ _ _ _; rw [← hw2, ← hrb]; exact kept_new wr w1.heap.size LL
      have X2 := Lib.hid (X0.out.below b2)
      have B2 : Hid (Below w.heap.size w w2) := then_below BJ.out b2
      have A2 : Hid (Box w2 ab li nd ∧ w2.cell? ⟨ab, 0, none⟩ = some (.int .i64 kd)) := ⟨AJ.out.1.below b2, (b2.cell (p := ⟨ab, 0, none⟩) AJ.out.1.lt).trans AJ.out.2⟩
      have WM : Hid (WhereM w R g1 g2 rb w1.heap.size ab) := by
        have h1 := HG.out; have h2 := HAB.out; have h3 := ZJ.out; have h4 := AJ.out.1.lt
        exact ⟨by omega, by omega, by omega, by omega, by omega, by omega, by omega, by omega, by omega, by omega⟩
      obtain ⟨B, hB⟩ : ∃ B, w1.heap.size = B := ⟨_, rfl⟩
      rw [hB] at WM K2
      have hW2 : Hid (wr.alloc (.cells #[.slice none 0 0, .slice none 0 0, .slice none 0 0] 45) = w2 ∧ wr.heap.size = rb) := ⟨hw2, hrb⟩
      have BW : Hid (B ≤ w2.heap.size) := by have h1 := ZJ.out; have h2 := b2.size; show _ ≤ _; omega
      clear hw2 hrb b2 X0 BJ AJ ZJ XJ HG HAB HSZ hB
      rcases hcase with hx | ⟨hx1, hx2⟩
      all_goals
        go_wp2
        rw [hW2.out.1, hW2.out.2]
        clear hW2
        go_loopw [12] (fun q wr => ∃ k : Nat, k ≤ 3 ∧ q = .int .i64 (k : Int) ∧ Hid (Kept wr rb B k LL) ∧ Hid (Rows wr R g1 g2 n LL) ∧ Hid (Below w.heap.size w wr) ∧ Hid (Box wr ab li nd ∧ wr.cell? ⟨ab, 0, none⟩ = some (.int .i64 kd)) ∧ Hid (B ≤ wr.heap.size)) (fun q _ => 3 - (intOf q).toNat)
        case atStart => exact ⟨0, by omega, rfl, K2, X2, B2, A2, BW⟩
        case round =>
          clear K2 X2 B2 A2 BW
          obtain ⟨k, hk, rfl, KK, XK, BK, AK, ZK⟩ := hrel
          by_cases hk3 : k < 3
          · obtain ⟨N, hN⟩ : ∃ N, (rowOf LL k).length = N := ⟨_, rfl⟩
            have HN := Lib.hid hN
            have HKL : Hid (k < LL.length) := by show _ < _; rw [H3.out]; exact hk3
            have hb0 : (0 : Int) ≤ (k : Int) := by omega
            have hb1 : (k : Int) < 3 := by omega
            clear hN
            go_wp2_with fail
            refine (all_row XK.out k HKL.out).mono ?_; rintro e w3 ⟨v3, rfl, o3, b3⟩
            obtain ⟨⟨vv, hcell⟩, hfr⟩ := (KK.out.below b3).there hk3
            have ST := Lib.hid (stored_on (k := k) WM.out KK.out XK.out BK.out AK.out ZK.out o3 b3)
            obtain ⟨A3, c3, rfl, l3, m3, s3⟩ := o3.form ((nv_len _).trans HN.out)
            clear o3 b3 l3 m3 s3
            go_wp2
            go_roundw
            case rel => exact ⟨k + 1, by omega, by go_num, ST.out.1, ST.out.2.1, ST.out.2.2.1, ST.out.2.2.2.1, ST.out.2.2.2.2⟩
            case measure => simp [intOf]; omega
          · have hke : k = 3 := by omega
            have K3 : Hid (Kept wr rb B 3 LL) := by rw [hke] at KK; exact KK
            have hge : 3 ≤ k := by omega
            obtain ⟨⟨ak1, ak2⟩, ak0⟩ := AK.out
            clear hke KK hk hk3
            go_upto_block 4 with (fail)
            go_cut [12] from 62 to 83 (fun s12 wc => s12 = .int .i64 (k : Int) ∧ ∃ L2, Hid (After w wc R g1 g2 rb B ab n li nd LL L2))
            case first =>
              by_cases k0 : kd = 0
              · subst k0
                obtain ⟨L2, bb, mv⟩ := push_mv n LL li nd
                have PX : Hid (∀ (w : World), Rows w R g1 g2 n LL → Calls Try.prog 8 #[.pointer (some ⟨R, 0, none⟩), .int .i64 li, .int .i64 nd] w (Moved w R g1 g2 n L2 (.bool bb))) := fun w h => mv.x h
                have KP := Lib.hid mv.keeps
                clear mv
                go_wp2_with fail
                refine (PX.out _ XK.out).mono ?_; rintro e w5 ⟨rfl, x5, t5⟩
                have M5 := Lib.hid (moved_on WM.out K3.out BK.out AK.out ZK.out x5 t5 KP.out (Rows.old XK.out))
                clear x5 t5
                go_wp2
                go_meet
                case rel => exact ⟨rfl, L2, M5⟩
              · have hk0 : (kd == 0) = false := by simpa using k0
                by_cases k1 : kd = 1
                · subst k1
                  clear k0
                  obtain ⟨L2, bb, mv⟩ := append_mv n LL li nd
                  have PX : Hid (∀ (w : World), Rows w R g1 g2 n LL → Calls Try.prog 10 #[.pointer (some ⟨R, 0, none⟩), .int .i64 li, .int .i64 nd] w (Moved w R g1 g2 n L2 (.bool bb))) := fun w h => mv.x h
                  have KP := Lib.hid mv.keeps
                  clear mv
                  go_wp2_with fail
                  refine (PX.out _ XK.out).mono ?_; rintro e w5 ⟨rfl, x5, t5⟩
                  have M5 := Lib.hid (moved_on WM.out K3.out BK.out AK.out ZK.out x5 t5 KP.out (Rows.old XK.out))
                  clear x5 t5
                  go_wp2
                  go_meet
                  case rel => exact ⟨rfl, L2, M5⟩
                · have hk1 : (kd == 1) = false := by simpa using k1
                  clear k0 k1
                  obtain ⟨L2, bb, mv⟩ := remove_mv n LL nd
                  have PX : Hid (∀ (w : World), Rows w R g1 g2 n LL → Calls Try.prog 12 #[.pointer (some ⟨R, 0, none⟩), .int .i64 nd] w (Moved w R g1 g2 n L2 (.bool bb))) := fun w h => mv.x h
                  have KP := Lib.hid mv.keeps
                  clear mv
                  go_wp2_with fail
                  refine (PX.out _ XK.out).mono ?_; rintro e w5 ⟨rfl, x5, t5⟩
                  have M5 := Lib.hid (moved_on WM.out K3.out BK.out AK.out ZK.out x5 t5 KP.out (Rows.old XK.out))
                  clear x5 t5
                  go_wp2
                  go_meet
                  case rel => exact ⟨rfl, L2, M5⟩
            case rest =>
              obtain ⟨rfl, L2, AF⟩ := hcut
              clear K3 XK BK AK ZK ak0 ak1 ak2 hge
              go_wp2
              go_loopw [13, 14] (fun c q wr => ∃ k' z : Nat, k' ≤ 3 ∧ q = .int .i64 (k' : Int) ∧ c = .int .i64 (z : Int) ∧ z ≤ 1 ∧ Hid (inn L2 nd k' = z) ∧ Hid (After w wr R g1 g2 rb B ab n li nd LL L2)) (fun _ q _ => 3 - (intOf q).toNat)
              case atStart => exact ⟨0, 0, by omega, rfl, rfl, by omega, rfl, AF⟩
              case round =>
                clear AF
                obtain ⟨k, z, hk, rfl, rfl, hz, IZ, AK⟩ := hrel
                have H4 : Hid (L2.length = 3) := AK.out.keeps.1.trans H3.out
                by_cases hk3 : k < 3
                · obtain ⟨N, hN⟩ : ∃ N, (rowOf L2 k).length = N := ⟨_, rfl⟩
                  obtain ⟨M, hM⟩ : ∃ M, (wo nd (rowOf L2 k)).length = M := ⟨_, rfl⟩
                  obtain ⟨N2, hN2⟩ : ∃ N2, (rowOf LL k).length = N2 := ⟨_, rfl⟩
                  have hMN : M ≤ N := by rw [← hM, ← hN]; exact wo_le _ _
                  have hle := After.len AK.out (k := k)
                  have hle2 := AK.out.old k
                  rw [hN] at hle
                  rw [hN2] at hle2
                  have hz2 : Hid (inn L2 nd (k + 1) = z + N - M) := by show _ = _; rw [inn, IZ.out, hN, hM]; omega
                  have hz3 : z + N - M ≤ 1 := by rw [← hz2.out]; exact After.inn_le AK.out (k + 1) (by rw [H4.out]; omega)
                  have HKL : Hid (k < L2.length) := by show _ < _; rw [H4.out]; exact hk3
                  have HK3 := Lib.hid hk3
                  have HN := Lib.hid hN
                  have HM := Lib.hid hM
                  have HN2 := Lib.hid hN2
                  have WO : Hid (wo nd (rowOf LL k) = wo nd (rowOf L2 k)) := (AK.out.keeps.2 k).symm
                  have hb0 : (0 : Int) ≤ (k : Int) := by omega
                  have hb1 : (k : Int) < 3 := by omega
                  have hcast : (z : Int) + (N : Int) - (M : Int) = ((z + N - M : Nat) : Int) := by omega
                  have HC := Lib.hid hcast
                  clear hN hM hN2 hcast
                  go_wp2_with fail
                  refine (all_row AK.out.x k HKL.out).mono ?_; rintro e w3 ⟨v3, rfl, o3, b3⟩
                  obtain ⟨A3, c3, rfl, l3, m3, s3⟩ := o3.form ((nv_len _).trans HN.out)
                  have A3' := Lib.hid (AK.out.below b3)
                  have S3 := Lib.hid s3
                  clear o3 b3 l3 m3 s3
                  obtain ⟨A4, c4, hc4, s4⟩ := A3'.out.k.at_ HK3.out (Nat.le_refl 3)
                  rw [HN2.out] at hc4 s4
                  obtain ⟨hd1, hd2⟩ := A3'.out.a
                  have S4 := Lib.hid s4
                  have CC := Lib.hid (And.intro hc4 hd2)
                  clear s4 hd1
                  go_wp2_with fail
                  go_region_held (fun w' => w'.cell? ⟨rb, k, none⟩ = some (.slice A4 N2 c4) ∧ w'.cell? ⟨ab, 2, none⟩ = some (.int .i64 nd)) (first | go_keep | exact held_on A3'.out CC.out D7.out | exact held_on A3'.out CC.out D6.out | exact held_on A3'.out CC.out D5.out)
                    (first
                      | (go_at_call 23; (with_reducible refine (without_any A4 c4 N2 (rowOf LL k) nd (S4.out.below D5.out) HN2.out (by omega)).mono ?_); rintro e w6 ⟨v6, rfl, o6, b6⟩; rw [WO.out] at o6; obtain ⟨A6, c6, rfl, l6, m6, s6⟩ := o6.form ((nv_len _).trans HM.out); have D6 : Hid (Below w3.heap.size w3 w6) := then_below D5.out b6; have S56 := Lib.hid (S5.out.below b6); have S6 := Lib.hid s6; clear o6 b6 l6 m6 s6)
                      | (go_at_call 23; (with_reducible refine (without_any A3 c3 N (rowOf L2 k) nd (S3.out.below (Below.refl _ _).drew) HN.out (by omega)).mono ?_); rintro e w5 ⟨v5, rfl, o5, b5⟩; obtain ⟨A5, c5, rfl, l5, m5, s5⟩ := o5.form ((nv_len _).trans HM.out); have D5 : Hid (Below w3.heap.size w3 w5) := below_of_drew b5; have S5 := Lib.hid s5; clear o5 b5 l5 m5 s5)
                      | (go_at_call 22; (with_reducible refine (same_yes A5 A6 M c5 c6 _ w6 HM.out (by omega) S56.out S6.out).mono ?_); rintro e w7 ⟨rfl, b7⟩; have D7 : Hid (Below w3.heap.size w3 w7) := then_below D6.out b7; clear b7))
                  all_goals
                    have A7 := Lib.hid (A3'.out.below D7.out)
                    have S7 := Lib.hid (S3.out.below D7.out)
                    obtain ⟨he1, he2⟩ := A7.out.a
                    clear hc4 hd2 he1
                    go_wp2_with fail
                    refine (without_any A3 c3 N (rowOf L2 k) nd S7.out HN.out (by omega)).mono ?_; rintro e w8 ⟨v8, rfl, o8, b8⟩
                    obtain ⟨A8, c8, rfl, l8, m8, s8⟩ := o8.form ((nv_len _).trans HM.out)
                    have AX := Lib.hid (A7.out.below b8)
                    clear o8 b8 l8 m8 s8
                    go_wp2
                    go_roundw
                    case rel => exact ⟨k + 1, z + N - M, by omega, by go_num, by rw [← HC.out], hz3, hz2, AX⟩
                    case measure => simp [intOf]; omega
                · have hke : k = 3 := by omega
                  subst hke
                  go_wp2_with fail
                  refine (right_any AK.out.x).mono ?_; rintro e w5 ⟨rfl, b5⟩
                  have B5 := Lib.hid (then_below AK.out.b b5)
                  clear b5
                  go_wp2_with fail
                  refine (awake_any _).mono ?_; rintro e w6 ⟨rfl, b6⟩
                  have B6 := Lib.hid (then_below B5.out b6)
                  clear b6
                  go_wp2
                  go_ret
                  exact ⟨rfl, B6.out⟩
end Go.Proofs.Ytngfhcapjonkcaa.W
