/-
  Elder texts, one behind the other: RcRg, RcRput, RcRget. No conditions.
-/
import Derived.Test.YtikbbikcacoobaaGreatDoorKRec
import Derived.Test.YtikbbikcacoobaaGreatDoorKRow
/-! The contract of the reference's Get of pages once more, with a word on the room behind what it tells. No conditions. -/
namespace Go.Proofs.YtikbbikcacoobaaGreatDoor.W
set_option maxRecDepth 100000
open Go.RowKit Oc
set_option linter.unusedVariables false

/-- the reference tells a part of what it got -/
def RGTold2 (w : World) (ys : List UInt8) (k : Int) (e : Ending) (w' : World) : Prop := ∃ A m c, m ≤ c ∧ e = .returned (.tuple #[.slice A m c, .int .i64 (getE ys k)]) ∧ Oct w A m (getL ys k) ∧ ∃ j, w' = w.drewN j
theorem rgtold2_no {w : World} {k : Int} {ys : List UInt8} {z : Int} (h : getE ys k = z) (hz : z ≠ 0) (j : Nat) : RGTold2 w ys k (.returned (.tuple #[.slice none 0 0, .int .i64 z])) (w.drewN j) := by
  subst h
  refine ⟨none, 0, 0, Nat.le_refl _, rfl, ?_, j, rfl⟩
  rw [getL_no hz]
  exact Oct.nil _ _
theorem rgtold2_ok {w : World} {k : Int} {ys zs : List UInt8} {A : Option Addr} {m c : Nat} (h : getE ys k = 0) (hz : (openL ys).drop 2 = zs) (ho : Oct w A m zs) (hmc : m ≤ c) (j : Nat) : RGTold2 w ys k (.returned (.tuple #[.slice A m c, .int .i64 0])) (w.drewN j) := by
  refine ⟨A, m, c, hmc, by rw [h], ?_, j, rfl⟩
  rw [getL_ok h, hz]
  exact ho

set_option maxHeartbeats 1000000 in
theorem rget2_any (A : Option Addr) (n c : Nat) (ys : List UInt8) (k : Int) (w : World) (hn : n ≤ 1000000) (hc : n ≤ c) (ho : Oct w A n ys) :
    Calls Tryz.prog 124 #[.slice A n c, .int .i64 k] w (RGTold2 w ys k) := by
  have HO := Lib.hid ho
  have hl := ho.len
  by_cases h64 : n = 64
  · subst h64
    rcases openE_some ys hl with h0 | h0
    · have hbl := openL_length hl h0
      obtain ⟨bs, hbs⟩ : ∃ bs, openL ys = bs := ⟨_, rfl⟩
      rw [hbs] at hbl
      by_cases hk : Right k
      · obtain ⟨x, hx⟩ : ∃ x, bs[0]? = some x := ⟨_, List.getElem?_eq_getElem (by omega)⟩
        obtain ⟨y, hy⟩ : ∃ y, bs[1]? = some y := ⟨_, List.getElem?_eq_getElem (by omega)⟩
        have hyl := y.toNat_lt
        have hkl : kindL bs = kindV x y := by unfold kindL; rw [getD_of hx, getD_of hy]
        have his := kindV_is (x := x) (y := y) hk
        rw [← hkl, ← hbs] at his
        have hq : (getE ys k = 0 ∧ (x.toNat : Int) = 213 ∧ (y.toNat : Int) = k) ∨ (getE ys k = 31 ∧ ¬ (x.toNat : Int) = 213) ∨ (getE ys k = 31 ∧ (x.toNat : Int) = 213 ∧ ¬ (y.toNat : Int) = k) := by
          by_cases h1 : x = 213
          · have h2 : (x.toNat : Int) = 213 := by rw [h1]; rfl
            by_cases h3 : (y.toNat : Int) = k
            · exact .inl ⟨getE_ok hl h0 hk (his.2 ⟨h1, h3⟩), h2, h3⟩
            · exact .inr (.inr ⟨getE_form hl h0 (fun h => h3 (his.1 h.2).2), h2, h3⟩)
          · refine .inr (.inl ⟨getE_form hl h0 (fun h => h1 (his.1 h.2).1), fun h => h1 (UInt8.toNat_inj.1 (by have : x.toNat = 213 := by omega
                                                                                                               exact this))⟩)
        have H0 := Lib.hid h0
        have HBL := Lib.hid hbl
        have HBS := Lib.hid hbs
        have HK := Lib.hid hk
        have HX := Lib.hid hx
        have HY := Lib.hid hy
        have HQ := Lib.hid hq
        clear ho hl h0 hbl hbs hk hx hy his hkl hq
        go_enter Tryz.func124, Tryz.ntmps124
        go_wp2_with fail
        refine (ropen2_any _ _ _ ys _ (by omega) hc HO.out).mono ?_; rintro e w1 ⟨A1, m1, c1, hmc, rfl, o, kk, rfl⟩
        rw [H0.out]
        rw [HBS.out] at o
        have hm1 : m1 = 60 := by rw [← o.len]; exact HBL.out
        subst hm1
        obtain ⟨b, off, rfl, hcs⟩ := o.2 (by decide)
        have d0 : w.cell? ⟨b, off, none⟩ = some (.int .u8 (x.toNat : Int)) := hcs 0 x HX.out
        have d1 : w.cell? ⟨b, off + 1, none⟩ = some (.int .u8 (y.toNat : Int)) := hcs 1 y HY.out
        have O := Lib.hid o
        clear o hcs
        rcases HQ.out with ⟨hz, q1, q2⟩ | ⟨hz, q1⟩ | ⟨hz, q1, q2⟩
        · rw [q1] at d0
          have HZ := Lib.hid hz
          subst q2
          clear hz q1
          have o2 := O.out.map (k := 2) (by omega)
          have O2 := Lib.hid o2
          clear o2
          go_wp2_with fail
          refine (rright_yes _ _ HK.out).mono ?_; rintro e w' ⟨rfl, rfl⟩
          go_wp2
          go_ret2
          exact rgtold2_ok HZ.out (by rw [HBS.out]) O2.out (by omega) _
        · have HZ := Lib.hid hz
          clear hz
          go_wp2_with fail
          refine (rright_yes _ _ HK.out).mono ?_; rintro e w' ⟨rfl, rfl⟩
          go_wp2
          go_ret2
          exact rgtold2_no HZ.out (by decide) _
        · rw [q1] at d0
          have HZ := Lib.hid hz
          clear hz q1
          go_wp2_with fail
          refine (rright_yes _ _ HK.out).mono ?_; rintro e w' ⟨rfl, rfl⟩
          go_wp2
          go_ret2
          exact rgtold2_no HZ.out (by decide) _
      · have hz := getE_form (k := k) hl h0 (fun h => hk h.1)
        have HZ := Lib.hid hz
        have H0 := Lib.hid h0
        have HK := Lib.hid hk
        clear ho hl h0 hbl hbs hk hz
        go_enter Tryz.func124, Tryz.ntmps124
        go_wp2_with fail
        refine (ropen_any _ _ _ ys _ (by omega) hc HO.out).mono ?_; rintro e w1 ⟨A1, m1, c1, rfl, o, kk, rfl⟩
        rw [H0.out]
        clear o
        go_wp2_with fail
        refine (rright_no _ _ HK.out).mono ?_; rintro e w' ⟨rfl, rfl⟩
        go_wp2
        go_ret2
        exact rgtold2_no HZ.out (by decide) _
    · have hz := getE_sum hl (by rw [h0]; decide) k
      rw [h0] at hz
      have HZ := Lib.hid hz
      have H0 := Lib.hid h0
      clear ho hl h0 hz
      go_enter Tryz.func124, Tryz.ntmps124
      go_wp2_with fail
      refine (ropen_any _ _ _ ys _ (by omega) hc HO.out).mono ?_; rintro e w1 ⟨A1, m1, c1, rfl, o, kk, rfl⟩
      rw [H0.out]
      clear o
      go_wp2
      go_ret2
      exact rgtold2_no HZ.out (by decide) _
  · have hz := getE_short (ys := ys) (by omega) k
    have HZ := Lib.hid hz
    clear ho hl hz
    go_enter Tryz.func124, Tryz.ntmps124
    go_wp2
    go_ret2
    exact rgtold2_no HZ.out (by decide) 0

end Go.Proofs.YtikbbikcacoobaaGreatDoor.W

/-! The contract of the reference's Put. No conditions. -/
namespace Go.Proofs.YtikbbikcacoobaaGreatDoor.W
set_option maxRecDepth 100000
open Go.RowKit Oc Rw Gt
set_option linter.unusedVariables false

theorem rnum2 (N : Nat) (w : World) (hN : N < 18446744073709551616) : Calls Tryz.prog 71 #[.int .u64 (N : Int), .int .i64 2] w (Made w (octs N 2)) := num_yes N 2 w hN (by omega)
theorem rnum8 (N : Nat) (w : World) (hN : N < 18446744073709551616) : Calls Tryz.prog 71 #[.int .u64 (N : Int), .int .i64 8] w (Made w (octs N 8)) := num_yes N 8 w hN (by omega)
theorem octs_one (m : UInt8) : octs m.toNat 1 = [m] := by
  show [UInt8.ofNat m.toNat] = [m]
  simp
/-- one octet in a slice of its own -/
theorem own_one (w : World) (m : UInt8) {B : Nat} (hB : B ≤ w.heap.size) : Own (w.alloc (.cells #[.int .u8 (m.toNat : Int)] 5)) 5 B (.slice (some ⟨w.heap.size, 0, none⟩) 1 1) [m] :=
  World.ownsRow_lit (base := B) (e := 5) (size := 1) w #[.int .u8 (m.toNat : Int)] 1 hB (by decide) rfl
/-- the five parts of a payload -/
def parts5 (p : Rc) (N : Nat) (A1 A2 A3 A4 A5 : Option Addr) (c1 c2 c3 c4 c5 : Nat) : List Part := [⟨A1, 8, c1, octs p.q 8⟩, ⟨A2, 8, c2, octs p.h 8⟩, ⟨A3, 2, c3, octs N 2⟩, ⟨A4, 8, c4, octs p.g 8⟩, ⟨A5, 1, c5, [p.m]⟩]
theorem joined5 {p : Rc} {N : Nat} (hN : p.x.toNat = N) (A1 A2 A3 A4 A5 : Option Addr) (c1 c2 c3 c4 c5 : Nat) : joined (parts5 p N A1 A2 A3 A4 A5 c1 c2 c3 c4 c5) = pay p := by
  unfold pay
  rw [hN, octs_one]
  simp [joined, parts5]
theorem row5 (w : World) (v0 v1 v2 v3 v4 : Value) (T : TypeId) : ∀ (j : Nat) (y : Value), [v0, v1, v2, v3, v4][j]? = some y → (w.alloc (.cells #[v0, v1, v2, v3, v4] T)).cell? ⟨w.heap.size, j, none⟩ = some y := fun j y hy => by
  rw [cell_of_row _ _ _ _ _ _ (heap_alloc_new w _)]
  simpa using hy
theorem join5 {w : World} {p : Rc} {N : Nat} (hN : p.x.toNat = N) {A1 A2 A3 A4 A5 : Option Addr} {c1 c2 c3 c4 c5 : Nat} {B : Nat} (h1 : Own w 5 B (.slice A1 8 c1) (octs p.q 8)) (h2 : Own w 5 B (.slice A2 8 c2) (octs p.h 8)) (h3 : Own w 5 B (.slice A3 2 c3) (octs N 2)) (h4 : Own w 5 B (.slice A4 8 c4) (octs p.g 8)) (h5 : Own w 5 B (.slice A5 1 c5) [p.m]) (T : TypeId) :
    Calls Tryz.prog 70 #[.slice (some ⟨w.heap.size, 0, none⟩) 5 5] (w.alloc (.cells #[.slice A1 8 c1, .slice A2 8 c2, .slice A3 2 c3, .slice A4 8 c4, .slice A5 1 c5] T)) (Made (w.alloc (.cells #[.slice A1 8 c1, .slice A2 8 c2, .slice A3 2 c3, .slice A4 8 c4, .slice A5 1 c5] T)) (pay p)) := by
  rw [← joined5 hN A1 A2 A3 A4 A5 c1 c2 c3 c4 c5]
  have oc : ∀ {A : Option Addr} {n c : Nat} {xs : List UInt8}, Own w 5 B (.slice A n c) xs → xs.length = n → Oct (w.alloc (.cells #[.slice A1 8 c1, .slice A2 8 c2, .slice A3 2 c3, .slice A4 8 c4, .slice A5 1 c5] T)) A n xs := fun {A n c xs} h hl => by
    obtain ⟨A', c', e, _, s⟩ := h.form hl
    injection e with e1 e2 e3
    rw [e1]
    exact s.alloc _
  refine join_any _ _ 5 5 _ (by simp) rfl (by omega) fun j q hq => ?_
  match j, hq with
  | 0, hq => injection hq with hq; subst hq; exact ⟨row5 w _ _ _ _ _ T 0 _ rfl, oc h1 (octs_length _ _), by show 8 ≤ 1000000; omega⟩
  | 1, hq => injection hq with hq; subst hq; exact ⟨row5 w _ _ _ _ _ T 1 _ rfl, oc h2 (octs_length _ _), by show 8 ≤ 1000000; omega⟩
  | 2, hq => injection hq with hq; subst hq; exact ⟨row5 w _ _ _ _ _ T 2 _ rfl, oc h3 (octs_length _ _), by show 2 ≤ 1000000; omega⟩
  | 3, hq => injection hq with hq; subst hq; exact ⟨row5 w _ _ _ _ _ T 3 _ rfl, oc h4 (octs_length _ _), by show 8 ≤ 1000000; omega⟩
  | 4, hq => injection hq with hq; subst hq; exact ⟨row5 w _ _ _ _ _ T 4 _ rfl, oc h5 rfl, by show 1 ≤ 1000000; omega⟩
  | k + 5, hq => simp [parts5] at hq

set_option maxHeartbeats 2000000 in
theorem rrput_no (p : Rc) (w : World) (h : ¬ MayBe p) : Calls Tryz.prog 38 #[(.agg #[.int .u64 (p.q : Int), .int .u64 (p.h : Int), .int .i64 p.x, .int .u64 (p.g : Int), .int .u8 (p.m.toNat : Int)])] w fun e w' => e = .returned (.tuple #[.slice none 0 0, .int .i64 1]) ∧ Below w.heap.size w w' := by
  have H := Lib.hid h
  clear h
  go_enter Tryz.func38, Tryz.ntmps38
  go_wp2_with fail
  refine (rmay_any p false _ ⟨fun h => (by cases h), fun h => absurd h H.out⟩).mono ?_; rintro e w1 ⟨rfl, b1⟩
  have B1 : Hid (Below w.heap.size w w1) := bthen (balloc _ _) b1
  clear b1
  go_wp2
  go_ret2
  exact ⟨rfl, B1.out⟩

set_option maxRecDepth 100000 in
set_option maxHeartbeats 8000000 in
theorem rrput_ok (p : Rc) (w : World) (h : MayBe p) : Calls Tryz.prog 38 #[(.agg #[.int .u64 (p.q : Int), .int .u64 (p.h : Int), .int .i64 p.x, .int .u64 (p.g : Int), .int .u8 (p.m.toNat : Int)])] w fun e w' => ∃ v, e = .returned (.tuple #[v, .int .i64 0]) ∧ Own w' 5 w.heap.size v (sect p) ∧ Below w.heap.size w w' := by
  have H := Lib.hid h
  obtain ⟨N, hN, hN2⟩ : ∃ N : Nat, p.x = (N : Int) ∧ N < 65536 := ⟨p.x.toNat, by have := h.2.2.1; omega, by have := h.2.2.1; omega⟩
  have HQ : Hid (p.q < 18446744073709551616) := by have := h.1; show _ < _; omega
  have HH : Hid (p.h < 18446744073709551616) := by have := h.2.1; show _ < _; omega
  have HG : Hid (p.g < 18446744073709551616) := by have := h.2.2.2.1.2; show _ < _; omega
  have HX : Hid (N < 18446744073709551616) := by show _ < _; omega
  have HT : Hid (p.x.toNat = N) := by show _ = _; omega
  have HN := Lib.hid hN
  have hwr : IntKind.u64.wrap (N : Int) = (N : Int) := wrap_in (by omega)
  clear h hN
  go_enter Tryz.func38, Tryz.ntmps38
  go_wp2_with fail
  refine (rmay_any p true _ ⟨fun _ => H.out, fun _ => rfl⟩).mono ?_; rintro e w1 ⟨rfl, b1⟩
  have X1 := Lib.hid (kept_below (heap_alloc_new w (.cells #[.int .u64 (p.q : Int), .int .u64 (p.h : Int), .int .i64 p.x, .int .u64 (p.g : Int), .int .u8 (p.m.toNat : Int)] 31)) b1)
  have B1 : Hid (Below w.heap.size w w1) := bthen (balloc _ _) b1
  clear b1
  obtain ⟨y0, hy0⟩ : ∃ y, y = w1.drew := ⟨_, rfl⟩
  have XS : Hid (y0.heap[w.heap.size]? = some (.cells #[.int .u64 (p.q : Int), .int .u64 (p.h : Int), .int .i64 p.x, .int .u64 (p.g : Int), .int .u8 (p.m.toNat : Int)] 31 (0, 0))) := by show _ = _; rw [hy0]; exact X1.out
  have BY : Hid (Below w.heap.size w y0) := by show Below _ _ _; rw [hy0]; exact ⟨B1.out.os, B1.out.tape, B1.out.output, B1.out.size, B1.out.block⟩
  go_wp2_with fail
  refine gate (fun x => x.heap[w.heap.size]? = some (.cells #[.int .u64 (p.q : Int), .int .u64 (p.h : Int), .int .i64 p.x, .int .u64 (p.g : Int), .int .u8 (p.m.toNat : Int)] 31 (0, 0))) 22 [0, 1, 3, 4, 6, 7, 8, 10, 11, 13, 14] 12 (by kernel_rfl) (by kernel_rfl) (by kernel_rfl) rfl ?_ X1.out ?_
  · intro d v c a w h
    cases d <;> exact h
  rw [← hy0]
  clear hy0 X1 B1
  refine yields_step ?_ rfl rfl ?_ ?_
  rotate_left
  · intro x hS; go_simp; rfl
  refine yields_step ?_ rfl rfl ?_ ?_
  rotate_left
  · intro x hS; obtain ⟨x0, x1, x2, x3, x4⟩ := rc_cells hS; go_simp; rfl
  refine yields_step ?_ rfl rfl ?_ ?_
  rotate_left
  · intro x hS; go_simp; rfl
  refine yields_step ?_ rfl rfl ?_ ?_
  rotate_left
  · intro x hS; obtain ⟨x0, x1, x2, x3, x4⟩ := rc_cells hS; go_simp; rfl
  refine yields_step ?_ rfl rfl ?_ ?_
  rotate_left
  · intro x hS; go_simp; rfl
  refine yields_step (.int .i64 (N : Int)) rfl rfl ?_ ?_
  · intro x hS; have x2 := (rc_cells hS).2.2.1; rw [HN.out] at x2; go_simp
  refine yields_step (.int .u64 (N : Int)) rfl rfl ?_ ?_
  · intro x hS; go_simp
  refine yields_step ?_ rfl rfl ?_ ?_
  rotate_left
  · intro x hS; go_simp; rfl
  refine yields_step ?_ rfl rfl ?_ ?_
  rotate_left
  · intro x hS; obtain ⟨x0, x1, x2, x3, x4⟩ := rc_cells hS; go_simp; rfl
  refine yields_step ?_ rfl rfl ?_ ?_
  rotate_left
  · intro x hS; go_simp; rfl
  refine yields_step ?_ rfl rfl ?_ ?_
  rotate_left
  · intro x hS; obtain ⟨x0, x1, x2, x3, x4⟩ := rc_cells hS; go_simp; rfl
  refine Gate.fork (i := 2) (j := 15) (by kernel_rfl) rfl rfl rfl rfl (fun K hK => ?_) (fun K hK => ?_)
  · go_simp
    refine (rnum8 p.q y0 HQ.out).mono ?_; rintro e y1 ⟨v1, rfl, o1, b⟩
    obtain ⟨A1, c1, rfl, l, s⟩ := o1.form (octs_length p.q 8)
    have O1 := Lib.hid (o1.more (B' := w.heap.size) BY.out.size)
    have XS := Lib.hid (kept_below XS.out b)
    have BY : Hid (Below w.heap.size w y1) := bthen BY.out b
    clear b o1 l s
    refine hK _ _ (fun _ => XS.out) ?_
    clear hK K
    refine Gate.fork (i := 5) (j := 15) (by kernel_rfl) rfl rfl rfl rfl (fun K hK => ?_) (fun K hK => ?_)
    · go_simp
      refine (rnum8 p.h y1 HH.out).mono ?_; rintro e y2 ⟨v2, rfl, o2, b⟩
      obtain ⟨A2, c2, rfl, l, s⟩ := o2.form (octs_length p.h 8)
      have O1 := Lib.hid (O1.out.below b)
      have O2 := Lib.hid (o2.more (B' := w.heap.size) BY.out.size)
      have XS := Lib.hid (kept_below XS.out b)
      have BY : Hid (Below w.heap.size w y2) := bthen BY.out b
      clear b o2 l s
      refine hK _ _ (fun _ => XS.out) ?_
      clear hK K
      refine Gate.fork (i := 9) (j := 15) (by kernel_rfl) rfl rfl rfl rfl (fun K hK => ?_) (fun K hK => ?_)
      · go_simp
        refine (rnum2 N y2 HX.out).mono ?_; rintro e y3 ⟨v3, rfl, o3, b⟩
        obtain ⟨A3, c3, rfl, l, s⟩ := o3.form (octs_length N 2)
        have O1 := Lib.hid (O1.out.below b)
        have O2 := Lib.hid (O2.out.below b)
        have O3 := Lib.hid (o3.more (B' := w.heap.size) BY.out.size)
        have XS := Lib.hid (kept_below XS.out b)
        have BY : Hid (Below w.heap.size w y3) := bthen BY.out b
        clear b o3 l s
        refine hK _ _ (fun _ => XS.out) ?_
        clear hK K
        refine Gate.fork (i := 12) (j := 15) (by kernel_rfl) rfl rfl rfl rfl (fun K hK => ?_) (fun K hK => ?_)
        · go_simp
          refine (rnum8 p.g y3 HG.out).mono ?_; rintro e y4 ⟨v4, rfl, o4, b⟩
          obtain ⟨A4, c4, rfl, l, s⟩ := o4.form (octs_length p.g 8)
          have O1 := Lib.hid (O1.out.below b)
          have O2 := Lib.hid (O2.out.below b)
          have O3 := Lib.hid (O3.out.below b)
          have O4 := Lib.hid (o4.more (B' := w.heap.size) BY.out.size)
          have XS := Lib.hid (kept_below XS.out b)
          have BY : Hid (Below w.heap.size w y4) := bthen BY.out b
          clear b o4 l s
          refine hK _ _ (fun _ => XS.out) ?_
          clear hK K
          refine Gate.next (i := 15) (by kernel_rfl) rfl rfl (fun K hK => ?_)
          go_simp
          refine hK _ _ (fun _ => kept_below XS.out (balloc _ _)) ?_
          clear hK K
          obtain ⟨y5, hy⟩ : ∃ y, y = y4.alloc (.cells #[.int .u8 (p.m.toNat : Int)] 5) := ⟨_, rfl⟩
          have b : Below y4.heap.size y4 y5 := by rw [hy]; exact balloc _ _
          have O1 := Lib.hid (O1.out.below b)
          have O2 := Lib.hid (O2.out.below b)
          have O3 := Lib.hid (O3.out.below b)
          have O4 := Lib.hid (O4.out.below b)
          have O5 : Hid (Own y5 5 w.heap.size (.slice (some ⟨y4.heap.size, 0, none⟩) 1 1) [p.m]) := by show Own _ _ _ _ _; rw [hy]; exact own_one y4 p.m BY.out.size
          have XS := Lib.hid (kept_below XS.out b)
          have BY : Hid (Below w.heap.size w y5) := bthen BY.out b
          rw [← hy]
          obtain ⟨A5, hA5⟩ : ∃ A : Option Addr, A = some ⟨y4.heap.size, 0, none⟩ := ⟨_, rfl⟩
          rw [← hA5] at O5 ⊢
          clear b hy hA5
          refine Gate.next (i := 16) (by kernel_rfl) rfl rfl (fun K hK => ?_)
          go_simp
          refine hK _ _ (fun _ => kept_below XS.out (balloc _ _)) ?_
          clear hK K
          have JN := Lib.hid (join5 HT.out O1.out O2.out O3.out O4.out O5.out 88)
          have XS := Lib.hid (kept_below XS.out (balloc y5 (.cells #[.slice A1 8 c1, .slice A2 8 c2, .slice A3 2 c3, .slice A4 8 c4, .slice A5 1 1] 88)))
          have BY : Hid (Below w.heap.size w (y5.alloc (.cells #[.slice A1 8 c1, .slice A2 8 c2, .slice A3 2 c3, .slice A4 8 c4, .slice A5 1 1] 88))) := bthen BY.out (balloc _ _)
          refine Gate.next (i := 17) (by kernel_rfl) rfl rfl (fun K hK => ?_)
          go_simp
          refine JN.out.mono ?_; rintro e z1 ⟨v6, rfl, o6, b⟩
          obtain ⟨A6, c6, rfl, l6, s6⟩ := o6.form (pay_length p)
          have S6 := Lib.hid s6
          have XS := Lib.hid (kept_below XS.out b)
          have BY : Hid (Below w.heap.size w z1) := bthen BY.out b
          clear b o6 l6 s6
          refine hK _ _ (fun _ => XS.out) ?_
          clear hK K JN
          refine Gate.next (i := 18) (by kernel_rfl) rfl rfl (fun K hK => ?_)
          go_simp
          refine (rput_any A6 27 c6 (pay p) 2 z1 (by omega) S6.out).mono ?_; rintro e z2 ⟨v7, rfl, o7, b⟩
          rw [putE_pay]
          rw [putL_pay] at o7
          have O7 := Lib.hid (o7.more BY.out.size)
          have XS := Lib.hid (kept_below XS.out b)
          have BY : Hid (Below w.heap.size w z2) := bthen BY.out b
          clear b o7
          refine hK _ _ (fun _ => XS.out) ?_
          clear hK K
          refine Gate.fork (i := 19) (j := 20) (by kernel_rfl) rfl rfl rfl rfl (fun K hK => ?_) (fun K hK => ?_)
          · go_simp
            refine hK _ _ (fun _ => XS.out) ?_
            clear hK K
            refine Gate.next (i := 20) (by kernel_rfl) rfl rfl (fun K hK => ?_)
            go_simp
            refine hK _ _ (fun _ => XS.out) ?_
            clear hK K
            refine Gate.next (i := 21) (by kernel_rfl) rfl rfl (fun K hK => ?_)
            go_simp
            refine hK _ _ (fun _ => XS.out) ?_
            clear hK K
            refine Gate.next (i := 22) (by kernel_rfl) rfl rfl (fun K hK => ?_)
            go_simp
            refine hK _ _ (fun h => absurd rfl h) ?_
            clear hK K
            refine Gate.done (by kernel_rfl) ?_
            go_wp2
            go_ret2
            exact ⟨v7, rfl, O7.out, BY.out⟩
          · go_simp
            refine hK _ _ (fun _ => XS.out) ?_
            clear hK K
            refine Gate.next (i := 19) (by kernel_rfl) rfl rfl (fun K hK => ?_)
            go_simp
            refine hK _ _ (fun _ => XS.out) ?_
            clear hK K
            refine Gate.next (i := 21) (by kernel_rfl) rfl rfl (fun K hK => ?_)
            go_simp
            refine hK _ _ (fun _ => XS.out) ?_
            clear hK K
            refine Gate.next (i := 22) (by kernel_rfl) rfl rfl (fun K hK => ?_)
            go_simp
            refine hK _ _ (fun h => absurd rfl h) ?_
            clear hK K
            refine Gate.done (by kernel_rfl) ?_
            go_wp2
            go_ret2
            exact ⟨v7, rfl, O7.out, BY.out⟩
        · go_simp
          refine hK _ _ (fun _ => kept_below XS.out (balloc _ _)) ?_
          clear hK K
          obtain ⟨y4, hy⟩ : ∃ y, y = y3.alloc (.cells #[.int .u8 (p.m.toNat : Int)] 5) := ⟨_, rfl⟩
          have b : Below y3.heap.size y3 y4 := by rw [hy]; exact balloc _ _
          have O1 := Lib.hid (O1.out.below b)
          have O2 := Lib.hid (O2.out.below b)
          have O3 := Lib.hid (O3.out.below b)
          have O5 : Hid (Own y4 5 w.heap.size (.slice (some ⟨y3.heap.size, 0, none⟩) 1 1) [p.m]) := by show Own _ _ _ _ _; rw [hy]; exact own_one y3 p.m BY.out.size
          have XS := Lib.hid (kept_below XS.out b)
          have BY : Hid (Below w.heap.size w y4) := bthen BY.out b
          rw [← hy]
          obtain ⟨A5, hA5⟩ : ∃ A : Option Addr, A = some ⟨y3.heap.size, 0, none⟩ := ⟨_, rfl⟩
          rw [← hA5] at O5 ⊢
          clear b hy hA5
          refine Gate.next (i := 12) (by kernel_rfl) rfl rfl (fun K hK => ?_)
          go_simp
          refine (rnum8 p.g y4 HG.out).mono ?_; rintro e y5 ⟨v4, rfl, o4, b⟩
          obtain ⟨A4, c4, rfl, l, s⟩ := o4.form (octs_length p.g 8)
          have O1 := Lib.hid (O1.out.below b)
          have O2 := Lib.hid (O2.out.below b)
          have O3 := Lib.hid (O3.out.below b)
          have O5 := Lib.hid (O5.out.below b)
          have O4 := Lib.hid (o4.more (B' := w.heap.size) BY.out.size)
          have XS := Lib.hid (kept_below XS.out b)
          have BY : Hid (Below w.heap.size w y5) := bthen BY.out b
          clear b o4 l s
          refine hK _ _ (fun _ => XS.out) ?_
          clear hK K
          refine Gate.next (i := 16) (by kernel_rfl) rfl rfl (fun K hK => ?_)
          go_simp
          refine hK _ _ (fun _ => kept_below XS.out (balloc _ _)) ?_
          clear hK K
          have JN := Lib.hid (join5 HT.out O1.out O2.out O3.out O4.out O5.out 88)
          have XS := Lib.hid (kept_below XS.out (balloc y5 (.cells #[.slice A1 8 c1, .slice A2 8 c2, .slice A3 2 c3, .slice A4 8 c4, .slice A5 1 1] 88)))
          have BY : Hid (Below w.heap.size w (y5.alloc (.cells #[.slice A1 8 c1, .slice A2 8 c2, .slice A3 2 c3, .slice A4 8 c4, .slice A5 1 1] 88))) := bthen BY.out (balloc _ _)
          refine Gate.next (i := 17) (by kernel_rfl) rfl rfl (fun K hK => ?_)
          go_simp
          refine JN.out.mono ?_; rintro e z1 ⟨v6, rfl, o6, b⟩
          obtain ⟨A6, c6, rfl, l6, s6⟩ := o6.form (pay_length p)
          have S6 := Lib.hid s6
          have XS := Lib.hid (kept_below XS.out b)
          have BY : Hid (Below w.heap.size w z1) := bthen BY.out b
          clear b o6 l6 s6
          refine hK _ _ (fun _ => XS.out) ?_
          clear hK K JN
          refine Gate.next (i := 18) (by kernel_rfl) rfl rfl (fun K hK => ?_)
          go_simp
          refine (rput_any A6 27 c6 (pay p) 2 z1 (by omega) S6.out).mono ?_; rintro e z2 ⟨v7, rfl, o7, b⟩
          rw [putE_pay]
          rw [putL_pay] at o7
          have O7 := Lib.hid (o7.more BY.out.size)
          have XS := Lib.hid (kept_below XS.out b)
          have BY : Hid (Below w.heap.size w z2) := bthen BY.out b
          clear b o7
          refine hK _ _ (fun _ => XS.out) ?_
          clear hK K
          refine Gate.fork (i := 19) (j := 20) (by kernel_rfl) rfl rfl rfl rfl (fun K hK => ?_) (fun K hK => ?_)
          · go_simp
            refine hK _ _ (fun _ => XS.out) ?_
            clear hK K
            refine Gate.next (i := 20) (by kernel_rfl) rfl rfl (fun K hK => ?_)
            go_simp
            refine hK _ _ (fun _ => XS.out) ?_
            clear hK K
            refine Gate.next (i := 21) (by kernel_rfl) rfl rfl (fun K hK => ?_)
            go_simp
            refine hK _ _ (fun _ => XS.out) ?_
            clear hK K
            refine Gate.next (i := 22) (by kernel_rfl) rfl rfl (fun K hK => ?_)
            go_simp
            refine hK _ _ (fun h => absurd rfl h) ?_
            clear hK K
            refine Gate.done (by kernel_rfl) ?_
            go_wp2
            go_ret2
            exact ⟨v7, rfl, O7.out, BY.out⟩
          · go_simp
            refine hK _ _ (fun _ => XS.out) ?_
            clear hK K
            refine Gate.next (i := 19) (by kernel_rfl) rfl rfl (fun K hK => ?_)
            go_simp
            refine hK _ _ (fun _ => XS.out) ?_
            clear hK K
            refine Gate.next (i := 21) (by kernel_rfl) rfl rfl (fun K hK => ?_)
            go_simp
            refine hK _ _ (fun _ => XS.out) ?_
            clear hK K
            refine Gate.next (i := 22) (by kernel_rfl) rfl rfl (fun K hK => ?_)
            go_simp
            refine hK _ _ (fun h => absurd rfl h) ?_
            clear hK K
            refine Gate.done (by kernel_rfl) ?_
            go_wp2
            go_ret2
            exact ⟨v7, rfl, O7.out, BY.out⟩
      · go_simp
        refine hK _ _ (fun _ => kept_below XS.out (balloc _ _)) ?_
        clear hK K
        obtain ⟨y3, hy⟩ : ∃ y, y = y2.alloc (.cells #[.int .u8 (p.m.toNat : Int)] 5) := ⟨_, rfl⟩
        have b : Below y2.heap.size y2 y3 := by rw [hy]; exact balloc _ _
        have O1 := Lib.hid (O1.out.below b)
        have O2 := Lib.hid (O2.out.below b)
        have O5 : Hid (Own y3 5 w.heap.size (.slice (some ⟨y2.heap.size, 0, none⟩) 1 1) [p.m]) := by show Own _ _ _ _ _; rw [hy]; exact own_one y2 p.m BY.out.size
        have XS := Lib.hid (kept_below XS.out b)
        have BY : Hid (Below w.heap.size w y3) := bthen BY.out b
        rw [← hy]
        obtain ⟨A5, hA5⟩ : ∃ A : Option Addr, A = some ⟨y2.heap.size, 0, none⟩ := ⟨_, rfl⟩
        rw [← hA5] at O5 ⊢
        clear b hy hA5
        refine Gate.next (i := 9) (by kernel_rfl) rfl rfl (fun K hK => ?_)
        go_simp
        refine (rnum2 N y3 HX.out).mono ?_; rintro e y4 ⟨v3, rfl, o3, b⟩
        obtain ⟨A3, c3, rfl, l, s⟩ := o3.form (octs_length N 2)
        have O1 := Lib.hid (O1.out.below b)
        have O2 := Lib.hid (O2.out.below b)
        have O5 := Lib.hid (O5.out.below b)
        have O3 := Lib.hid (o3.more (B' := w.heap.size) BY.out.size)
        have XS := Lib.hid (kept_below XS.out b)
        have BY : Hid (Below w.heap.size w y4) := bthen BY.out b
        clear b o3 l s
        refine hK _ _ (fun _ => XS.out) ?_
        clear hK K
        refine Gate.next (i := 12) (by kernel_rfl) rfl rfl (fun K hK => ?_)
        go_simp
        refine (rnum8 p.g y4 HG.out).mono ?_; rintro e y5 ⟨v4, rfl, o4, b⟩
        obtain ⟨A4, c4, rfl, l, s⟩ := o4.form (octs_length p.g 8)
        have O1 := Lib.hid (O1.out.below b)
        have O2 := Lib.hid (O2.out.below b)
        have O5 := Lib.hid (O5.out.below b)
        have O3 := Lib.hid (O3.out.below b)
        have O4 := Lib.hid (o4.more (B' := w.heap.size) BY.out.size)
        have XS := Lib.hid (kept_below XS.out b)
        have BY : Hid (Below w.heap.size w y5) := bthen BY.out b
        clear b o4 l s
        refine hK _ _ (fun _ => XS.out) ?_
        clear hK K
        refine Gate.next (i := 16) (by kernel_rfl) rfl rfl (fun K hK => ?_)
        go_simp
        refine hK _ _ (fun _ => kept_below XS.out (balloc _ _)) ?_
        clear hK K
        have JN := Lib.hid (join5 HT.out O1.out O2.out O3.out O4.out O5.out 88)
        have XS := Lib.hid (kept_below XS.out (balloc y5 (.cells #[.slice A1 8 c1, .slice A2 8 c2, .slice A3 2 c3, .slice A4 8 c4, .slice A5 1 1] 88)))
        have BY : Hid (Below w.heap.size w (y5.alloc (.cells #[.slice A1 8 c1, .slice A2 8 c2, .slice A3 2 c3, .slice A4 8 c4, .slice A5 1 1] 88))) := bthen BY.out (balloc _ _)
        refine Gate.next (i := 17) (by kernel_rfl) rfl rfl (fun K hK => ?_)
        go_simp
        refine JN.out.mono ?_; rintro e z1 ⟨v6, rfl, o6, b⟩
        obtain ⟨A6, c6, rfl, l6, s6⟩ := o6.form (pay_length p)
        have S6 := Lib.hid s6
        have XS := Lib.hid (kept_below XS.out b)
        have BY : Hid (Below w.heap.size w z1) := bthen BY.out b
        clear b o6 l6 s6
        refine hK _ _ (fun _ => XS.out) ?_
        clear hK K JN
        refine Gate.next (i := 18) (by kernel_rfl) rfl rfl (fun K hK => ?_)
        go_simp
        refine (rput_any A6 27 c6 (pay p) 2 z1 (by omega) S6.out).mono ?_; rintro e z2 ⟨v7, rfl, o7, b⟩
        rw [putE_pay]
        rw [putL_pay] at o7
        have O7 := Lib.hid (o7.more BY.out.size)
        have XS := Lib.hid (kept_below XS.out b)
        have BY : Hid (Below w.heap.size w z2) := bthen BY.out b
        clear b o7
        refine hK _ _ (fun _ => XS.out) ?_
        clear hK K
        refine Gate.fork (i := 19) (j := 20) (by kernel_rfl) rfl rfl rfl rfl (fun K hK => ?_) (fun K hK => ?_)
        · go_simp
          refine hK _ _ (fun _ => XS.out) ?_
          clear hK K
          refine Gate.next (i := 20) (by kernel_rfl) rfl rfl (fun K hK => ?_)
          go_simp
          refine hK _ _ (fun _ => XS.out) ?_
          clear hK K
          refine Gate.next (i := 21) (by kernel_rfl) rfl rfl (fun K hK => ?_)
          go_simp
          refine hK _ _ (fun _ => XS.out) ?_
          clear hK K
          refine Gate.next (i := 22) (by kernel_rfl) rfl rfl (fun K hK => ?_)
          go_simp
          refine hK _ _ (fun h => absurd rfl h) ?_
          clear hK K
          refine Gate.done (by kernel_rfl) ?_
          go_wp2
          go_ret2
          exact ⟨v7, rfl, O7.out, BY.out⟩
        · go_simp
          refine hK _ _ (fun _ => XS.out) ?_
          clear hK K
          refine Gate.next (i := 19) (by kernel_rfl) rfl rfl (fun K hK => ?_)
          go_simp
          refine hK _ _ (fun _ => XS.out) ?_
          clear hK K
          refine Gate.next (i := 21) (by kernel_rfl) rfl rfl (fun K hK => ?_)
          go_simp
          refine hK _ _ (fun _ => XS.out) ?_
          clear hK K
          refine Gate.next (i := 22) (by kernel_rfl) rfl rfl (fun K hK => ?_)
          go_simp
          refine hK _ _ (fun h => absurd rfl h) ?_
          clear hK K
          refine Gate.done (by kernel_rfl) ?_
          go_wp2
          go_ret2
          exact ⟨v7, rfl, O7.out, BY.out⟩
    · go_simp
      refine hK _ _ (fun _ => kept_below XS.out (balloc _ _)) ?_
      clear hK K
      obtain ⟨y2, hy⟩ : ∃ y, y = y1.alloc (.cells #[.int .u8 (p.m.toNat : Int)] 5) := ⟨_, rfl⟩
      have b : Below y1.heap.size y1 y2 := by rw [hy]; exact balloc _ _
      have O1 := Lib.hid (O1.out.below b)
      have O5 : Hid (Own y2 5 w.heap.size (.slice (some ⟨y1.heap.size, 0, none⟩) 1 1) [p.m]) := by show Own _ _ _ _ _; rw [hy]; exact own_one y1 p.m BY.out.size
      have XS := Lib.hid (kept_below XS.out b)
      have BY : Hid (Below w.heap.size w y2) := bthen BY.out b
      rw [← hy]
      obtain ⟨A5, hA5⟩ : ∃ A : Option Addr, A = some ⟨y1.heap.size, 0, none⟩ := ⟨_, rfl⟩
      rw [← hA5] at O5 ⊢
      clear b hy hA5
      refine Gate.next (i := 5) (by kernel_rfl) rfl rfl (fun K hK => ?_)
      go_simp
      refine (rnum8 p.h y2 HH.out).mono ?_; rintro e y3 ⟨v2, rfl, o2, b⟩
      obtain ⟨A2, c2, rfl, l, s⟩ := o2.form (octs_length p.h 8)
      have O1 := Lib.hid (O1.out.below b)
      have O5 := Lib.hid (O5.out.below b)
      have O2 := Lib.hid (o2.more (B' := w.heap.size) BY.out.size)
      have XS := Lib.hid (kept_below XS.out b)
      have BY : Hid (Below w.heap.size w y3) := bthen BY.out b
      clear b o2 l s
      refine hK _ _ (fun _ => XS.out) ?_
      clear hK K
      refine Gate.next (i := 9) (by kernel_rfl) rfl rfl (fun K hK => ?_)
      go_simp
      refine (rnum2 N y3 HX.out).mono ?_; rintro e y4 ⟨v3, rfl, o3, b⟩
      obtain ⟨A3, c3, rfl, l, s⟩ := o3.form (octs_length N 2)
      have O1 := Lib.hid (O1.out.below b)
      have O5 := Lib.hid (O5.out.below b)
      have O2 := Lib.hid (O2.out.below b)
      have O3 := Lib.hid (o3.more (B' := w.heap.size) BY.out.size)
      have XS := Lib.hid (kept_below XS.out b)
      have BY : Hid (Below w.heap.size w y4) := bthen BY.out b
      clear b o3 l s
      refine hK _ _ (fun _ => XS.out) ?_
      clear hK K
      refine Gate.next (i := 12) (by kernel_rfl) rfl rfl (fun K hK => ?_)
      go_simp
      refine (rnum8 p.g y4 HG.out).mono ?_; rintro e y5 ⟨v4, rfl, o4, b⟩
      obtain ⟨A4, c4, rfl, l, s⟩ := o4.form (octs_length p.g 8)
      have O1 := Lib.hid (O1.out.below b)
      have O5 := Lib.hid (O5.out.below b)
      have O2 := Lib.hid (O2.out.below b)
      have O3 := Lib.hid (O3.out.below b)
      have O4 := Lib.hid (o4.more (B' := w.heap.size) BY.out.size)
      have XS := Lib.hid (kept_below XS.out b)
      have BY : Hid (Below w.heap.size w y5) := bthen BY.out b
      clear b o4 l s
      refine hK _ _ (fun _ => XS.out) ?_
      clear hK K
      refine Gate.next (i := 16) (by kernel_rfl) rfl rfl (fun K hK => ?_)
      go_simp
      refine hK _ _ (fun _ => kept_below XS.out (balloc _ _)) ?_
      clear hK K
      have JN := Lib.hid (join5 HT.out O1.out O2.out O3.out O4.out O5.out 88)
      have XS := Lib.hid (kept_below XS.out (balloc y5 (.cells #[.slice A1 8 c1, .slice A2 8 c2, .slice A3 2 c3, .slice A4 8 c4, .slice A5 1 1] 88)))
      have BY : Hid (Below w.heap.size w (y5.alloc (.cells #[.slice A1 8 c1, .slice A2 8 c2, .slice A3 2 c3, .slice A4 8 c4, .slice A5 1 1] 88))) := bthen BY.out (balloc _ _)
      refine Gate.next (i := 17) (by kernel_rfl) rfl rfl (fun K hK => ?_)
      go_simp
      refine JN.out.mono ?_; rintro e z1 ⟨v6, rfl, o6, b⟩
      obtain ⟨A6, c6, rfl, l6, s6⟩ := o6.form (pay_length p)
      have S6 := Lib.hid s6
      have XS := Lib.hid (kept_below XS.out b)
      have BY : Hid (Below w.heap.size w z1) := bthen BY.out b
      clear b o6 l6 s6
      refine hK _ _ (fun _ => XS.out) ?_
      clear hK K JN
      refine Gate.next (i := 18) (by kernel_rfl) rfl rfl (fun K hK => ?_)
      go_simp
      refine (rput_any A6 27 c6 (pay p) 2 z1 (by omega) S6.out).mono ?_; rintro e z2 ⟨v7, rfl, o7, b⟩
      rw [putE_pay]
      rw [putL_pay] at o7
      have O7 := Lib.hid (o7.more BY.out.size)
      have XS := Lib.hid (kept_below XS.out b)
      have BY : Hid (Below w.heap.size w z2) := bthen BY.out b
      clear b o7
      refine hK _ _ (fun _ => XS.out) ?_
      clear hK K
      refine Gate.fork (i := 19) (j := 20) (by kernel_rfl) rfl rfl rfl rfl (fun K hK => ?_) (fun K hK => ?_)
      · go_simp
        refine hK _ _ (fun _ => XS.out) ?_
        clear hK K
        refine Gate.next (i := 20) (by kernel_rfl) rfl rfl (fun K hK => ?_)
        go_simp
        refine hK _ _ (fun _ => XS.out) ?_
        clear hK K
        refine Gate.next (i := 21) (by kernel_rfl) rfl rfl (fun K hK => ?_)
        go_simp
        refine hK _ _ (fun _ => XS.out) ?_
        clear hK K
        refine Gate.next (i := 22) (by kernel_rfl) rfl rfl (fun K hK => ?_)
        go_simp
        refine hK _ _ (fun h => absurd rfl h) ?_
        clear hK K
        refine Gate.done (by kernel_rfl) ?_
        go_wp2
        go_ret2
        exact ⟨v7, rfl, O7.out, BY.out⟩
      · go_simp
        refine hK _ _ (fun _ => XS.out) ?_
        clear hK K
        refine Gate.next (i := 19) (by kernel_rfl) rfl rfl (fun K hK => ?_)
        go_simp
        refine hK _ _ (fun _ => XS.out) ?_
        clear hK K
        refine Gate.next (i := 21) (by kernel_rfl) rfl rfl (fun K hK => ?_)
        go_simp
        refine hK _ _ (fun _ => XS.out) ?_
        clear hK K
        refine Gate.next (i := 22) (by kernel_rfl) rfl rfl (fun K hK => ?_)
        go_simp
        refine hK _ _ (fun h => absurd rfl h) ?_
        clear hK K
        refine Gate.done (by kernel_rfl) ?_
        go_wp2
        go_ret2
        exact ⟨v7, rfl, O7.out, BY.out⟩
  · go_simp
    refine hK _ _ (fun _ => kept_below XS.out (balloc _ _)) ?_
    clear hK K
    obtain ⟨y1, hy⟩ : ∃ y, y = y0.alloc (.cells #[.int .u8 (p.m.toNat : Int)] 5) := ⟨_, rfl⟩
    have b : Below y0.heap.size y0 y1 := by rw [hy]; exact balloc _ _
    have O5 : Hid (Own y1 5 w.heap.size (.slice (some ⟨y0.heap.size, 0, none⟩) 1 1) [p.m]) := by show Own _ _ _ _ _; rw [hy]; exact own_one y0 p.m BY.out.size
    have XS := Lib.hid (kept_below XS.out b)
    have BY : Hid (Below w.heap.size w y1) := bthen BY.out b
    rw [← hy]
    obtain ⟨A5, hA5⟩ : ∃ A : Option Addr, A = some ⟨y0.heap.size, 0, none⟩ := ⟨_, rfl⟩
    rw [← hA5] at O5 ⊢
    clear b hy hA5
    refine Gate.next (i := 2) (by kernel_rfl) rfl rfl (fun K hK => ?_)
    go_simp
    refine (rnum8 p.q y1 HQ.out).mono ?_; rintro e y2 ⟨v1, rfl, o1, b⟩
    obtain ⟨A1, c1, rfl, l, s⟩ := o1.form (octs_length p.q 8)
    have O5 := Lib.hid (O5.out.below b)
    have O1 := Lib.hid (o1.more (B' := w.heap.size) BY.out.size)
    have XS := Lib.hid (kept_below XS.out b)
    have BY : Hid (Below w.heap.size w y2) := bthen BY.out b
    clear b o1 l s
    refine hK _ _ (fun _ => XS.out) ?_
    clear hK K
    refine Gate.next (i := 5) (by kernel_rfl) rfl rfl (fun K hK => ?_)
    go_simp
    refine (rnum8 p.h y2 HH.out).mono ?_; rintro e y3 ⟨v2, rfl, o2, b⟩
    obtain ⟨A2, c2, rfl, l, s⟩ := o2.form (octs_length p.h 8)
    have O5 := Lib.hid (O5.out.below b)
    have O1 := Lib.hid (O1.out.below b)
    have O2 := Lib.hid (o2.more (B' := w.heap.size) BY.out.size)
    have XS := Lib.hid (kept_below XS.out b)
    have BY : Hid (Below w.heap.size w y3) := bthen BY.out b
    clear b o2 l s
    refine hK _ _ (fun _ => XS.out) ?_
    clear hK K
    refine Gate.next (i := 9) (by kernel_rfl) rfl rfl (fun K hK => ?_)
    go_simp
    refine (rnum2 N y3 HX.out).mono ?_; rintro e y4 ⟨v3, rfl, o3, b⟩
    obtain ⟨A3, c3, rfl, l, s⟩ := o3.form (octs_length N 2)
    have O5 := Lib.hid (O5.out.below b)
    have O1 := Lib.hid (O1.out.below b)
    have O2 := Lib.hid (O2.out.below b)
    have O3 := Lib.hid (o3.more (B' := w.heap.size) BY.out.size)
    have XS := Lib.hid (kept_below XS.out b)
    have BY : Hid (Below w.heap.size w y4) := bthen BY.out b
    clear b o3 l s
    refine hK _ _ (fun _ => XS.out) ?_
    clear hK K
    refine Gate.next (i := 12) (by kernel_rfl) rfl rfl (fun K hK => ?_)
    go_simp
    refine (rnum8 p.g y4 HG.out).mono ?_; rintro e y5 ⟨v4, rfl, o4, b⟩
    obtain ⟨A4, c4, rfl, l, s⟩ := o4.form (octs_length p.g 8)
    have O5 := Lib.hid (O5.out.below b)
    have O1 := Lib.hid (O1.out.below b)
    have O2 := Lib.hid (O2.out.below b)
    have O3 := Lib.hid (O3.out.below b)
    have O4 := Lib.hid (o4.more (B' := w.heap.size) BY.out.size)
    have XS := Lib.hid (kept_below XS.out b)
    have BY : Hid (Below w.heap.size w y5) := bthen BY.out b
    clear b o4 l s
    refine hK _ _ (fun _ => XS.out) ?_
    clear hK K
    refine Gate.next (i := 16) (by kernel_rfl) rfl rfl (fun K hK => ?_)
    go_simp
    refine hK _ _ (fun _ => kept_below XS.out (balloc _ _)) ?_
    clear hK K
    have JN := Lib.hid (join5 HT.out O1.out O2.out O3.out O4.out O5.out 88)
    have XS := Lib.hid (kept_below XS.out (balloc y5 (.cells #[.slice A1 8 c1, .slice A2 8 c2, .slice A3 2 c3, .slice A4 8 c4, .slice A5 1 1] 88)))
    have BY : Hid (Below w.heap.size w (y5.alloc (.cells #[.slice A1 8 c1, .slice A2 8 c2, .slice A3 2 c3, .slice A4 8 c4, .slice A5 1 1] 88))) := bthen BY.out (balloc _ _)
    refine Gate.next (i := 17) (by kernel_rfl) rfl rfl (fun K hK => ?_)
    go_simp
    refine JN.out.mono ?_; rintro e z1 ⟨v6, rfl, o6, b⟩
    obtain ⟨A6, c6, rfl, l6, s6⟩ := o6.form (pay_length p)
    have S6 := Lib.hid s6
    have XS := Lib.hid (kept_below XS.out b)
    have BY : Hid (Below w.heap.size w z1) := bthen BY.out b
    clear b o6 l6 s6
    refine hK _ _ (fun _ => XS.out) ?_
    clear hK K JN
    refine Gate.next (i := 18) (by kernel_rfl) rfl rfl (fun K hK => ?_)
    go_simp
    refine (rput_any A6 27 c6 (pay p) 2 z1 (by omega) S6.out).mono ?_; rintro e z2 ⟨v7, rfl, o7, b⟩
    rw [putE_pay]
    rw [putL_pay] at o7
    have O7 := Lib.hid (o7.more BY.out.size)
    have XS := Lib.hid (kept_below XS.out b)
    have BY : Hid (Below w.heap.size w z2) := bthen BY.out b
    clear b o7
    refine hK _ _ (fun _ => XS.out) ?_
    clear hK K
    refine Gate.fork (i := 19) (j := 20) (by kernel_rfl) rfl rfl rfl rfl (fun K hK => ?_) (fun K hK => ?_)
    · go_simp
      refine hK _ _ (fun _ => XS.out) ?_
      clear hK K
      refine Gate.next (i := 20) (by kernel_rfl) rfl rfl (fun K hK => ?_)
      go_simp
      refine hK _ _ (fun _ => XS.out) ?_
      clear hK K
      refine Gate.next (i := 21) (by kernel_rfl) rfl rfl (fun K hK => ?_)
      go_simp
      refine hK _ _ (fun _ => XS.out) ?_
      clear hK K
      refine Gate.next (i := 22) (by kernel_rfl) rfl rfl (fun K hK => ?_)
      go_simp
      refine hK _ _ (fun h => absurd rfl h) ?_
      clear hK K
      refine Gate.done (by kernel_rfl) ?_
      go_wp2
      go_ret2
      exact ⟨v7, rfl, O7.out, BY.out⟩
    · go_simp
      refine hK _ _ (fun _ => XS.out) ?_
      clear hK K
      refine Gate.next (i := 19) (by kernel_rfl) rfl rfl (fun K hK => ?_)
      go_simp
      refine hK _ _ (fun _ => XS.out) ?_
      clear hK K
      refine Gate.next (i := 21) (by kernel_rfl) rfl rfl (fun K hK => ?_)
      go_simp
      refine hK _ _ (fun _ => XS.out) ?_
      clear hK K
      refine Gate.next (i := 22) (by kernel_rfl) rfl rfl (fun K hK => ?_)
      go_simp
      refine hK _ _ (fun h => absurd rfl h) ?_
      clear hK K
      refine Gate.done (by kernel_rfl) ?_
      go_wp2
      go_ret2
      exact ⟨v7, rfl, O7.out, BY.out⟩
theorem rrput_any (p : Rc) (w : World) : Calls Tryz.prog 38 #[(.agg #[.int .u64 (p.q : Int), .int .u64 (p.h : Int), .int .i64 p.x, .int .u64 (p.g : Int), .int .u8 (p.m.toNat : Int)])] w (RPut w p) := by
  by_cases h : MayBe p
  · exact (rrput_ok p w h).mono fun e w' h2 => .inl ⟨h, h2⟩
  · exact (rrput_no p w h).mono fun e w' h2 => .inr ⟨h, h2⟩
end Go.Proofs.YtikbbikcacoobaaGreatDoor.W

/-! The contract of the reference's Get. No conditions. -/
namespace Go.Proofs.YtikbbikcacoobaaGreatDoor.W
set_option maxRecDepth 100000
open Go.RowKit Oc Gt
set_option linter.unusedVariables false

theorem rof2 (A : Option Addr) (c : Nat) (xs : List UInt8) (w : World) (ho : Oct w A 2 xs) (u : Nat) (hu : num xs = u) : Calls Tryz.prog 125 #[.slice A 2 c] w fun e w' => e = .returned (.int .u64 (u : Int)) ∧ w = w' := of_any A 2 c xs w (by omega) ho u hu
theorem rof8 (A : Option Addr) (c : Nat) (xs : List UInt8) (w : World) (ho : Oct w A 8 xs) (u : Nat) (hu : num xs = u) : Calls Tryz.prog 125 #[.slice A 8 c] w fun e w' => e = .returned (.int .u64 (u : Int)) ∧ w = w' := of_any A 8 c xs w (by omega) ho u hu
theorem below_drewN {B : Nat} {a w : World} (h : Below B a w) (n : Nat) : Below B a (w.drewN n) := ⟨h.os, h.tape, h.output, h.size, h.block⟩
theorem oct_sub {w : World} {b off n : Nat} {xs : List UInt8} (h : Oct w (some ⟨b, off, none⟩) n xs) {i k o : Nat} (hk : i + k ≤ n) (ho : o = off + i) : Oct w (some ⟨b, o, none⟩) k ((xs.drop i).take k) := by
  subst ho
  have h2 := h.sub (i := i) (k := k) hk
  rw [show Option.map (fun x => x.add i) (some (⟨b, off, none⟩ : Addr)) = some ⟨b, off + i, none⟩ by simp [Go.WideShapes.add_plain]] at h2
  exact h2
theorem wrap_le {x : Nat} (h : x ≤ 1000000000) : IntKind.i64.wrap (x : Int) = (x : Int) := by
  unfold IntKind.wrap
  simp [IntKind.signed, IntKind.bits]
  omega
theorem rc_new2 {w w1 : World} {k : Nat} {cs : Array Value} {T : TypeId} (h : w1 = (w.alloc (.cells cs T)).drewN k) : w1.heap[w.heap.size]? = some (.cells cs T (0, 0)) := by rw [h]; exact heap_alloc_new w _
theorem bstr_eq (xs ys : List UInt8) (p : Bool) (hp : decide (xs = ys) = p) : ((bstr xs).toList == (bstr ys).toList) = p := by
  rw [ByteArray.toList_eq, ByteArray.toList_eq]
  show (xs == ys) = p
  rw [← hp]
  by_cases h : xs = ys <;> simp [h]

set_option maxRecDepth 100000 in
set_option maxHeartbeats 8000000 in
theorem rrget_dec (A : Option Addr) (n c : Nat) (ys : List UInt8) (d p : Rc) (E : Int) (w : World) (hn : n ≤ 1000000) (hc : n ≤ c) (ho : Oct w A n ys) (h1 : getE ys 2 = 0) (hd : d = dec (getL ys 2))
    (hx : (MayBe d ∧ sect d = ys ∧ p = d ∧ E = 0) ∨ (MayBe d ∧ ¬ sect d = ys ∧ p = zr ∧ E = 31) ∨ (¬ MayBe d ∧ p = zr ∧ E = 31)) :
    Calls Tryz.prog 111 #[.slice A n c] w fun e w' => e = .returned (.tuple #[(.agg #[.int .u64 (p.q : Int), .int .u64 (p.h : Int), .int .i64 p.x, .int .u64 (p.g : Int), .int .u8 (p.m.toNat : Int)]), .int .i64 E]) ∧ Below w.heap.size w w' := by
  have HO := Lib.hid ho
  have H1 := Lib.hid h1
  obtain ⟨ps, hps⟩ : ∃ ps, getL ys 2 = ps := ⟨_, rfl⟩
  have hpl : ps.length = 58 := by rw [← hps]; exact get58 h1
  rw [hps] at hd
  obtain ⟨N0, e0⟩ : ∃ N, num (ps.take 8) = N := ⟨_, rfl⟩
  obtain ⟨N1, e1⟩ : ∃ N, num ((ps.drop 8).take 8) = N := ⟨_, rfl⟩
  obtain ⟨N2, e2⟩ : ∃ N, num ((ps.drop 16).take 2) = N := ⟨_, rfl⟩
  obtain ⟨N3, e3⟩ : ∃ N, num ((ps.drop 18).take 8) = N := ⟨_, rfl⟩
  have hN2 : N2 < 65536 := by
    have h := num_lt_of (xs := (ps.drop 16).take 2) (k := 2) (by simp [hpl])
    omega
  obtain ⟨m, hm⟩ : ∃ m, ps[26]? = some m := ⟨_, List.getElem?_eq_getElem (by omega)⟩
  have e4 : UInt8.ofNat (num ((ps.drop 26).take 1)) = m := by
    obtain ⟨hk, hx⟩ := List.getElem?_eq_some_iff.1 hm
    rw [List.drop_eq_getElem_cons hk, hx]
    simp [num]
  have hdv : ((.agg #[.int .u64 (d.q : Int), .int .u64 (d.h : Int), .int .i64 d.x, .int .u64 (d.g : Int), .int .u8 (d.m.toNat : Int)]) : Value) = .agg #[.int .u64 (N0 : Int), .int .u64 (N1 : Int), .int .i64 (N2 : Int), .int .u64 (N3 : Int), .int .u8 (m.toNat : Int)] := by
    rw [hd]; unfold dec; dsimp only; rw [e0, e1, e2, e3, e4]
  have HDV := Lib.hid hdv
  have HPS := Lib.hid hps
  have HPL := Lib.hid hpl
  have E0 := Lib.hid e0
  have E1 := Lib.hid e1
  have E2 := Lib.hid e2
  have E3 := Lib.hid e3
  have HM := Lib.hid hm
  have HXX := Lib.hid hx
  have hwr : IntKind.i64.wrap (N2 : Int) = (N2 : Int) := wrap_le (by omega)
  clear ho h1 hps hpl e0 e1 e2 e3 e4 hd hdv hm hx
  go_enter Tryz.func111, Tryz.ntmps111
  go_wp2_with fail
  refine (rget2_any _ _ _ ys _ _ hn hc (HO.out.alloc _)).mono ?_; rintro e w1 ⟨A1, m1, c1, hmc, rfl, o, kk, hw⟩
  rw [H1.out]
  rw [HPS.out] at o
  have hm1 : m1 = 58 := by rw [← o.len]; exact HPL.out
  subst hm1
  have S1 : Hid (Oct w1 A1 58 ps) := by show Oct _ _ _ _; rw [hw]; exact o.drewN kk
  have Y1 := Lib.hid (rc_new2 hw)
  have B1 : Hid (Below w.heap.size w w1) := by show Below _ _ _; rw [hw]; exact below_drewN (balloc _ _) kk
  clear o hw
  obtain ⟨b, off, hA1, _⟩ := S1.out.2 (by omega)
  subst hA1
  obtain ⟨y0, hy0⟩ : ∃ y, y = w1.drew := ⟨_, rfl⟩
  have SY : Hid (Oct y0 (some ⟨b, off, none⟩) 58 ps) := by show Oct _ _ _ _; rw [hy0]; exact S1.out.drew
  have Y0 : Hid (y0.heap[w.heap.size]? = some (.cells #[.int .u64 0, .int .u64 0, .int .i64 0, .int .u64 0, .int .u8 0] 31 (0, 0))) := by show _ = _; rw [hy0]; exact Y1.out
  have BY : Hid (Below w.heap.size w y0) := by show Below _ _ _; rw [hy0]; exact ⟨B1.out.os, B1.out.tape, B1.out.output, B1.out.size, B1.out.block⟩
  go_upto_region 4 with fail
  go_cut [6] from 18 to 35 (fun s wc => s = .pointer (some ⟨y0.heap.size, 0, none⟩) ∧ wc = y0.alloc (.cells #[.int .u64 (N0 : Int), .int .u64 (N1 : Int), .int .i64 (N2 : Int), .int .u64 (N3 : Int), .int .u8 (m.toNat : Int)] 31))
  case first =>
    go_wp2_with fail
    refine gate (fun x => Oct x (some ⟨b, off, none⟩) 58 ps) 18 [0, 1, 3, 4, 6, 7, 10, 11, 13, 14, 15] 8 (by kernel_rfl) (by kernel_rfl) (by kernel_rfl) rfl ?_ S1.out ?_
    · intro d v c a w h
      cases d <;> exact h
    rw [← hy0]
    clear hy0 S1 Y1 B1
    refine yields_step ?_ rfl rfl ?_ ?_
    rotate_left
    · intro x hS; go_simp; rfl
    refine yields_step (.slice (some ⟨b, off, none⟩) 8 c1) rfl rfl ?_ ?_
    · intro x hS; go_simp; intro h; omega
    refine yields_step ?_ rfl rfl ?_ ?_
    rotate_left
    · intro x hS; go_simp; rfl
    refine yields_step (.slice (some ⟨b, off + 8, none⟩) 8 (c1 - 8)) rfl rfl ?_ ?_
    · intro x hS; go_simp; rw [if_pos (by omega), if_neg (by omega)]
    refine yields_step ?_ rfl rfl ?_ ?_
    rotate_left
    · intro x hS; go_simp; rfl
    refine yields_step (.slice (some ⟨b, off + 16, none⟩) 2 (c1 - 16)) rfl rfl ?_ ?_
    · intro x hS; go_simp; rw [if_pos (by omega), if_neg (by omega)]
    refine yields_step ?_ rfl rfl ?_ ?_
    rotate_left
    · intro x hS; go_simp; rfl
    refine yields_step (.slice (some ⟨b, off + 18, none⟩) 8 (c1 - 18)) rfl rfl ?_ ?_
    · intro x hS; go_simp; rw [if_pos (by omega), if_neg (by omega)]
    refine yields_step ?_ rfl rfl ?_ ?_
    rotate_left
    · intro x hS; go_simp; rfl
    refine yields_step (.pointer (some ⟨b, off + 26, none⟩)) rfl rfl ?_ ?_
    · intro x hS; go_simp; try rfl
    refine yields_step (.int .u8 (m.toNat : Int)) rfl rfl ?_ ?_
    · intro x hS
      have hc26 : x.cell? ⟨b, off + 26, none⟩ = some (.int .u8 (m.toNat : Int)) := by
        obtain ⟨b', off', e', h'⟩ := hS.2 (by omega)
        injection e' with e'
        injection e' with e1 e2
        subst e1 e2
        exact h' 26 m HM.out
      go_simp
    refine Gate.fork (i := 2) (j := 17) (by kernel_rfl) rfl rfl rfl rfl (fun K hK => ?_) (fun K hK => ?_)
    · go_simp
      refine (rof8 (some ⟨b, off, none⟩) c1 (ps.take 8) y0 (SY.out.take (by omega)) N0 E0.out).mono ?_; rintro e w' ⟨rfl, rfl⟩
      refine hK _ _ (fun _ => SY.out) ?_
      clear hK K
      refine Gate.fork (i := 5) (j := 17) (by kernel_rfl) rfl rfl rfl rfl (fun K hK => ?_) (fun K hK => ?_)
      · go_simp
        refine (rof8 (some ⟨b, off + 8, none⟩) (c1 - 8) ((ps.drop 8).take 8) y0 (oct_sub SY.out (by omega) rfl) N1 E1.out).mono ?_; rintro e w' ⟨rfl, rfl⟩
        refine hK _ _ (fun _ => SY.out) ?_
        clear hK K
        refine Gate.fork (i := 8) (j := 17) (by kernel_rfl) rfl rfl rfl rfl (fun K hK => ?_) (fun K hK => ?_)
        · go_simp
          refine (rof2 (some ⟨b, off + 16, none⟩) (c1 - 16) ((ps.drop 16).take 2) y0 (oct_sub SY.out (by omega) rfl) N2 E2.out).mono ?_; rintro e w' ⟨rfl, rfl⟩
          refine hK _ _ (fun _ => SY.out) ?_
          clear hK K
          refine Gate.takes (P := Tryz.prog) (t := 18) (by kernel_rfl) (fun d v c a w h => by cases d <;> exact h) SY.out [9] 4 _ _ (by kernel_rfl) ?_
          refine yields_step (.int .i64 (N2 : Int)) rfl rfl ?_ ?_
          · intro x hS; go_simp
          refine Gate.fork (i := 12) (j := 17) (by kernel_rfl) rfl rfl rfl rfl (fun K hK => ?_) (fun K hK => ?_)
          · go_simp
            refine (rof8 (some ⟨b, off + 18, none⟩) (c1 - 18) ((ps.drop 18).take 8) y0 (oct_sub SY.out (by omega) rfl) N3 E3.out).mono ?_; rintro e w' ⟨rfl, rfl⟩
            refine hK _ _ (fun _ => SY.out) ?_
            clear hK K
            refine Gate.takes (P := Tryz.prog) (t := 18) (by kernel_rfl) (fun d v c a w h => by cases d <;> exact h) SY.out [16] 2 _ _ (by kernel_rfl) ?_
            refine yields_step (.agg #[.int .u64 (N0 : Int), .int .u64 (N1 : Int), .int .i64 (N2 : Int), .int .u64 (N3 : Int), .int .u8 (m.toNat : Int)]) rfl rfl ?_ ?_
            · intro x hS; go_simp
            refine Gate.next (i := 17) (by kernel_rfl) rfl rfl (fun K hK => ?_)
            go_simp
            refine hK _ _ (fun _ => SY.out.alloc _) ?_
            clear hK K
            refine Gate.next (i := 18) (by kernel_rfl) rfl rfl (fun K hK => ?_)
            go_simp
            refine hK _ _ (fun h => absurd rfl h) ?_
            clear hK K
            refine Gate.done (by kernel_rfl) ?_
            go_wp2_with fail
            go_meet
            exact ⟨rfl, rfl⟩
          · go_simp
            refine hK _ _ (fun _ => SY.out.alloc _) ?_
            clear hK K
            refine Gate.next (i := 12) (by kernel_rfl) rfl rfl (fun K hK => ?_)
            go_simp
            refine (rof8 (some ⟨b, off + 18, none⟩) (c1 - 18) ((ps.drop 18).take 8) (y0.alloc (.cells #[.int .u64 0, .int .u64 0, .int .i64 0, .int .u64 0, .int .u8 0] 31)) (oct_sub (SY.out.alloc _) (by omega) rfl) N3 E3.out).mono ?_; rintro e w' ⟨rfl, rfl⟩
            refine hK _ _ (fun _ => (SY.out.alloc _)) ?_
            clear hK K
            refine Gate.takes (P := Tryz.prog) (t := 18) (by kernel_rfl) (fun d v c a w h => by cases d <;> exact h) (SY.out.alloc _) [16] 1 _ _ (by kernel_rfl) ?_
            refine yields_step (.agg #[.int .u64 (N0 : Int), .int .u64 (N1 : Int), .int .i64 (N2 : Int), .int .u64 (N3 : Int), .int .u8 (m.toNat : Int)]) rfl rfl ?_ ?_
            · intro x hS; go_simp
            refine Gate.next (i := 18) (by kernel_rfl) rfl rfl (fun K hK => ?_)
            go_simp
            refine hK _ _ (fun h => absurd rfl h) ?_
            clear hK K
            refine Gate.done (by kernel_rfl) ?_
            go_wp2_with fail
            go_meet
            exact ⟨rfl, rfl⟩
        · go_simp
          refine hK _ _ (fun _ => SY.out.alloc _) ?_
          clear hK K
          refine Gate.next (i := 8) (by kernel_rfl) rfl rfl (fun K hK => ?_)
          go_simp
          refine (rof2 (some ⟨b, off + 16, none⟩) (c1 - 16) ((ps.drop 16).take 2) (y0.alloc (.cells #[.int .u64 0, .int .u64 0, .int .i64 0, .int .u64 0, .int .u8 0] 31)) (oct_sub (SY.out.alloc _) (by omega) rfl) N2 E2.out).mono ?_; rintro e w' ⟨rfl, rfl⟩
          refine hK _ _ (fun _ => (SY.out.alloc _)) ?_
          clear hK K
          refine Gate.takes (P := Tryz.prog) (t := 18) (by kernel_rfl) (fun d v c a w h => by cases d <;> exact h) (SY.out.alloc _) [9] 3 _ _ (by kernel_rfl) ?_
          refine yields_step (.int .i64 (N2 : Int)) rfl rfl ?_ ?_
          · intro x hS; go_simp
          refine Gate.next (i := 12) (by kernel_rfl) rfl rfl (fun K hK => ?_)
          go_simp
          refine (rof8 (some ⟨b, off + 18, none⟩) (c1 - 18) ((ps.drop 18).take 8) (y0.alloc (.cells #[.int .u64 0, .int .u64 0, .int .i64 0, .int .u64 0, .int .u8 0] 31)) (oct_sub (SY.out.alloc _) (by omega) rfl) N3 E3.out).mono ?_; rintro e w' ⟨rfl, rfl⟩
          refine hK _ _ (fun _ => (SY.out.alloc _)) ?_
          clear hK K
          refine Gate.takes (P := Tryz.prog) (t := 18) (by kernel_rfl) (fun d v c a w h => by cases d <;> exact h) (SY.out.alloc _) [16] 1 _ _ (by kernel_rfl) ?_
          refine yields_step (.agg #[.int .u64 (N0 : Int), .int .u64 (N1 : Int), .int .i64 (N2 : Int), .int .u64 (N3 : Int), .int .u8 (m.toNat : Int)]) rfl rfl ?_ ?_
          · intro x hS; go_simp
          refine Gate.next (i := 18) (by kernel_rfl) rfl rfl (fun K hK => ?_)
          go_simp
          refine hK _ _ (fun h => absurd rfl h) ?_
          clear hK K
          refine Gate.done (by kernel_rfl) ?_
          go_wp2_with fail
          go_meet
          exact ⟨rfl, rfl⟩
      · go_simp
        refine hK _ _ (fun _ => SY.out.alloc _) ?_
        clear hK K
        refine Gate.next (i := 5) (by kernel_rfl) rfl rfl (fun K hK => ?_)
        go_simp
        refine (rof8 (some ⟨b, off + 8, none⟩) (c1 - 8) ((ps.drop 8).take 8) (y0.alloc (.cells #[.int .u64 0, .int .u64 0, .int .i64 0, .int .u64 0, .int .u8 0] 31)) (oct_sub (SY.out.alloc _) (by omega) rfl) N1 E1.out).mono ?_; rintro e w' ⟨rfl, rfl⟩
        refine hK _ _ (fun _ => (SY.out.alloc _)) ?_
        clear hK K
        refine Gate.next (i := 8) (by kernel_rfl) rfl rfl (fun K hK => ?_)
        go_simp
        refine (rof2 (some ⟨b, off + 16, none⟩) (c1 - 16) ((ps.drop 16).take 2) (y0.alloc (.cells #[.int .u64 0, .int .u64 0, .int .i64 0, .int .u64 0, .int .u8 0] 31)) (oct_sub (SY.out.alloc _) (by omega) rfl) N2 E2.out).mono ?_; rintro e w' ⟨rfl, rfl⟩
        refine hK _ _ (fun _ => (SY.out.alloc _)) ?_
        clear hK K
        refine Gate.takes (P := Tryz.prog) (t := 18) (by kernel_rfl) (fun d v c a w h => by cases d <;> exact h) (SY.out.alloc _) [9] 3 _ _ (by kernel_rfl) ?_
        refine yields_step (.int .i64 (N2 : Int)) rfl rfl ?_ ?_
        · intro x hS; go_simp
        refine Gate.next (i := 12) (by kernel_rfl) rfl rfl (fun K hK => ?_)
        go_simp
        refine (rof8 (some ⟨b, off + 18, none⟩) (c1 - 18) ((ps.drop 18).take 8) (y0.alloc (.cells #[.int .u64 0, .int .u64 0, .int .i64 0, .int .u64 0, .int .u8 0] 31)) (oct_sub (SY.out.alloc _) (by omega) rfl) N3 E3.out).mono ?_; rintro e w' ⟨rfl, rfl⟩
        refine hK _ _ (fun _ => (SY.out.alloc _)) ?_
        clear hK K
        refine Gate.takes (P := Tryz.prog) (t := 18) (by kernel_rfl) (fun d v c a w h => by cases d <;> exact h) (SY.out.alloc _) [16] 1 _ _ (by kernel_rfl) ?_
        refine yields_step (.agg #[.int .u64 (N0 : Int), .int .u64 (N1 : Int), .int .i64 (N2 : Int), .int .u64 (N3 : Int), .int .u8 (m.toNat : Int)]) rfl rfl ?_ ?_
        · intro x hS; go_simp
        refine Gate.next (i := 18) (by kernel_rfl) rfl rfl (fun K hK => ?_)
        go_simp
        refine hK _ _ (fun h => absurd rfl h) ?_
        clear hK K
        refine Gate.done (by kernel_rfl) ?_
        go_wp2_with fail
        go_meet
        exact ⟨rfl, rfl⟩
    · go_simp
      refine hK _ _ (fun _ => SY.out.alloc _) ?_
      clear hK K
      refine Gate.next (i := 2) (by kernel_rfl) rfl rfl (fun K hK => ?_)
      go_simp
      refine (rof8 (some ⟨b, off, none⟩) c1 (ps.take 8) (y0.alloc (.cells #[.int .u64 0, .int .u64 0, .int .i64 0, .int .u64 0, .int .u8 0] 31)) ((SY.out.alloc _).take (by omega)) N0 E0.out).mono ?_; rintro e w' ⟨rfl, rfl⟩
      refine hK _ _ (fun _ => (SY.out.alloc _)) ?_
      clear hK K
      refine Gate.next (i := 5) (by kernel_rfl) rfl rfl (fun K hK => ?_)
      go_simp
      refine (rof8 (some ⟨b, off + 8, none⟩) (c1 - 8) ((ps.drop 8).take 8) (y0.alloc (.cells #[.int .u64 0, .int .u64 0, .int .i64 0, .int .u64 0, .int .u8 0] 31)) (oct_sub (SY.out.alloc _) (by omega) rfl) N1 E1.out).mono ?_; rintro e w' ⟨rfl, rfl⟩
      refine hK _ _ (fun _ => (SY.out.alloc _)) ?_
      clear hK K
      refine Gate.next (i := 8) (by kernel_rfl) rfl rfl (fun K hK => ?_)
      go_simp
      refine (rof2 (some ⟨b, off + 16, none⟩) (c1 - 16) ((ps.drop 16).take 2) (y0.alloc (.cells #[.int .u64 0, .int .u64 0, .int .i64 0, .int .u64 0, .int .u8 0] 31)) (oct_sub (SY.out.alloc _) (by omega) rfl) N2 E2.out).mono ?_; rintro e w' ⟨rfl, rfl⟩
      refine hK _ _ (fun _ => (SY.out.alloc _)) ?_
      clear hK K
      refine Gate.takes (P := Tryz.prog) (t := 18) (by kernel_rfl) (fun d v c a w h => by cases d <;> exact h) (SY.out.alloc _) [9] 3 _ _ (by kernel_rfl) ?_
      refine yields_step (.int .i64 (N2 : Int)) rfl rfl ?_ ?_
      · intro x hS; go_simp
      refine Gate.next (i := 12) (by kernel_rfl) rfl rfl (fun K hK => ?_)
      go_simp
      refine (rof8 (some ⟨b, off + 18, none⟩) (c1 - 18) ((ps.drop 18).take 8) (y0.alloc (.cells #[.int .u64 0, .int .u64 0, .int .i64 0, .int .u64 0, .int .u8 0] 31)) (oct_sub (SY.out.alloc _) (by omega) rfl) N3 E3.out).mono ?_; rintro e w' ⟨rfl, rfl⟩
      refine hK _ _ (fun _ => (SY.out.alloc _)) ?_
      clear hK K
      refine Gate.takes (P := Tryz.prog) (t := 18) (by kernel_rfl) (fun d v c a w h => by cases d <;> exact h) (SY.out.alloc _) [16] 1 _ _ (by kernel_rfl) ?_
      refine yields_step (.agg #[.int .u64 (N0 : Int), .int .u64 (N1 : Int), .int .i64 (N2 : Int), .int .u64 (N3 : Int), .int .u8 (m.toNat : Int)]) rfl rfl ?_ ?_
      · intro x hS; go_simp
      refine Gate.next (i := 18) (by kernel_rfl) rfl rfl (fun K hK => ?_)
      go_simp
      refine hK _ _ (fun h => absurd rfl h) ?_
      clear hK K
      refine Gate.done (by kernel_rfl) ?_
      go_wp2_with fail
      go_meet
      exact ⟨rfl, rfl⟩
  case rest =>
    obtain ⟨rfl, hwc⟩ := hcut
    have XB : Hid (wc.heap[y0.heap.size]? = some (.cells #[.int .u64 (N0 : Int), .int .u64 (N1 : Int), .int .i64 (N2 : Int), .int .u64 (N3 : Int), .int .u8 (m.toNat : Int)] 31 (0, 0))) := by show _ = _; rw [hwc]; exact heap_alloc_new y0 _
    have YB : Hid (wc.heap[w.heap.size]? = some (.cells #[.int .u64 0, .int .u64 0, .int .i64 0, .int .u64 0, .int .u8 0] 31 (0, 0))) := by show _ = _; rw [hwc]; exact kept_below Y0.out (balloc y0 _)
    have BB : Hid (Below w.heap.size w wc) := by show Below _ _ _; rw [hwc]; exact bthen BY.out (balloc y0 _)
    clear hwc hy0 S1 Y1 B1 SY Y0 BY
    rcases HXX.out with ⟨hm, hs, rfl, rfl⟩ | ⟨hm, hs, rfl, rfl⟩ | ⟨hm, rfl, rfl⟩
    · have ha := bstr_eq (sect p) ys true (by simp [hs])
      have HMD := Lib.hid hm
      clear hm hs
      go_wp2_with ((with_reducible apply L_loadRc); exact rfl; exact XB.out; exact rfl)
      rw [← HDV.out]
      refine (rrput_ok p _ HMD.out).mono ?_; rintro e w8 ⟨v8, rfl, o8, b8⟩
      obtain ⟨A8, c8, rfl, l8, s8⟩ := o8.form (sect_length p)
      have Y8 := Lib.hid (kept_below YB.out b8)
      have X8 := Lib.hid (kept_below XB.out b8)
      have B8 : Hid (Below w.heap.size w w8) := bthen BB.out b8
      have cv1 := s8.conv bt Tryz.underlying9 c8
      have cv2 := (HO.out.below B8.out).conv bt Tryz.underlying9 c
      clear b8 o8 s8
      go_wp2_with (first
        | ((with_reducible apply L_loadRc); exact rfl; exact X8.out; exact rfl)
        | ((with_reducible apply L_storeRow (N := 5) info_rc); exact rfl; exact rfl; exact Y8.out; exact rfl; exact rfl; (simp [Value.oneCell']); intro w4 h4 g4; have H4 := Lib.hid h4; have G4 := Lib.hid g4; clear h4 g4))
      refine bodyPost_ret (results_cell_tmp_row rfl _ _ _ _ rfl (run_loadVar_row _ _ _ _ _ _ _ H4.out Tryz.underlying31 rfl info_rc)) rfl ?_
      exact ⟨by rw [HDV.out]; rfl, below_up B8.out G4.out (Nat.le_refl _)⟩
    · have ha := bstr_eq (sect d) ys false (by simp [hs])
      have HMD := Lib.hid hm
      clear hm hs
      go_wp2_with ((with_reducible apply L_loadRc); exact rfl; exact XB.out; exact rfl)
      rw [← HDV.out]
      refine (rrput_ok d _ HMD.out).mono ?_; rintro e w8 ⟨v8, rfl, o8, b8⟩
      obtain ⟨A8, c8, rfl, l8, s8⟩ := o8.form (sect_length d)
      have Y8 := Lib.hid (kept_below YB.out b8)
      have B8 : Hid (Below w.heap.size w w8) := bthen BB.out b8
      have cv1 := s8.conv bt Tryz.underlying9 c8
      have cv2 := (HO.out.below B8.out).conv bt Tryz.underlying9 c
      clear b8 o8 s8
      go_wp2_with ((with_reducible apply L_storeRow (N := 5) info_rc); exact rfl; exact rfl; exact Y8.out; exact rfl; exact rfl; (simp [Value.oneCell']); intro w4 h4 g4; have H4 := Lib.hid h4; have G4 := Lib.hid g4; clear h4 g4)
      refine bodyPost_ret (results_cell_tmp_row rfl _ _ _ _ rfl (run_loadVar_row _ _ _ _ _ _ _ H4.out Tryz.underlying31 rfl info_rc)) rfl ?_
      exact ⟨rfl, below_up B8.out G4.out (Nat.le_refl _)⟩
    · have HMD := Lib.hid hm
      clear hm
      go_wp2_with ((with_reducible apply L_loadRc); exact rfl; exact XB.out; exact rfl)
      rw [← HDV.out]
      refine (rrput_no d _ HMD.out).mono ?_; rintro e w8 ⟨rfl, b8⟩
      have Y8 := Lib.hid (kept_below YB.out b8)
      have B8 : Hid (Below w.heap.size w w8) := bthen BB.out b8
      clear b8
      go_wp2_with ((with_reducible apply L_storeRow (N := 5) info_rc); exact rfl; exact rfl; exact Y8.out; exact rfl; exact rfl; (simp [Value.oneCell']); intro w4 h4 g4; have H4 := Lib.hid h4; have G4 := Lib.hid g4; clear h4 g4)
      refine bodyPost_ret (results_cell_tmp_row rfl _ _ _ _ rfl (run_loadVar_row _ _ _ _ _ _ _ H4.out Tryz.underlying31 rfl info_rc)) rfl ?_
      exact ⟨rfl, below_up B8.out G4.out (Nat.le_refl _)⟩

set_option maxRecDepth 100000 in
set_option maxHeartbeats 2000000 in
theorem rrget_any (A : Option Addr) (n c : Nat) (ys : List UInt8) (p : Rc) (E : Int) (w : World) (hn : n ≤ 1000000) (hc : n ≤ c) (ho : Oct w A n ys) (hW : GWay ys p E) :
    Calls Tryz.prog 111 #[.slice A n c] w fun e w' => e = .returned (.tuple #[(.agg #[.int .u64 (p.q : Int), .int .u64 (p.h : Int), .int .i64 p.x, .int .u64 (p.g : Int), .int .u8 (p.m.toNat : Int)]), .int .i64 E]) ∧ Below w.heap.size w w' := by
  by_cases h1 : getE ys 2 = 0
  · refine rrget_dec A n c ys _ p E w hn hc ho h1 rfl ?_
    rcases hW with ⟨h2, _⟩ | ⟨_, h3, h4, h5⟩ | ⟨_, h3, h4, h5, h6⟩ | ⟨_, h3, h4, h5, h6⟩
    · exact absurd h1 h2
    · exact .inr (.inr ⟨h5, h4, h3⟩)
    · exact .inr (.inl ⟨h5, fun h => (by rw [dec_sect h] at h6; cases h6), h4, h3⟩)
    · exact .inl ⟨h4 ▸ h5, sect_dec h1 h6, h4, h3⟩
  · have hp : p = zr ∧ E = getE ys 2 := by
      rcases hW with ⟨_, h3, h4⟩ | ⟨h2, _⟩ | ⟨h2, _⟩ | ⟨h2, _⟩
      · exact ⟨h4, h3⟩
      · exact absurd h2 h1
      · exact absurd h2 h1
      · exact absurd h2 h1
    obtain ⟨rfl, h2⟩ := hp
    have HO := Lib.hid ho
    have hE0 : ¬ E = 0 := by rw [h2]; exact h1
    have H2 := Lib.hid h2.symm
    clear h1 h2 hW ho
    go_enter Tryz.func111, Tryz.ntmps111
    go_wp2_with fail
    refine (rget2_any _ _ _ ys _ _ hn hc (HO.out.alloc _)).mono ?_; rintro e w1 ⟨A1, m1, c1, hmc, rfl, o, kk, hw⟩
    rw [H2.out]
    have Y1 := Lib.hid (rc_new2 hw)
    have B1 : Hid (Below w.heap.size w w1) := by show Below _ _ _; rw [hw]; exact below_drewN (balloc _ _) kk
    clear o hw
    go_wp2_with ((with_reducible apply L_storeRow (N := 5) info_rc); exact rfl; exact rfl; exact Y1.out; exact rfl; exact rfl; (simp [Value.oneCell']); intro w3 h3 g3; have H3 := Lib.hid h3; have G3 := Lib.hid g3; clear h3 g3)
    refine bodyPost_ret (results_cell_tmp_row rfl _ _ _ _ rfl (run_loadVar_row _ _ _ _ _ _ _ H3.out Tryz.underlying31 rfl info_rc)) rfl ?_
    exact ⟨rfl, below_up B1.out G3.out (Nat.le_refl _)⟩
end Go.Proofs.YtikbbikcacoobaaGreatDoor.W
