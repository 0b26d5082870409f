/-
  Elder texts, one behind the other: HdRput. No conditions.
-/
import Derived.Test.YtapklelkcicjlaaGreatDoorKHd
/-! The contract of the reference's Put. No conditions. -/
namespace Go.Proofs.YtapklelkcicjlaaGreatDoor.W.Hd
set_option maxRecDepth 100000
open Go.RowKit Oc Rw Gt
set_option linter.unusedVariables false

theorem rnum2 (N : Nat) (w : World) (hN : N < 18446744073709551616) : Calls Tryz.prog 105 #[.int .u64 (N : Int), .int .i64 2] w (Made w (octs N 2)) := num_yes N 2 w hN (by omega)
theorem rnum4 (N : Nat) (w : World) (hN : N < 18446744073709551616) : Calls Tryz.prog 105 #[.int .u64 (N : Int), .int .i64 4] w (Made w (octs N 4)) := num_yes N 4 w hN (by omega)
theorem rnum8 (N : Nat) (w : World) (hN : N < 18446744073709551616) : Calls Tryz.prog 105 #[.int .u64 (N : Int), .int .i64 8] w (Made w (octs N 8)) := num_yes N 8 w hN (by omega)
/-- one octet in a slice of its own -/
theorem own_ub (w : World) (u : Bool) {B : Nat} (hB : B ≤ w.heap.size) : Own (w.alloc (.cells #[.int .u8 ((ub u : Nat) : Int)] 5)) 5 B (.slice (some ⟨w.heap.size, 0, none⟩) 1 1) (octs (ub u) 1) := by
  cases u
  · exact World.ownsRow_lit (base := B) (e := 5) (size := 1) w #[.int .u8 0] 1 hB (by decide) rfl
  · exact World.ownsRow_lit (base := B) (e := 5) (size := 1) w #[.int .u8 1] 1 hB (by decide) rfl
/-- the five parts of a payload -/
def parts5 (u : Bool) (l g s r : Nat) (A0 A1 A2 A3 A4 : Option Addr) (c0 c1 c2 c3 c4 : Nat) : List Part := [⟨A0, 1, c0, octs (ub u) 1⟩, ⟨A1, 2, c1, octs l 2⟩, ⟨A2, 8, c2, octs g 8⟩, ⟨A3, 4, c3, octs s 4⟩, ⟨A4, 4, c4, octs r 4⟩]
theorem joined5 (p : Hd) (A0 A1 A2 A3 A4 : Option Addr) (c0 c1 c2 c3 c4 : Nat) : joined (parts5 p.u p.l.toNat p.g p.s.toNat p.r.toNat A0 A1 A2 A3 A4 c0 c1 c2 c3 c4) = pay p := by
  unfold pay
  simp [joined, parts5]
theorem row5 (w : World) (v0 v1 v2 v3 v4 : Value) (T : TypeId) : ∀ (j : Nat) (y : Value), [v0, v1, v2, v3, v4][j]? = some y → (w.alloc (.cells #[v0, v1, v2, v3, v4] T)).cell? ⟨w.heap.size, j, none⟩ = some y := fun j y hy => by
  rw [cell_of_row _ _ _ _ _ _ (heap_alloc_new w _)]
  simpa using hy
theorem join5 {w : World} {p : Hd} {N S R : Nat} (hN : p.l.toNat = N) (hs : p.s.toNat = S) (hr : p.r.toNat = R) {A0 A1 A2 A3 A4 : Option Addr} {c0 c1 c2 c3 c4 : Nat} {B : Nat} (h0 : Own w 5 B (.slice A0 1 c0) (octs (ub p.u) 1)) (h1 : Own w 5 B (.slice A1 2 c1) (octs N 2)) (h2 : Own w 5 B (.slice A2 8 c2) (octs p.g 8)) (h3 : Own w 5 B (.slice A3 4 c3) (octs S 4)) (h4 : Own w 5 B (.slice A4 4 c4) (octs R 4)) (T : TypeId) :
    Calls Tryz.prog 104 #[.slice (some ⟨w.heap.size, 0, none⟩) 5 5] (w.alloc (.cells #[.slice A0 1 c0, .slice A1 2 c1, .slice A2 8 c2, .slice A3 4 c3, .slice A4 4 c4] T)) (Made (w.alloc (.cells #[.slice A0 1 c0, .slice A1 2 c1, .slice A2 8 c2, .slice A3 4 c3, .slice A4 4 c4] T)) (pay p)) := by
  subst hN hs hr
  rw [← joined5 p A0 A1 A2 A3 A4 c0 c1 c2 c3 c4]
  have oc : ∀ {A : Option Addr} {n c : Nat} {xs : List UInt8}, Own w 5 B (.slice A n c) xs → xs.length = n → Oct (w.alloc (.cells #[.slice A0 1 c0, .slice A1 2 c1, .slice A2 8 c2, .slice A3 4 c3, .slice A4 4 c4] T)) A n xs := fun {A n c xs} h hl => by
    obtain ⟨A', c', e, _, s⟩ := h.form hl
    injection e with e1 e2 e3
    rw [e1]
    exact s.alloc _
  refine join_any _ _ 5 5 _ (by simp) rfl (by omega) fun j q hq => ?_
  match j, hq with
  | 0, hq => injection hq with hq; subst hq; exact ⟨row5 w _ _ _ _ _ T 0 _ rfl, oc h0 (octs_length _ _), by show 1 ≤ 1000000; omega⟩
  | 1, hq => injection hq with hq; subst hq; exact ⟨row5 w _ _ _ _ _ T 1 _ rfl, oc h1 (octs_length _ _), by show 2 ≤ 1000000; omega⟩
  | 2, hq => injection hq with hq; subst hq; exact ⟨row5 w _ _ _ _ _ T 2 _ rfl, oc h2 (octs_length _ _), by show 8 ≤ 1000000; omega⟩
  | 3, hq => injection hq with hq; subst hq; exact ⟨row5 w _ _ _ _ _ T 3 _ rfl, oc h3 (octs_length _ _), by show 4 ≤ 1000000; omega⟩
  | 4, hq => injection hq with hq; subst hq; exact ⟨row5 w _ _ _ _ _ T 4 _ rfl, oc h4 (octs_length _ _), by show 4 ≤ 1000000; omega⟩
  | k + 5, hq => simp [parts5] at hq

set_option maxHeartbeats 2000000 in
theorem rhput_no (p : Hd) (w : World) (h : ¬ MayBe p) : Calls Tryz.prog 50 #[(.agg #[.bool p.u, .int .i64 p.l, .int .u64 (p.g : Int), .int .u32 (p.s.toNat : Int), .int .u32 (p.r.toNat : Int)])] w fun e w' => e = .returned (.tuple #[.slice none 0 0, .int .i64 1]) ∧ Below w.heap.size w w' := by
  have H := Lib.hid h
  clear h
  go_enter Tryz.func50, Tryz.ntmps50
  go_wp2_with fail
  refine (rmay_any p false _ ⟨fun h => (by cases h), fun h => absurd h H.out⟩).mono ?_; rintro e w1 ⟨rfl, b1⟩
  have B1 : Hid (Below w.heap.size w w1) := bthen (balloc _ _) b1
  clear b1
  go_wp2
  go_ret2
  exact ⟨rfl, B1.out⟩

theorem hd_cells {w : World} {B : Nat} {p : Hd} {T : TypeId} (h : w.heap[B]? = some (.cells #[.bool p.u, .int .i64 p.l, .int .u64 (p.g : Int), .int .u32 (p.s.toNat : Int), .int .u32 (p.r.toNat : Int)] T (0, 0))) : w.cell? ⟨B, 0, none⟩ = some (.bool p.u) ∧ w.cell? ⟨B, 1, none⟩ = some (.int .i64 p.l) ∧ w.cell? ⟨B, 2, none⟩ = some (.int .u64 (p.g : Int)) ∧ w.cell? ⟨B, 3, none⟩ = some (.int .u32 (p.s.toNat : Int)) ∧ w.cell? ⟨B, 4, none⟩ = some (.int .u32 (p.r.toNat : Int)) := cells5 h

set_option maxRecDepth 100000 in
set_option maxHeartbeats 8000000 in
theorem rhput_ok (p : Hd) (w : World) (h : MayBe p) : Calls Tryz.prog 50 #[(.agg #[.bool p.u, .int .i64 p.l, .int .u64 (p.g : Int), .int .u32 (p.s.toNat : Int), .int .u32 (p.r.toNat : Int)])] w fun e w' => ∃ v, e = .returned (.tuple #[v, .int .i64 0]) ∧ Own w' 5 w.heap.size v (sect p) ∧ Below w.heap.size w w' := by
  have H := Lib.hid h
  have hml := may_l h
  have hmg := may_g h
  obtain ⟨N, hN, hN2⟩ : ∃ N : Nat, p.l = (N : Int) ∧ N < 65536 := ⟨p.l.toNat, by omega, by omega⟩
  obtain ⟨S, hS0, hS2⟩ : ∃ S : Nat, p.s.toNat = S ∧ S < 4294967296 := ⟨_, rfl, s_lt p.s⟩
  obtain ⟨R, hR0, hR2⟩ : ∃ S : Nat, p.r.toNat = S ∧ S < 4294967296 := ⟨_, rfl, s_lt p.r⟩
  have HG : Hid (p.g < 18446744073709551616) := by show _ < _; omega
  have HX : Hid (N < 18446744073709551616) := by show _ < _; omega
  have HS : Hid (S < 18446744073709551616) := by show _ < _; omega
  have HR : Hid (R < 18446744073709551616) := by show _ < _; omega
  have HT : Hid (p.l.toNat = N) := by show _ = _; omega
  have HN := Lib.hid hN
  have HS0 := Lib.hid hS0
  have HR0 := Lib.hid hR0
  have hwr : IntKind.u64.wrap (N : Int) = (N : Int) := wrap_in (by omega)
  have hws : IntKind.u64.wrap (S : Int) = (S : Int) := wrap_in (by omega)
  have hwt : IntKind.u64.wrap (R : Int) = (R : Int) := wrap_in (by omega)
  clear h hN hml hmg hS0 hR0
  go_enter Tryz.func50, Tryz.ntmps50
  go_wp2_with fail
  refine (rmay_any p true _ ⟨fun _ => H.out, fun _ => rfl⟩).mono ?_; rintro e w1 ⟨rfl, b1⟩
  have X1 := Lib.hid (kept_below (heap_alloc_new w (.cells #[.bool p.u, .int .i64 p.l, .int .u64 (p.g : Int), .int .u32 (p.s.toNat : Int), .int .u32 (p.r.toNat : Int)] 32)) b1)
  have B1 : Hid (Below w.heap.size w w1) := bthen (balloc _ _) b1
  clear b1
  obtain ⟨u2, hu2⟩ : ∃ b, p.u = b := ⟨_, rfl⟩
  have x0 := (hd_cells X1.out).1
  rw [hu2] at x0
  have HU2 := Lib.hid hu2
  clear hu2
  go_upto_if 9 with fail
  go_cut [4] from 8 to 9 (fun s wc => s = .int .u8 ((ub p.u : Nat) : Int) ∧ wc = w1)
  case first =>
    cases u2
    · go_wp2_with fail
      go_meet
      exact ⟨by rw [HU2.out]; rfl, by first | rfl | trivial⟩
    · go_wp2_with fail
      go_meet
      exact ⟨by rw [HU2.out]; rfl, by first | rfl | trivial⟩
  case rest =>
  obtain ⟨rfl, hwc⟩ := hcut
  have hwc2 := hwc.symm
  subst hwc2
  clear x0
  obtain ⟨U, hU⟩ : ∃ U : Int, ((ub p.u : Nat) : Int) = U := ⟨_, rfl⟩
  have HU := Lib.hid hU
  rw [hU]
  clear hU
  obtain ⟨y0, hy0⟩ : ∃ y, y = w1.drew := ⟨_, rfl⟩
  have XS : Hid (y0.heap[w.heap.size]? = some (.cells #[.bool p.u, .int .i64 p.l, .int .u64 (p.g : Int), .int .u32 (p.s.toNat : Int), .int .u32 (p.r.toNat : Int)] 32 (0, 0))) := by show _ = _; rw [hy0]; exact X1.out
  have BY : Hid (Below w.heap.size w y0) := by show Below _ _ _; rw [hy0]; exact ⟨B1.out.os, B1.out.tape, B1.out.output, B1.out.size, B1.out.block⟩
  go_wp2_with fail
  refine gate (fun x => x.heap[w.heap.size]? = some (.cells #[.bool p.u, .int .i64 p.l, .int .u64 (p.g : Int), .int .u32 (p.s.toNat : Int), .int .u32 (p.r.toNat : Int)] 32 (0, 0))) 23 [0, 2, 3, 4, 6, 7, 9, 10, 11, 13, 14, 15] 12 (by kernel_rfl) (by kernel_rfl) (by kernel_rfl) rfl ?_ X1.out ?_
  · intro d v c a w h
    cases d <;> exact h
  rw [← hy0]
  clear hy0 X1 B1
  refine yields_step ?_ rfl rfl ?_ ?_
  rotate_left
  · intro x hS; go_simp; rfl
  refine yields_step ?_ rfl rfl ?_ ?_
  rotate_left
  · intro x hS; go_simp; rfl
  refine yields_step (.int .i64 (N : Int)) rfl rfl ?_ ?_
  · intro x hS; have x2 := (hd_cells hS).2.1; rw [HN.out] at x2; go_simp
  refine yields_step (.int .u64 (N : Int)) rfl rfl ?_ ?_
  · intro x hS; go_simp
  refine yields_step ?_ rfl rfl ?_ ?_
  rotate_left
  · intro x hS; go_simp; rfl
  refine yields_step (.int .u64 (p.g : Int)) rfl rfl ?_ ?_
  · intro x hS; have x2 := (hd_cells hS).2.2.1; go_simp
  refine yields_step ?_ rfl rfl ?_ ?_
  rotate_left
  · intro x hS; go_simp; rfl
  refine yields_step (.int .u32 (S : Int)) rfl rfl ?_ ?_
  · intro x hS; have x2 := (hd_cells hS).2.2.2.1; rw [HS0.out] at x2; go_simp
  refine yields_step (.int .u64 (S : Int)) rfl rfl ?_ ?_
  · intro x hS; go_simp
  refine yields_step ?_ rfl rfl ?_ ?_
  rotate_left
  · intro x hS; go_simp; rfl
  refine yields_step (.int .u32 (R : Int)) rfl rfl ?_ ?_
  · intro x hS; have x2 := (hd_cells hS).2.2.2.2; rw [HR0.out] at x2; go_simp
  refine yields_step (.int .u64 (R : Int)) rfl rfl ?_ ?_
  · intro x hS; go_simp
  refine Gate.fork (i := 1) (j := 5) (by kernel_rfl) rfl rfl rfl rfl (fun K hK => ?_) (fun K hK => ?_)
  · go_simp
    refine hK _ _ (fun _ => kept_below XS.out (balloc _ _)) ?_
    clear hK K
    obtain ⟨y1, hy⟩ : ∃ y, y = y0.alloc (.cells #[.int .u8 U] 5) := ⟨_, rfl⟩
    have b : Below y0.heap.size y0 y1 := by rw [hy]; exact balloc _ _
    have O0 : Hid (Own y1 5 w.heap.size (.slice (some ⟨y0.heap.size, 0, none⟩) 1 1) (octs (ub p.u) 1)) := by show Own _ _ _ _ _; rw [hy, ← HU.out]; exact own_ub y0 p.u BY.out.size
    have XS := Lib.hid (kept_below XS.out b)
    have BY : Hid (Below w.heap.size w y1) := bthen BY.out b
    rw [← hy]
    obtain ⟨A0, hA0⟩ : ∃ A : Option Addr, A = some ⟨y0.heap.size, 0, none⟩ := ⟨_, rfl⟩
    rw [← hA0] at O0 ⊢
    clear b hy hA0
    refine Gate.next (i := 5) (by kernel_rfl) rfl rfl (fun K hK => ?_)
    go_simp
    refine (rnum2 N y1 HX.out).mono ?_; rintro e y2 ⟨v1, rfl, o1, b⟩
    obtain ⟨A1, c1, rfl, l, s⟩ := o1.form (octs_length N 2)
    have O0 := Lib.hid (O0.out.below b)
    have O1 := Lib.hid (o1.more (B' := w.heap.size) BY.out.size)
    have XS := Lib.hid (kept_below XS.out b)
    have BY : Hid (Below w.heap.size w y2) := bthen BY.out b
    clear b o1 l s
    refine hK _ _ (fun _ => XS.out) ?_
    clear hK K
    refine Gate.next (i := 8) (by kernel_rfl) rfl rfl (fun K hK => ?_)
    go_simp
    refine (rnum8 p.g y2 HG.out).mono ?_; rintro e y3 ⟨v2, rfl, o2, b⟩
    obtain ⟨A2, c2, rfl, l, s⟩ := o2.form (octs_length p.g 8)
    have O0 := Lib.hid (O0.out.below b)
    have O1 := Lib.hid (O1.out.below b)
    have O2 := Lib.hid (o2.more (B' := w.heap.size) BY.out.size)
    have XS := Lib.hid (kept_below XS.out b)
    have BY : Hid (Below w.heap.size w y3) := bthen BY.out b
    clear b o2 l s
    refine hK _ _ (fun _ => XS.out) ?_
    clear hK K
    refine Gate.next (i := 12) (by kernel_rfl) rfl rfl (fun K hK => ?_)
    go_simp
    refine (rnum4 S y3 HS.out).mono ?_; rintro e y4 ⟨v3, rfl, o3, b⟩
    obtain ⟨A3, c3, rfl, l, s⟩ := o3.form (octs_length S 4)
    have O0 := Lib.hid (O0.out.below b)
    have O1 := Lib.hid (O1.out.below b)
    have O2 := Lib.hid (O2.out.below b)
    have O3 := Lib.hid (o3.more (B' := w.heap.size) BY.out.size)
    have XS := Lib.hid (kept_below XS.out b)
    have BY : Hid (Below w.heap.size w y4) := bthen BY.out b
    clear b o3 l s
    refine hK _ _ (fun _ => XS.out) ?_
    clear hK K
    refine Gate.next (i := 16) (by kernel_rfl) rfl rfl (fun K hK => ?_)
    go_simp
    refine (rnum4 R y4 HR.out).mono ?_; rintro e y5 ⟨v4, rfl, o4, b⟩
    obtain ⟨A4, c4, rfl, l, s⟩ := o4.form (octs_length R 4)
    have O0 := Lib.hid (O0.out.below b)
    have O1 := Lib.hid (O1.out.below b)
    have O2 := Lib.hid (O2.out.below b)
    have O3 := Lib.hid (O3.out.below b)
    have O4 := Lib.hid (o4.more (B' := w.heap.size) BY.out.size)
    have XS := Lib.hid (kept_below XS.out b)
    have BY : Hid (Below w.heap.size w y5) := bthen BY.out b
    clear b o4 l s
    refine hK _ _ (fun _ => XS.out) ?_
    clear hK K
    refine Gate.next (i := 17) (by kernel_rfl) rfl rfl (fun K hK => ?_)
    go_simp
    refine hK _ _ (fun _ => kept_below XS.out (balloc _ _)) ?_
    clear hK K
    have JN := Lib.hid (join5 HT.out HS0.out HR0.out O0.out O1.out O2.out O3.out O4.out 57)
    have XS := Lib.hid (kept_below XS.out (balloc y5 (.cells #[.slice A0 1 1, .slice A1 2 c1, .slice A2 8 c2, .slice A3 4 c3, .slice A4 4 c4] 57)))
    have BY : Hid (Below w.heap.size w (y5.alloc (.cells #[.slice A0 1 1, .slice A1 2 c1, .slice A2 8 c2, .slice A3 4 c3, .slice A4 4 c4] 57))) := bthen BY.out (balloc _ _)
    refine Gate.next (i := 18) (by kernel_rfl) rfl rfl (fun K hK => ?_)
    go_simp
    refine JN.out.mono ?_; rintro e z1 ⟨v6, rfl, o6, b⟩
    obtain ⟨A6, c6, rfl, l6, s6⟩ := o6.form (pay_length p)
    have S6 := Lib.hid s6
    have XS := Lib.hid (kept_below XS.out b)
    have BY : Hid (Below w.heap.size w z1) := bthen BY.out b
    clear b o6 l6 s6
    refine hK _ _ (fun _ => XS.out) ?_
    clear hK K JN
    refine Gate.next (i := 19) (by kernel_rfl) rfl rfl (fun K hK => ?_)
    go_simp
    refine (rput_any A6 19 c6 (pay p) 3 z1 (by omega) S6.out).mono ?_; rintro e z2 ⟨v7, rfl, o7, b⟩
    rw [putE_pay]
    rw [putL_pay] at o7
    have O7 := Lib.hid (o7.more BY.out.size)
    have XS := Lib.hid (kept_below XS.out b)
    have BY : Hid (Below w.heap.size w z2) := bthen BY.out b
    clear b o7
    refine hK _ _ (fun _ => XS.out) ?_
    clear hK K
    refine Gate.fork (i := 20) (j := 21) (by kernel_rfl) rfl rfl rfl rfl (fun K hK => ?_) (fun K hK => ?_)
    · go_simp
      refine hK _ _ (fun _ => XS.out) ?_
      clear hK K
      refine Gate.next (i := 21) (by kernel_rfl) rfl rfl (fun K hK => ?_)
      go_simp
      refine hK _ _ (fun _ => XS.out) ?_
      clear hK K
      refine Gate.next (i := 22) (by kernel_rfl) rfl rfl (fun K hK => ?_)
      go_simp
      refine hK _ _ (fun _ => XS.out) ?_
      clear hK K
      refine Gate.next (i := 23) (by kernel_rfl) rfl rfl (fun K hK => ?_)
      go_simp
      refine hK _ _ (fun h => absurd rfl h) ?_
      clear hK K
      refine Gate.done (by kernel_rfl) ?_
      go_wp2
      go_ret2
      exact ⟨v7, rfl, O7.out, BY.out⟩
    · go_simp
      refine hK _ _ (fun _ => XS.out) ?_
      clear hK K
      refine Gate.next (i := 20) (by kernel_rfl) rfl rfl (fun K hK => ?_)
      go_simp
      refine hK _ _ (fun _ => XS.out) ?_
      clear hK K
      refine Gate.next (i := 22) (by kernel_rfl) rfl rfl (fun K hK => ?_)
      go_simp
      refine hK _ _ (fun _ => XS.out) ?_
      clear hK K
      refine Gate.next (i := 23) (by kernel_rfl) rfl rfl (fun K hK => ?_)
      go_simp
      refine hK _ _ (fun h => absurd rfl h) ?_
      clear hK K
      refine Gate.done (by kernel_rfl) ?_
      go_wp2
      go_ret2
      exact ⟨v7, rfl, O7.out, BY.out⟩
  · go_simp
    refine (rnum2 N y0 HX.out).mono ?_; rintro e y1 ⟨v1, rfl, o1, b⟩
    obtain ⟨A1, c1, rfl, l, s⟩ := o1.form (octs_length N 2)
    have O1 := Lib.hid (o1.more (B' := w.heap.size) BY.out.size)
    have XS := Lib.hid (kept_below XS.out b)
    have BY : Hid (Below w.heap.size w y1) := bthen BY.out b
    clear b o1 l s
    refine hK _ _ (fun _ => XS.out) ?_
    clear hK K
    refine Gate.fork (i := 1) (j := 8) (by kernel_rfl) rfl rfl rfl rfl (fun K hK => ?_) (fun K hK => ?_)
    · go_simp
      refine hK _ _ (fun _ => kept_below XS.out (balloc _ _)) ?_
      clear hK K
      obtain ⟨y2, hy⟩ : ∃ y, y = y1.alloc (.cells #[.int .u8 U] 5) := ⟨_, rfl⟩
      have b : Below y1.heap.size y1 y2 := by rw [hy]; exact balloc _ _
      have O1 := Lib.hid (O1.out.below b)
      have O0 : Hid (Own y2 5 w.heap.size (.slice (some ⟨y1.heap.size, 0, none⟩) 1 1) (octs (ub p.u) 1)) := by show Own _ _ _ _ _; rw [hy, ← HU.out]; exact own_ub y1 p.u BY.out.size
      have XS := Lib.hid (kept_below XS.out b)
      have BY : Hid (Below w.heap.size w y2) := bthen BY.out b
      rw [← hy]
      obtain ⟨A0, hA0⟩ : ∃ A : Option Addr, A = some ⟨y1.heap.size, 0, none⟩ := ⟨_, rfl⟩
      rw [← hA0] at O0 ⊢
      clear b hy hA0
      refine Gate.next (i := 8) (by kernel_rfl) rfl rfl (fun K hK => ?_)
      go_simp
      refine (rnum8 p.g y2 HG.out).mono ?_; rintro e y3 ⟨v2, rfl, o2, b⟩
      obtain ⟨A2, c2, rfl, l, s⟩ := o2.form (octs_length p.g 8)
      have O1 := Lib.hid (O1.out.below b)
      have O0 := Lib.hid (O0.out.below b)
      have O2 := Lib.hid (o2.more (B' := w.heap.size) BY.out.size)
      have XS := Lib.hid (kept_below XS.out b)
      have BY : Hid (Below w.heap.size w y3) := bthen BY.out b
      clear b o2 l s
      refine hK _ _ (fun _ => XS.out) ?_
      clear hK K
      refine Gate.next (i := 12) (by kernel_rfl) rfl rfl (fun K hK => ?_)
      go_simp
      refine (rnum4 S y3 HS.out).mono ?_; rintro e y4 ⟨v3, rfl, o3, b⟩
      obtain ⟨A3, c3, rfl, l, s⟩ := o3.form (octs_length S 4)
      have O1 := Lib.hid (O1.out.below b)
      have O0 := Lib.hid (O0.out.below b)
      have O2 := Lib.hid (O2.out.below b)
      have O3 := Lib.hid (o3.more (B' := w.heap.size) BY.out.size)
      have XS := Lib.hid (kept_below XS.out b)
      have BY : Hid (Below w.heap.size w y4) := bthen BY.out b
      clear b o3 l s
      refine hK _ _ (fun _ => XS.out) ?_
      clear hK K
      refine Gate.next (i := 16) (by kernel_rfl) rfl rfl (fun K hK => ?_)
      go_simp
      refine (rnum4 R y4 HR.out).mono ?_; rintro e y5 ⟨v4, rfl, o4, b⟩
      obtain ⟨A4, c4, rfl, l, s⟩ := o4.form (octs_length R 4)
      have O1 := Lib.hid (O1.out.below b)
      have O0 := Lib.hid (O0.out.below b)
      have O2 := Lib.hid (O2.out.below b)
      have O3 := Lib.hid (O3.out.below b)
      have O4 := Lib.hid (o4.more (B' := w.heap.size) BY.out.size)
      have XS := Lib.hid (kept_below XS.out b)
      have BY : Hid (Below w.heap.size w y5) := bthen BY.out b
      clear b o4 l s
      refine hK _ _ (fun _ => XS.out) ?_
      clear hK K
      refine Gate.next (i := 17) (by kernel_rfl) rfl rfl (fun K hK => ?_)
      go_simp
      refine hK _ _ (fun _ => kept_below XS.out (balloc _ _)) ?_
      clear hK K
      have JN := Lib.hid (join5 HT.out HS0.out HR0.out O0.out O1.out O2.out O3.out O4.out 57)
      have XS := Lib.hid (kept_below XS.out (balloc y5 (.cells #[.slice A0 1 1, .slice A1 2 c1, .slice A2 8 c2, .slice A3 4 c3, .slice A4 4 c4] 57)))
      have BY : Hid (Below w.heap.size w (y5.alloc (.cells #[.slice A0 1 1, .slice A1 2 c1, .slice A2 8 c2, .slice A3 4 c3, .slice A4 4 c4] 57))) := bthen BY.out (balloc _ _)
      refine Gate.next (i := 18) (by kernel_rfl) rfl rfl (fun K hK => ?_)
      go_simp
      refine JN.out.mono ?_; rintro e z1 ⟨v6, rfl, o6, b⟩
      obtain ⟨A6, c6, rfl, l6, s6⟩ := o6.form (pay_length p)
      have S6 := Lib.hid s6
      have XS := Lib.hid (kept_below XS.out b)
      have BY : Hid (Below w.heap.size w z1) := bthen BY.out b
      clear b o6 l6 s6
      refine hK _ _ (fun _ => XS.out) ?_
      clear hK K JN
      refine Gate.next (i := 19) (by kernel_rfl) rfl rfl (fun K hK => ?_)
      go_simp
      refine (rput_any A6 19 c6 (pay p) 3 z1 (by omega) S6.out).mono ?_; rintro e z2 ⟨v7, rfl, o7, b⟩
      rw [putE_pay]
      rw [putL_pay] at o7
      have O7 := Lib.hid (o7.more BY.out.size)
      have XS := Lib.hid (kept_below XS.out b)
      have BY : Hid (Below w.heap.size w z2) := bthen BY.out b
      clear b o7
      refine hK _ _ (fun _ => XS.out) ?_
      clear hK K
      refine Gate.fork (i := 20) (j := 21) (by kernel_rfl) rfl rfl rfl rfl (fun K hK => ?_) (fun K hK => ?_)
      · go_simp
        refine hK _ _ (fun _ => XS.out) ?_
        clear hK K
        refine Gate.next (i := 21) (by kernel_rfl) rfl rfl (fun K hK => ?_)
        go_simp
        refine hK _ _ (fun _ => XS.out) ?_
        clear hK K
        refine Gate.next (i := 22) (by kernel_rfl) rfl rfl (fun K hK => ?_)
        go_simp
        refine hK _ _ (fun _ => XS.out) ?_
        clear hK K
        refine Gate.next (i := 23) (by kernel_rfl) rfl rfl (fun K hK => ?_)
        go_simp
        refine hK _ _ (fun h => absurd rfl h) ?_
        clear hK K
        refine Gate.done (by kernel_rfl) ?_
        go_wp2
        go_ret2
        exact ⟨v7, rfl, O7.out, BY.out⟩
      · go_simp
        refine hK _ _ (fun _ => XS.out) ?_
        clear hK K
        refine Gate.next (i := 20) (by kernel_rfl) rfl rfl (fun K hK => ?_)
        go_simp
        refine hK _ _ (fun _ => XS.out) ?_
        clear hK K
        refine Gate.next (i := 22) (by kernel_rfl) rfl rfl (fun K hK => ?_)
        go_simp
        refine hK _ _ (fun _ => XS.out) ?_
        clear hK K
        refine Gate.next (i := 23) (by kernel_rfl) rfl rfl (fun K hK => ?_)
        go_simp
        refine hK _ _ (fun h => absurd rfl h) ?_
        clear hK K
        refine Gate.done (by kernel_rfl) ?_
        go_wp2
        go_ret2
        exact ⟨v7, rfl, O7.out, BY.out⟩
    · go_simp
      refine (rnum8 p.g y1 HG.out).mono ?_; rintro e y2 ⟨v2, rfl, o2, b⟩
      obtain ⟨A2, c2, rfl, l, s⟩ := o2.form (octs_length p.g 8)
      have O1 := Lib.hid (O1.out.below b)
      have O2 := Lib.hid (o2.more (B' := w.heap.size) BY.out.size)
      have XS := Lib.hid (kept_below XS.out b)
      have BY : Hid (Below w.heap.size w y2) := bthen BY.out b
      clear b o2 l s
      refine hK _ _ (fun _ => XS.out) ?_
      clear hK K
      refine Gate.fork (i := 1) (j := 12) (by kernel_rfl) rfl rfl rfl rfl (fun K hK => ?_) (fun K hK => ?_)
      · go_simp
        refine hK _ _ (fun _ => kept_below XS.out (balloc _ _)) ?_
        clear hK K
        obtain ⟨y3, hy⟩ : ∃ y, y = y2.alloc (.cells #[.int .u8 U] 5) := ⟨_, rfl⟩
        have b : Below y2.heap.size y2 y3 := by rw [hy]; exact balloc _ _
        have O1 := Lib.hid (O1.out.below b)
        have O2 := Lib.hid (O2.out.below b)
        have O0 : Hid (Own y3 5 w.heap.size (.slice (some ⟨y2.heap.size, 0, none⟩) 1 1) (octs (ub p.u) 1)) := by show Own _ _ _ _ _; rw [hy, ← HU.out]; exact own_ub y2 p.u BY.out.size
        have XS := Lib.hid (kept_below XS.out b)
        have BY : Hid (Below w.heap.size w y3) := bthen BY.out b
        rw [← hy]
        obtain ⟨A0, hA0⟩ : ∃ A : Option Addr, A = some ⟨y2.heap.size, 0, none⟩ := ⟨_, rfl⟩
        rw [← hA0] at O0 ⊢
        clear b hy hA0
        refine Gate.next (i := 12) (by kernel_rfl) rfl rfl (fun K hK => ?_)
        go_simp
        refine (rnum4 S y3 HS.out).mono ?_; rintro e y4 ⟨v3, rfl, o3, b⟩
        obtain ⟨A3, c3, rfl, l, s⟩ := o3.form (octs_length S 4)
        have O1 := Lib.hid (O1.out.below b)
        have O2 := Lib.hid (O2.out.below b)
        have O0 := Lib.hid (O0.out.below b)
        have O3 := Lib.hid (o3.more (B' := w.heap.size) BY.out.size)
        have XS := Lib.hid (kept_below XS.out b)
        have BY : Hid (Below w.heap.size w y4) := bthen BY.out b
        clear b o3 l s
        refine hK _ _ (fun _ => XS.out) ?_
        clear hK K
        refine Gate.next (i := 16) (by kernel_rfl) rfl rfl (fun K hK => ?_)
        go_simp
        refine (rnum4 R y4 HR.out).mono ?_; rintro e y5 ⟨v4, rfl, o4, b⟩
        obtain ⟨A4, c4, rfl, l, s⟩ := o4.form (octs_length R 4)
        have O1 := Lib.hid (O1.out.below b)
        have O2 := Lib.hid (O2.out.below b)
        have O0 := Lib.hid (O0.out.below b)
        have O3 := Lib.hid (O3.out.below b)
        have O4 := Lib.hid (o4.more (B' := w.heap.size) BY.out.size)
        have XS := Lib.hid (kept_below XS.out b)
        have BY : Hid (Below w.heap.size w y5) := bthen BY.out b
        clear b o4 l s
        refine hK _ _ (fun _ => XS.out) ?_
        clear hK K
        refine Gate.next (i := 17) (by kernel_rfl) rfl rfl (fun K hK => ?_)
        go_simp
        refine hK _ _ (fun _ => kept_below XS.out (balloc _ _)) ?_
        clear hK K
        have JN := Lib.hid (join5 HT.out HS0.out HR0.out O0.out O1.out O2.out O3.out O4.out 57)
        have XS := Lib.hid (kept_below XS.out (balloc y5 (.cells #[.slice A0 1 1, .slice A1 2 c1, .slice A2 8 c2, .slice A3 4 c3, .slice A4 4 c4] 57)))
        have BY : Hid (Below w.heap.size w (y5.alloc (.cells #[.slice A0 1 1, .slice A1 2 c1, .slice A2 8 c2, .slice A3 4 c3, .slice A4 4 c4] 57))) := bthen BY.out (balloc _ _)
        refine Gate.next (i := 18) (by kernel_rfl) rfl rfl (fun K hK => ?_)
        go_simp
        refine JN.out.mono ?_; rintro e z1 ⟨v6, rfl, o6, b⟩
        obtain ⟨A6, c6, rfl, l6, s6⟩ := o6.form (pay_length p)
        have S6 := Lib.hid s6
        have XS := Lib.hid (kept_below XS.out b)
        have BY : Hid (Below w.heap.size w z1) := bthen BY.out b
        clear b o6 l6 s6
        refine hK _ _ (fun _ => XS.out) ?_
        clear hK K JN
        refine Gate.next (i := 19) (by kernel_rfl) rfl rfl (fun K hK => ?_)
        go_simp
        refine (rput_any A6 19 c6 (pay p) 3 z1 (by omega) S6.out).mono ?_; rintro e z2 ⟨v7, rfl, o7, b⟩
        rw [putE_pay]
        rw [putL_pay] at o7
        have O7 := Lib.hid (o7.more BY.out.size)
        have XS := Lib.hid (kept_below XS.out b)
        have BY : Hid (Below w.heap.size w z2) := bthen BY.out b
        clear b o7
        refine hK _ _ (fun _ => XS.out) ?_
        clear hK K
        refine Gate.fork (i := 20) (j := 21) (by kernel_rfl) rfl rfl rfl rfl (fun K hK => ?_) (fun K hK => ?_)
        · go_simp
          refine hK _ _ (fun _ => XS.out) ?_
          clear hK K
          refine Gate.next (i := 21) (by kernel_rfl) rfl rfl (fun K hK => ?_)
          go_simp
          refine hK _ _ (fun _ => XS.out) ?_
          clear hK K
          refine Gate.next (i := 22) (by kernel_rfl) rfl rfl (fun K hK => ?_)
          go_simp
          refine hK _ _ (fun _ => XS.out) ?_
          clear hK K
          refine Gate.next (i := 23) (by kernel_rfl) rfl rfl (fun K hK => ?_)
          go_simp
          refine hK _ _ (fun h => absurd rfl h) ?_
          clear hK K
          refine Gate.done (by kernel_rfl) ?_
          go_wp2
          go_ret2
          exact ⟨v7, rfl, O7.out, BY.out⟩
        · go_simp
          refine hK _ _ (fun _ => XS.out) ?_
          clear hK K
          refine Gate.next (i := 20) (by kernel_rfl) rfl rfl (fun K hK => ?_)
          go_simp
          refine hK _ _ (fun _ => XS.out) ?_
          clear hK K
          refine Gate.next (i := 22) (by kernel_rfl) rfl rfl (fun K hK => ?_)
          go_simp
          refine hK _ _ (fun _ => XS.out) ?_
          clear hK K
          refine Gate.next (i := 23) (by kernel_rfl) rfl rfl (fun K hK => ?_)
          go_simp
          refine hK _ _ (fun h => absurd rfl h) ?_
          clear hK K
          refine Gate.done (by kernel_rfl) ?_
          go_wp2
          go_ret2
          exact ⟨v7, rfl, O7.out, BY.out⟩
      · go_simp
        refine (rnum4 S y2 HS.out).mono ?_; rintro e y3 ⟨v3, rfl, o3, b⟩
        obtain ⟨A3, c3, rfl, l, s⟩ := o3.form (octs_length S 4)
        have O1 := Lib.hid (O1.out.below b)
        have O2 := Lib.hid (O2.out.below b)
        have O3 := Lib.hid (o3.more (B' := w.heap.size) BY.out.size)
        have XS := Lib.hid (kept_below XS.out b)
        have BY : Hid (Below w.heap.size w y3) := bthen BY.out b
        clear b o3 l s
        refine hK _ _ (fun _ => XS.out) ?_
        clear hK K
        refine Gate.fork (i := 1) (j := 16) (by kernel_rfl) rfl rfl rfl rfl (fun K hK => ?_) (fun K hK => ?_)
        · go_simp
          refine hK _ _ (fun _ => kept_below XS.out (balloc _ _)) ?_
          clear hK K
          obtain ⟨y4, hy⟩ : ∃ y, y = y3.alloc (.cells #[.int .u8 U] 5) := ⟨_, rfl⟩
          have b : Below y3.heap.size y3 y4 := by rw [hy]; exact balloc _ _
          have O1 := Lib.hid (O1.out.below b)
          have O2 := Lib.hid (O2.out.below b)
          have O3 := Lib.hid (O3.out.below b)
          have O0 : Hid (Own y4 5 w.heap.size (.slice (some ⟨y3.heap.size, 0, none⟩) 1 1) (octs (ub p.u) 1)) := by show Own _ _ _ _ _; rw [hy, ← HU.out]; exact own_ub y3 p.u BY.out.size
          have XS := Lib.hid (kept_below XS.out b)
          have BY : Hid (Below w.heap.size w y4) := bthen BY.out b
          rw [← hy]
          obtain ⟨A0, hA0⟩ : ∃ A : Option Addr, A = some ⟨y3.heap.size, 0, none⟩ := ⟨_, rfl⟩
          rw [← hA0] at O0 ⊢
          clear b hy hA0
          refine Gate.next (i := 16) (by kernel_rfl) rfl rfl (fun K hK => ?_)
          go_simp
          refine (rnum4 R y4 HR.out).mono ?_; rintro e y5 ⟨v4, rfl, o4, b⟩
          obtain ⟨A4, c4, rfl, l, s⟩ := o4.form (octs_length R 4)
          have O1 := Lib.hid (O1.out.below b)
          have O2 := Lib.hid (O2.out.below b)
          have O3 := Lib.hid (O3.out.below b)
          have O0 := Lib.hid (O0.out.below b)
          have O4 := Lib.hid (o4.more (B' := w.heap.size) BY.out.size)
          have XS := Lib.hid (kept_below XS.out b)
          have BY : Hid (Below w.heap.size w y5) := bthen BY.out b
          clear b o4 l s
          refine hK _ _ (fun _ => XS.out) ?_
          clear hK K
          refine Gate.next (i := 17) (by kernel_rfl) rfl rfl (fun K hK => ?_)
          go_simp
          refine hK _ _ (fun _ => kept_below XS.out (balloc _ _)) ?_
          clear hK K
          have JN := Lib.hid (join5 HT.out HS0.out HR0.out O0.out O1.out O2.out O3.out O4.out 57)
          have XS := Lib.hid (kept_below XS.out (balloc y5 (.cells #[.slice A0 1 1, .slice A1 2 c1, .slice A2 8 c2, .slice A3 4 c3, .slice A4 4 c4] 57)))
          have BY : Hid (Below w.heap.size w (y5.alloc (.cells #[.slice A0 1 1, .slice A1 2 c1, .slice A2 8 c2, .slice A3 4 c3, .slice A4 4 c4] 57))) := bthen BY.out (balloc _ _)
          refine Gate.next (i := 18) (by kernel_rfl) rfl rfl (fun K hK => ?_)
          go_simp
          refine JN.out.mono ?_; rintro e z1 ⟨v6, rfl, o6, b⟩
          obtain ⟨A6, c6, rfl, l6, s6⟩ := o6.form (pay_length p)
          have S6 := Lib.hid s6
          have XS := Lib.hid (kept_below XS.out b)
          have BY : Hid (Below w.heap.size w z1) := bthen BY.out b
          clear b o6 l6 s6
          refine hK _ _ (fun _ => XS.out) ?_
          clear hK K JN
          refine Gate.next (i := 19) (by kernel_rfl) rfl rfl (fun K hK => ?_)
          go_simp
          refine (rput_any A6 19 c6 (pay p) 3 z1 (by omega) S6.out).mono ?_; rintro e z2 ⟨v7, rfl, o7, b⟩
          rw [putE_pay]
          rw [putL_pay] at o7
          have O7 := Lib.hid (o7.more BY.out.size)
          have XS := Lib.hid (kept_below XS.out b)
          have BY : Hid (Below w.heap.size w z2) := bthen BY.out b
          clear b o7
          refine hK _ _ (fun _ => XS.out) ?_
          clear hK K
          refine Gate.fork (i := 20) (j := 21) (by kernel_rfl) rfl rfl rfl rfl (fun K hK => ?_) (fun K hK => ?_)
          · go_simp
            refine hK _ _ (fun _ => XS.out) ?_
            clear hK K
            refine Gate.next (i := 21) (by kernel_rfl) rfl rfl (fun K hK => ?_)
            go_simp
            refine hK _ _ (fun _ => XS.out) ?_
            clear hK K
            refine Gate.next (i := 22) (by kernel_rfl) rfl rfl (fun K hK => ?_)
            go_simp
            refine hK _ _ (fun _ => XS.out) ?_
            clear hK K
            refine Gate.next (i := 23) (by kernel_rfl) rfl rfl (fun K hK => ?_)
            go_simp
            refine hK _ _ (fun h => absurd rfl h) ?_
            clear hK K
            refine Gate.done (by kernel_rfl) ?_
            go_wp2
            go_ret2
            exact ⟨v7, rfl, O7.out, BY.out⟩
          · go_simp
            refine hK _ _ (fun _ => XS.out) ?_
            clear hK K
            refine Gate.next (i := 20) (by kernel_rfl) rfl rfl (fun K hK => ?_)
            go_simp
            refine hK _ _ (fun _ => XS.out) ?_
            clear hK K
            refine Gate.next (i := 22) (by kernel_rfl) rfl rfl (fun K hK => ?_)
            go_simp
            refine hK _ _ (fun _ => XS.out) ?_
            clear hK K
            refine Gate.next (i := 23) (by kernel_rfl) rfl rfl (fun K hK => ?_)
            go_simp
            refine hK _ _ (fun h => absurd rfl h) ?_
            clear hK K
            refine Gate.done (by kernel_rfl) ?_
            go_wp2
            go_ret2
            exact ⟨v7, rfl, O7.out, BY.out⟩
        · go_simp
          refine (rnum4 R y3 HR.out).mono ?_; rintro e y4 ⟨v4, rfl, o4, b⟩
          obtain ⟨A4, c4, rfl, l, s⟩ := o4.form (octs_length R 4)
          have O1 := Lib.hid (O1.out.below b)
          have O2 := Lib.hid (O2.out.below b)
          have O3 := Lib.hid (O3.out.below b)
          have O4 := Lib.hid (o4.more (B' := w.heap.size) BY.out.size)
          have XS := Lib.hid (kept_below XS.out b)
          have BY : Hid (Below w.heap.size w y4) := bthen BY.out b
          clear b o4 l s
          refine hK _ _ (fun _ => XS.out) ?_
          clear hK K
          refine Gate.next (i := 1) (by kernel_rfl) rfl rfl (fun K hK => ?_)
          go_simp
          refine hK _ _ (fun _ => kept_below XS.out (balloc _ _)) ?_
          clear hK K
          obtain ⟨y5, hy⟩ : ∃ y, y = y4.alloc (.cells #[.int .u8 U] 5) := ⟨_, rfl⟩
          have b : Below y4.heap.size y4 y5 := by rw [hy]; exact balloc _ _
          have O1 := Lib.hid (O1.out.below b)
          have O2 := Lib.hid (O2.out.below b)
          have O3 := Lib.hid (O3.out.below b)
          have O4 := Lib.hid (O4.out.below b)
          have O0 : Hid (Own y5 5 w.heap.size (.slice (some ⟨y4.heap.size, 0, none⟩) 1 1) (octs (ub p.u) 1)) := by show Own _ _ _ _ _; rw [hy, ← HU.out]; exact own_ub y4 p.u BY.out.size
          have XS := Lib.hid (kept_below XS.out b)
          have BY : Hid (Below w.heap.size w y5) := bthen BY.out b
          rw [← hy]
          obtain ⟨A0, hA0⟩ : ∃ A : Option Addr, A = some ⟨y4.heap.size, 0, none⟩ := ⟨_, rfl⟩
          rw [← hA0] at O0 ⊢
          clear b hy hA0
          refine Gate.next (i := 17) (by kernel_rfl) rfl rfl (fun K hK => ?_)
          go_simp
          refine hK _ _ (fun _ => kept_below XS.out (balloc _ _)) ?_
          clear hK K
          have JN := Lib.hid (join5 HT.out HS0.out HR0.out O0.out O1.out O2.out O3.out O4.out 57)
          have XS := Lib.hid (kept_below XS.out (balloc y5 (.cells #[.slice A0 1 1, .slice A1 2 c1, .slice A2 8 c2, .slice A3 4 c3, .slice A4 4 c4] 57)))
          have BY : Hid (Below w.heap.size w (y5.alloc (.cells #[.slice A0 1 1, .slice A1 2 c1, .slice A2 8 c2, .slice A3 4 c3, .slice A4 4 c4] 57))) := bthen BY.out (balloc _ _)
          refine Gate.next (i := 18) (by kernel_rfl) rfl rfl (fun K hK => ?_)
          go_simp
          refine JN.out.mono ?_; rintro e z1 ⟨v6, rfl, o6, b⟩
          obtain ⟨A6, c6, rfl, l6, s6⟩ := o6.form (pay_length p)
          have S6 := Lib.hid s6
          have XS := Lib.hid (kept_below XS.out b)
          have BY : Hid (Below w.heap.size w z1) := bthen BY.out b
          clear b o6 l6 s6
          refine hK _ _ (fun _ => XS.out) ?_
          clear hK K JN
          refine Gate.next (i := 19) (by kernel_rfl) rfl rfl (fun K hK => ?_)
          go_simp
          refine (rput_any A6 19 c6 (pay p) 3 z1 (by omega) S6.out).mono ?_; rintro e z2 ⟨v7, rfl, o7, b⟩
          rw [putE_pay]
          rw [putL_pay] at o7
          have O7 := Lib.hid (o7.more BY.out.size)
          have XS := Lib.hid (kept_below XS.out b)
          have BY : Hid (Below w.heap.size w z2) := bthen BY.out b
          clear b o7
          refine hK _ _ (fun _ => XS.out) ?_
          clear hK K
          refine Gate.fork (i := 20) (j := 21) (by kernel_rfl) rfl rfl rfl rfl (fun K hK => ?_) (fun K hK => ?_)
          · go_simp
            refine hK _ _ (fun _ => XS.out) ?_
            clear hK K
            refine Gate.next (i := 21) (by kernel_rfl) rfl rfl (fun K hK => ?_)
            go_simp
            refine hK _ _ (fun _ => XS.out) ?_
            clear hK K
            refine Gate.next (i := 22) (by kernel_rfl) rfl rfl (fun K hK => ?_)
            go_simp
            refine hK _ _ (fun _ => XS.out) ?_
            clear hK K
            refine Gate.next (i := 23) (by kernel_rfl) rfl rfl (fun K hK => ?_)
            go_simp
            refine hK _ _ (fun h => absurd rfl h) ?_
            clear hK K
            refine Gate.done (by kernel_rfl) ?_
            go_wp2
            go_ret2
            exact ⟨v7, rfl, O7.out, BY.out⟩
          · go_simp
            refine hK _ _ (fun _ => XS.out) ?_
            clear hK K
            refine Gate.next (i := 20) (by kernel_rfl) rfl rfl (fun K hK => ?_)
            go_simp
            refine hK _ _ (fun _ => XS.out) ?_
            clear hK K
            refine Gate.next (i := 22) (by kernel_rfl) rfl rfl (fun K hK => ?_)
            go_simp
            refine hK _ _ (fun _ => XS.out) ?_
            clear hK K
            refine Gate.next (i := 23) (by kernel_rfl) rfl rfl (fun K hK => ?_)
            go_simp
            refine hK _ _ (fun h => absurd rfl h) ?_
            clear hK K
            refine Gate.done (by kernel_rfl) ?_
            go_wp2
            go_ret2
            exact ⟨v7, rfl, O7.out, BY.out⟩
theorem rhput_any (p : Hd) (w : World) : Calls Tryz.prog 50 #[(.agg #[.bool p.u, .int .i64 p.l, .int .u64 (p.g : Int), .int .u32 (p.s.toNat : Int), .int .u32 (p.r.toNat : Int)])] w (HPut w p) := by
  by_cases h : MayBe p
  · exact (rhput_ok p w h).mono fun e w' h2 => .inl ⟨h, h2⟩
  · exact (rhput_no p w h).mono fun e w' h2 => .inr ⟨h, h2⟩
end Go.Proofs.YtapklelkcicjlaaGreatDoor.W.Hd
