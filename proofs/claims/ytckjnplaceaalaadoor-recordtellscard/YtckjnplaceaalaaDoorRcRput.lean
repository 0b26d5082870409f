/-
  The contract of the reference's Put. No conditions.
-/
import Derived.Test.YtckjnplaceaalaaDoorRcPut
import Derived.Test.YtckjnplaceaalaaDoorKRow
namespace Go.Proofs.YtckjnplaceaalaaDoor.W
open Go.RowKit Oc Rw Gt
set_option linter.unusedVariables false

theorem rnum2 (N : Nat) (w : World) (hN : N < 18446744073709551616) : Calls Tryd.prog 23 #[.int .u64 (N : Int), .int .i64 2] w (Made w (octs N 2)) := num_yes N 2 w hN (by omega)
theorem rnum8 (N : Nat) (w : World) (hN : N < 18446744073709551616) : Calls Tryd.prog 23 #[.int .u64 (N : Int), .int .i64 8] w (Made w (octs N 8)) := num_yes N 8 w hN (by omega)
theorem octs_one (m : UInt8) : octs m.toNat 1 = [m] := by
  show [UInt8.ofNat m.toNat] = [m]
  simp
/-- one octet in a slice of its own -/
theorem own_one (w : World) (m : UInt8) {B : Nat} (hB : B ≤ w.heap.size) : Own (w.alloc (.cells #[.int .u8 (m.toNat : Int)] 5)) 5 B (.slice (some ⟨w.heap.size, 0, none⟩) 1 1) [m] :=
  World.ownsRow_lit (base := B) (e := 5) (size := 1) w #[.int .u8 (m.toNat : Int)] 1 hB (by decide) rfl
/-- the five parts of a payload -/
def parts5 (p : Rc) (N : Nat) (A1 A2 A3 A4 A5 : Option Addr) (c1 c2 c3 c4 c5 : Nat) : List Part := [⟨A1, 8, c1, octs p.q 8⟩, ⟨A2, 8, c2, octs p.h 8⟩, ⟨A3, 2, c3, octs N 2⟩, ⟨A4, 8, c4, octs p.g 8⟩, ⟨A5, 1, c5, [p.m]⟩]
theorem joined5 {p : Rc} {N : Nat} (hN : p.x.toNat = N) (A1 A2 A3 A4 A5 : Option Addr) (c1 c2 c3 c4 c5 : Nat) : joined (parts5 p N A1 A2 A3 A4 A5 c1 c2 c3 c4 c5) = pay p := by
  unfold pay
  rw [hN, octs_one]
  simp [joined, parts5]
theorem row5 (w : World) (v0 v1 v2 v3 v4 : Value) (T : TypeId) : ∀ (j : Nat) (y : Value), [v0, v1, v2, v3, v4][j]? = some y → (w.alloc (.cells #[v0, v1, v2, v3, v4] T)).cell? ⟨w.heap.size, j, none⟩ = some y := fun j y hy => by
  rw [cell_of_row _ _ _ _ _ _ (heap_alloc_new w _)]
  simpa using hy
theorem join5 {w : World} {p : Rc} {N : Nat} (hN : p.x.toNat = N) {A1 A2 A3 A4 A5 : Option Addr} {c1 c2 c3 c4 c5 : Nat} {B : Nat} (h1 : Own w 5 B (.slice A1 8 c1) (octs p.q 8)) (h2 : Own w 5 B (.slice A2 8 c2) (octs p.h 8)) (h3 : Own w 5 B (.slice A3 2 c3) (octs N 2)) (h4 : Own w 5 B (.slice A4 8 c4) (octs p.g 8)) (h5 : Own w 5 B (.slice A5 1 c5) [p.m]) (T : TypeId) :
    Calls Tryd.prog 22 #[.slice (some ⟨w.heap.size, 0, none⟩) 5 5] (w.alloc (.cells #[.slice A1 8 c1, .slice A2 8 c2, .slice A3 2 c3, .slice A4 8 c4, .slice A5 1 c5] T)) (Made (w.alloc (.cells #[.slice A1 8 c1, .slice A2 8 c2, .slice A3 2 c3, .slice A4 8 c4, .slice A5 1 c5] T)) (pay p)) := by
  rw [← joined5 hN A1 A2 A3 A4 A5 c1 c2 c3 c4 c5]
  have oc : ∀ {A : Option Addr} {n c : Nat} {xs : List UInt8}, Own w 5 B (.slice A n c) xs → xs.length = n → Oct (w.alloc (.cells #[.slice A1 8 c1, .slice A2 8 c2, .slice A3 2 c3, .slice A4 8 c4, .slice A5 1 c5] T)) A n xs := fun {A n c xs} h hl => by
    obtain ⟨A', c', e, _, s⟩ := h.form hl
    injection e with e1 e2 e3
    rw [e1]
    exact s.alloc _
  refine join_any _ _ 5 5 _ (by simp) rfl (by omega) fun j q hq => ?_
  match j, hq with
  | 0, hq => injection hq with hq; subst hq; exact ⟨row5 w _ _ _ _ _ T 0 _ rfl, oc h1 (octs_length _ _), by show 8 ≤ 1000000; omega⟩
  | 1, hq => injection hq with hq; subst hq; exact ⟨row5 w _ _ _ _ _ T 1 _ rfl, oc h2 (octs_length _ _), by show 8 ≤ 1000000; omega⟩
  | 2, hq => injection hq with hq; subst hq; exact ⟨row5 w _ _ _ _ _ T 2 _ rfl, oc h3 (octs_length _ _), by show 2 ≤ 1000000; omega⟩
  | 3, hq => injection hq with hq; subst hq; exact ⟨row5 w _ _ _ _ _ T 3 _ rfl, oc h4 (octs_length _ _), by show 8 ≤ 1000000; omega⟩
  | 4, hq => injection hq with hq; subst hq; exact ⟨row5 w _ _ _ _ _ T 4 _ rfl, oc h5 rfl, by show 1 ≤ 1000000; omega⟩
  | k + 5, hq => simp [parts5] at hq

set_option maxHeartbeats 2000000 in
theorem rrput_no (p : Rc) (w : World) (h : ¬ MayBe p) : Calls Tryd.prog 7 #[(.agg #[.int .u64 (p.q : Int), .int .u64 (p.h : Int), .int .i64 p.x, .int .u64 (p.g : Int), .int .u8 (p.m.toNat : Int)])] w fun e w' => e = .returned (.tuple #[.slice none 0 0, .int .i64 1]) ∧ Below w.heap.size w w' := by
  have H := Lib.hid h
  clear h
  go_enter Tryd.func7, Tryd.ntmps7
  go_wp2_with fail
  refine (rmay_any p false _ ⟨fun h => (by cases h), fun h => absurd h H.out⟩).mono ?_; rintro e w1 ⟨rfl, b1⟩
  have B1 : Hid (Below w.heap.size w w1) := bthen (balloc _ _) b1
  clear b1
  go_wp2
  go_ret2
  exact ⟨rfl, B1.out⟩

set_option maxRecDepth 100000 in
set_option maxHeartbeats 8000000 in
theorem rrput_ok (p : Rc) (w : World) (h : MayBe p) : Calls Tryd.prog 7 #[(.agg #[.int .u64 (p.q : Int), .int .u64 (p.h : Int), .int .i64 p.x, .int .u64 (p.g : Int), .int .u8 (p.m.toNat : Int)])] w fun e w' => ∃ v, e = .returned (.tuple #[v, .int .i64 0]) ∧ Own w' 5 w.heap.size v (sect p) ∧ Below w.heap.size w w' := by
  have H := Lib.hid h
  obtain ⟨N, hN, hN2⟩ : ∃ N : Nat, p.x = (N : Int) ∧ N < 65536 := ⟨p.x.toNat, by have := h.2.2.1; omega, by have := h.2.2.1; omega⟩
  have HQ : Hid (p.q < 18446744073709551616) := by have := h.1; show _ < _; omega
  have HH : Hid (p.h < 18446744073709551616) := by have := h.2.1; show _ < _; omega
  have HG : Hid (p.g < 18446744073709551616) := by have := h.2.2.2.1.2; show _ < _; omega
  have HX : Hid (N < 18446744073709551616) := by show _ < _; omega
  have HT : Hid (p.x.toNat = N) := by show _ = _; omega
  have HN := Lib.hid hN
  have hwr : IntKind.u64.wrap (N : Int) = (N : Int) := wrap_in (by omega)
  clear h hN
  go_enter Tryd.func7, Tryd.ntmps7
  go_wp2_with fail
  refine (rmay_any p true _ ⟨fun _ => H.out, fun _ => rfl⟩).mono ?_; rintro e w1 ⟨rfl, b1⟩
  have X1 := Lib.hid (kept_below (heap_alloc_new w (.cells #[.int .u64 (p.q : Int), .int .u64 (p.h : Int), .int .i64 p.x, .int .u64 (p.g : Int), .int .u8 (p.m.toNat : Int)] 24)) b1)
  have B1 : Hid (Below w.heap.size w w1) := bthen (balloc _ _) b1
  clear b1
  obtain ⟨y0, hy0⟩ : ∃ y, y = w1.drew := ⟨_, rfl⟩
  have XS : Hid (y0.heap[w.heap.size]? = some (.cells #[.int .u64 (p.q : Int), .int .u64 (p.h : Int), .int .i64 p.x, .int .u64 (p.g : Int), .int .u8 (p.m.toNat : Int)] 24 (0, 0))) := by show _ = _; rw [hy0]; exact X1.out
  have BY : Hid (Below w.heap.size w y0) := by show Below _ _ _; rw [hy0]; exact ⟨B1.out.os, B1.out.tape, B1.out.output, B1.out.size, B1.out.block⟩
  go_wp2_with fail
  refine gate (fun x => x.heap[w.heap.size]? = some (.cells #[.int .u64 (p.q : Int), .int .u64 (p.h : Int), .int .i64 p.x, .int .u64 (p.g : Int), .int .u8 (p.m.toNat : Int)] 24 (0, 0))) 22 [0, 1, 3, 4, 6, 7, 8, 10, 11, 13, 14] 12 (by kernel_rfl) (by kernel_rfl) (by kernel_rfl) rfl ?_ X1.out ?_
  · intro d v c a w h
    cases d <;> exact h
  rw [← hy0]
  clear hy0 X1 B1
  refine yields_step ?_ rfl rfl ?_ ?_
  rotate_left
  · intro x hS; go_simp; rfl
  refine yields_step ?_ rfl rfl ?_ ?_
  rotate_left
  · intro x hS; obtain ⟨x0, x1, x2, x3, x4⟩ := rc_cells hS; go_simp; rfl
  refine yields_step ?_ rfl rfl ?_ ?_
  rotate_left
  · intro x hS; go_simp; rfl
  refine yields_step ?_ rfl rfl ?_ ?_
  rotate_left
  · intro x hS; obtain ⟨x0, x1, x2, x3, x4⟩ := rc_cells hS; go_simp; rfl
  refine yields_step ?_ rfl rfl ?_ ?_
  rotate_left
  · intro x hS; go_simp; rfl
  refine yields_step (.int .i64 (N : Int)) rfl rfl ?_ ?_
  · intro x hS; have x2 := (rc_cells hS).2.2.1; rw [HN.out] at x2; go_simp
  refine yields_step (.int .u64 (N : Int)) rfl rfl ?_ ?_
  · intro x hS; go_simp
  refine yields_step ?_ rfl rfl ?_ ?_
  rotate_left
  · intro x hS; go_simp; rfl
  refine yields_step ?_ rfl rfl ?_ ?_
  rotate_left
  · intro x hS; obtain ⟨x0, x1, x2, x3, x4⟩ := rc_cells hS; go_simp; rfl
  refine yields_step ?_ rfl rfl ?_ ?_
  rotate_left
  · intro x hS; go_simp; rfl
  refine yields_step ?_ rfl rfl ?_ ?_
  rotate_left
  · intro x hS; obtain ⟨x0, x1, x2, x3, x4⟩ := rc_cells hS; go_simp; rfl
  refine Gate.fork (i := 2) (j := 15) (by kernel_rfl) rfl rfl rfl rfl (fun K hK => ?_) (fun K hK => ?_)
  · go_simp
    refine (rnum8 p.q y0 HQ.out).mono ?_; rintro e y1 ⟨v1, rfl, o1, b⟩
    obtain ⟨A1, c1, rfl, l, s⟩ := o1.form (octs_length p.q 8)
    have O1 := Lib.hid (o1.more (B' := w.heap.size) BY.out.size)
    have XS := Lib.hid (kept_below XS.out b)
    have BY : Hid (Below w.heap.size w y1) := bthen BY.out b
    clear b o1 l s
    refine hK _ _ (fun _ => XS.out) ?_
    clear hK K
    refine Gate.fork (i := 5) (j := 15) (by kernel_rfl) rfl rfl rfl rfl (fun K hK => ?_) (fun K hK => ?_)
    · go_simp
      refine (rnum8 p.h y1 HH.out).mono ?_; rintro e y2 ⟨v2, rfl, o2, b⟩
      obtain ⟨A2, c2, rfl, l, s⟩ := o2.form (octs_length p.h 8)
      have O1 := Lib.hid (O1.out.below b)
      have O2 := Lib.hid (o2.more (B' := w.heap.size) BY.out.size)
      have XS := Lib.hid (kept_below XS.out b)
      have BY : Hid (Below w.heap.size w y2) := bthen BY.out b
      clear b o2 l s
      refine hK _ _ (fun _ => XS.out) ?_
      clear hK K
      refine Gate.fork (i := 9) (j := 15) (by kernel_rfl) rfl rfl rfl rfl (fun K hK => ?_) (fun K hK => ?_)
      · go_simp
        refine (rnum2 N y2 HX.out).mono ?_; rintro e y3 ⟨v3, rfl, o3, b⟩
        obtain ⟨A3, c3, rfl, l, s⟩ := o3.form (octs_length N 2)
        have O1 := Lib.hid (O1.out.below b)
        have O2 := Lib.hid (O2.out.below b)
        have O3 := Lib.hid (o3.more (B' := w.heap.size) BY.out.size)
        have XS := Lib.hid (kept_below XS.out b)
        have BY : Hid (Below w.heap.size w y3) := bthen BY.out b
        clear b o3 l s
        refine hK _ _ (fun _ => XS.out) ?_
        clear hK K
        refine Gate.fork (i := 12) (j := 15) (by kernel_rfl) rfl rfl rfl rfl (fun K hK => ?_) (fun K hK => ?_)
        · go_simp
          refine (rnum8 p.g y3 HG.out).mono ?_; rintro e y4 ⟨v4, rfl, o4, b⟩
          obtain ⟨A4, c4, rfl, l, s⟩ := o4.form (octs_length p.g 8)
          have O1 := Lib.hid (O1.out.below b)
          have O2 := Lib.hid (O2.out.below b)
          have O3 := Lib.hid (O3.out.below b)
          have O4 := Lib.hid (o4.more (B' := w.heap.size) BY.out.size)
          have XS := Lib.hid (kept_below XS.out b)
          have BY : Hid (Below w.heap.size w y4) := bthen BY.out b
          clear b o4 l s
          refine hK _ _ (fun _ => XS.out) ?_
          clear hK K
          refine Gate.next (i := 15) (by kernel_rfl) rfl rfl (fun K hK => ?_)
          go_simp
          refine hK _ _ (fun _ => kept_below XS.out (balloc _ _)) ?_
          clear hK K
          obtain ⟨y5, hy⟩ : ∃ y, y = y4.alloc (.cells #[.int .u8 (p.m.toNat : Int)] 5) := ⟨_, rfl⟩
          have b : Below y4.heap.size y4 y5 := by rw [hy]; exact balloc _ _
          have O1 := Lib.hid (O1.out.below b)
          have O2 := Lib.hid (O2.out.below b)
          have O3 := Lib.hid (O3.out.below b)
          have O4 := Lib.hid (O4.out.below b)
          have O5 : Hid (Own y5 5 w.heap.size (.slice (some ⟨y4.heap.size, 0, none⟩) 1 1) [p.m]) := by show Own _ _ _ _ _; rw [hy]; exact own_one y4 p.m BY.out.size
          have XS := Lib.hid (kept_below XS.out b)
          have BY : Hid (Below w.heap.size w y5) := bthen BY.out b
          rw [← hy]
          obtain ⟨A5, hA5⟩ : ∃ A : Option Addr, A = some ⟨y4.heap.size, 0, none⟩ := ⟨_, rfl⟩
          rw [← hA5] at O5 ⊢
          clear b hy hA5
          refine Gate.next (i := 16) (by kernel_rfl) rfl rfl (fun K hK => ?_)
          go_simp
          refine hK _ _ (fun _ => kept_below XS.out (balloc _ _)) ?_
          clear hK K
          have JN := Lib.hid (join5 HT.out O1.out O2.out O3.out O4.out O5.out 25)
          have XS := Lib.hid (kept_below XS.out (balloc y5 (.cells #[.slice A1 8 c1, .slice A2 8 c2, .slice A3 2 c3, .slice A4 8 c4, .slice A5 1 1] 25)))
          have BY : Hid (Below w.heap.size w (y5.alloc (.cells #[.slice A1 8 c1, .slice A2 8 c2, .slice A3 2 c3, .slice A4 8 c4, .slice A5 1 1] 25))) := bthen BY.out (balloc _ _)
          refine Gate.next (i := 17) (by kernel_rfl) rfl rfl (fun K hK => ?_)
          go_simp
          refine JN.out.mono ?_; rintro e z1 ⟨v6, rfl, o6, b⟩
          obtain ⟨A6, c6, rfl, l6, s6⟩ := o6.form (pay_length p)
          have S6 := Lib.hid s6
          have XS := Lib.hid (kept_below XS.out b)
          have BY : Hid (Below w.heap.size w z1) := bthen BY.out b
          clear b o6 l6 s6
          refine hK _ _ (fun _ => XS.out) ?_
          clear hK K JN
          refine Gate.next (i := 18) (by kernel_rfl) rfl rfl (fun K hK => ?_)
          go_simp
          refine (rput_any A6 27 c6 (pay p) 2 z1 (by omega) S6.out).mono ?_; rintro e z2 ⟨v7, rfl, o7, b⟩
          rw [putE_pay]
          rw [putL_pay] at o7
          have O7 := Lib.hid (o7.more BY.out.size)
          have XS := Lib.hid (kept_below XS.out b)
          have BY : Hid (Below w.heap.size w z2) := bthen BY.out b
          clear b o7
          refine hK _ _ (fun _ => XS.out) ?_
          clear hK K
          refine Gate.fork (i := 19) (j := 20) (by kernel_rfl) rfl rfl rfl rfl (fun K hK => ?_) (fun K hK => ?_)
          · go_simp
            refine hK _ _ (fun _ => XS.out) ?_
            clear hK K
            refine Gate.next (i := 20) (by kernel_rfl) rfl rfl (fun K hK => ?_)
            go_simp
            refine hK _ _ (fun _ => XS.out) ?_
            clear hK K
            refine Gate.next (i := 21) (by kernel_rfl) rfl rfl (fun K hK => ?_)
            go_simp
            refine hK _ _ (fun _ => XS.out) ?_
            clear hK K
            refine Gate.next (i := 22) (by kernel_rfl) rfl rfl (fun K hK => ?_)
            go_simp
            refine hK _ _ (fun h => absurd rfl h) ?_
            clear hK K
            refine Gate.done (by kernel_rfl) ?_
            go_wp2
            go_ret2
            exact ⟨v7, rfl, O7.out, BY.out⟩
          · go_simp
            refine hK _ _ (fun _ => XS.out) ?_
            clear hK K
            refine Gate.next (i := 19) (by kernel_rfl) rfl rfl (fun K hK => ?_)
            go_simp
            refine hK _ _ (fun _ => XS.out) ?_
            clear hK K
            refine Gate.next (i := 21) (by kernel_rfl) rfl rfl (fun K hK => ?_)
            go_simp
            refine hK _ _ (fun _ => XS.out) ?_
            clear hK K
            refine Gate.next (i := 22) (by kernel_rfl) rfl rfl (fun K hK => ?_)
            go_simp
            refine hK _ _ (fun h => absurd rfl h) ?_
            clear hK K
            refine Gate.done (by kernel_rfl) ?_
            go_wp2
            go_ret2
            exact ⟨v7, rfl, O7.out, BY.out⟩
        · go_simp
          refine hK _ _ (fun _ => kept_below XS.out (balloc _ _)) ?_
          clear hK K
          obtain ⟨y4, hy⟩ : ∃ y, y = y3.alloc (.cells #[.int .u8 (p.m.toNat : Int)] 5) := ⟨_, rfl⟩
          have b : Below y3.heap.size y3 y4 := by rw [hy]; exact balloc _ _
          have O1 := Lib.hid (O1.out.below b)
          have O2 := Lib.hid (O2.out.below b)
          have O3 := Lib.hid (O3.out.below b)
          have O5 : Hid (Own y4 5 w.heap.size (.slice (some ⟨y3.heap.size, 0, none⟩) 1 1) [p.m]) := by show Own _ _ _ _ _; rw [hy]; exact own_one y3 p.m BY.out.size
          have XS := Lib.hid (kept_below XS.out b)
          have BY : Hid (Below w.heap.size w y4) := bthen BY.out b
          rw [← hy]
          obtain ⟨A5, hA5⟩ : ∃ A : Option Addr, A = some ⟨y3.heap.size, 0, none⟩ := ⟨_, rfl⟩
          rw [← hA5] at O5 ⊢
          clear b hy hA5
          refine Gate.next (i := 12) (by kernel_rfl) rfl rfl (fun K hK => ?_)
          go_simp
          refine (rnum8 p.g y4 HG.out).mono ?_; rintro e y5 ⟨v4, rfl, o4, b⟩
          obtain ⟨A4, c4, rfl, l, s⟩ := o4.form (octs_length p.g 8)
          have O1 := Lib.hid (O1.out.below b)
          have O2 := Lib.hid (O2.out.below b)
          have O3 := Lib.hid (O3.out.below b)
          have O5 := Lib.hid (O5.out.below b)
          have O4 := Lib.hid (o4.more (B' := w.heap.size) BY.out.size)
          have XS := Lib.hid (kept_below XS.out b)
          have BY : Hid (Below w.heap.size w y5) := bthen BY.out b
          clear b o4 l s
          refine hK _ _ (fun _ => XS.out) ?_
          clear hK K
          refine Gate.next (i := 16) (by kernel_rfl) rfl rfl (fun K hK => ?_)
          go_simp
          refine hK _ _ (fun _ => kept_below XS.out (balloc _ _)) ?_
          clear hK K
          have JN := Lib.hid (join5 HT.out O1.out O2.out O3.out O4.out O5.out 25)
          have XS := Lib.hid (kept_below XS.out (balloc y5 (.cells #[.slice A1 8 c1, .slice A2 8 c2, .slice A3 2 c3, .slice A4 8 c4, .slice A5 1 1] 25)))
          have BY : Hid (Below w.heap.size w (y5.alloc (.cells #[.slice A1 8 c1, .slice A2 8 c2, .slice A3 2 c3, .slice A4 8 c4, .slice A5 1 1] 25))) := bthen BY.out (balloc _ _)
          refine Gate.next (i := 17) (by kernel_rfl) rfl rfl (fun K hK => ?_)
          go_simp
          refine JN.out.mono ?_; rintro e z1 ⟨v6, rfl, o6, b⟩
          obtain ⟨A6, c6, rfl, l6, s6⟩ := o6.form (pay_length p)
          have S6 := Lib.hid s6
          have XS := Lib.hid (kept_below XS.out b)
          have BY : Hid (Below w.heap.size w z1) := bthen BY.out b
          clear b o6 l6 s6
          refine hK _ _ (fun _ => XS.out) ?_
          clear hK K JN
          refine Gate.next (i := 18) (by kernel_rfl) rfl rfl (fun K hK => ?_)
          go_simp
          refine (rput_any A6 27 c6 (pay p) 2 z1 (by omega) S6.out).mono ?_; rintro e z2 ⟨v7, rfl, o7, b⟩
          rw [putE_pay]
          rw [putL_pay] at o7
          have O7 := Lib.hid (o7.more BY.out.size)
          have XS := Lib.hid (kept_below XS.out b)
          have BY : Hid (Below w.heap.size w z2) := bthen BY.out b
          clear b o7
          refine hK _ _ (fun _ => XS.out) ?_
          clear hK K
          refine Gate.fork (i := 19) (j := 20) (by kernel_rfl) rfl rfl rfl rfl (fun K hK => ?_) (fun K hK => ?_)
          · go_simp
            refine hK _ _ (fun _ => XS.out) ?_
            clear hK K
            refine Gate.next (i := 20) (by kernel_rfl) rfl rfl (fun K hK => ?_)
            go_simp
            refine hK _ _ (fun _ => XS.out) ?_
            clear hK K
            refine Gate.next (i := 21) (by kernel_rfl) rfl rfl (fun K hK => ?_)
            go_simp
            refine hK _ _ (fun _ => XS.out) ?_
            clear hK K
            refine Gate.next (i := 22) (by kernel_rfl) rfl rfl (fun K hK => ?_)
            go_simp
            refine hK _ _ (fun h => absurd rfl h) ?_
            clear hK K
            refine Gate.done (by kernel_rfl) ?_
            go_wp2
            go_ret2
            exact ⟨v7, rfl, O7.out, BY.out⟩
          · go_simp
            refine hK _ _ (fun _ => XS.out) ?_
            clear hK K
            refine Gate.next (i := 19) (by kernel_rfl) rfl rfl (fun K hK => ?_)
            go_simp
            refine hK _ _ (fun _ => XS.out) ?_
            clear hK K
            refine Gate.next (i := 21) (by kernel_rfl) rfl rfl (fun K hK => ?_)
            go_simp
            refine hK _ _ (fun _ => XS.out) ?_
            clear hK K
            refine Gate.next (i := 22) (by kernel_rfl) rfl rfl (fun K hK => ?_)
            go_simp
            refine hK _ _ (fun h => absurd rfl h) ?_
            clear hK K
            refine Gate.done (by kernel_rfl) ?_
            go_wp2
            go_ret2
            exact ⟨v7, rfl, O7.out, BY.out⟩
      · go_simp
        refine hK _ _ (fun _ => kept_below XS.out (balloc _ _)) ?_
        clear hK K
        obtain ⟨y3, hy⟩ : ∃ y, y = y2.alloc (.cells #[.int .u8 (p.m.toNat : Int)] 5) := ⟨_, rfl⟩
        have b : Below y2.heap.size y2 y3 := by rw [hy]; exact balloc _ _
        have O1 := Lib.hid (O1.out.below b)
        have O2 := Lib.hid (O2.out.below b)
        have O5 : Hid (Own y3 5 w.heap.size (.slice (some ⟨y2.heap.size, 0, none⟩) 1 1) [p.m]) := by show Own _ _ _ _ _; rw [hy]; exact own_one y2 p.m BY.out.size
        have XS := Lib.hid (kept_below XS.out b)
        have BY : Hid (Below w.heap.size w y3) := bthen BY.out b
        rw [← hy]
        obtain ⟨A5, hA5⟩ : ∃ A : Option Addr, A = some ⟨y2.heap.size, 0, none⟩ := ⟨_, rfl⟩
        rw [← hA5] at O5 ⊢
        clear b hy hA5
        refine Gate.next (i := 9) (by kernel_rfl) rfl rfl (fun K hK => ?_)
        go_simp
        refine (rnum2 N y3 HX.out).mono ?_; rintro e y4 ⟨v3, rfl, o3, b⟩
        obtain ⟨A3, c3, rfl, l, s⟩ := o3.form (octs_length N 2)
        have O1 := Lib.hid (O1.out.below b)
        have O2 := Lib.hid (O2.out.below b)
        have O5 := Lib.hid (O5.out.below b)
        have O3 := Lib.hid (o3.more (B' := w.heap.size) BY.out.size)
        have XS := Lib.hid (kept_below XS.out b)
        have BY : Hid (Below w.heap.size w y4) := bthen BY.out b
        clear b o3 l s
        refine hK _ _ (fun _ => XS.out) ?_
        clear hK K
        refine Gate.next (i := 12) (by kernel_rfl) rfl rfl (fun K hK => ?_)
        go_simp
        refine (rnum8 p.g y4 HG.out).mono ?_; rintro e y5 ⟨v4, rfl, o4, b⟩
        obtain ⟨A4, c4, rfl, l, s⟩ := o4.form (octs_length p.g 8)
        have O1 := Lib.hid (O1.out.below b)
        have O2 := Lib.hid (O2.out.below b)
        have O5 := Lib.hid (O5.out.below b)
        have O3 := Lib.hid (O3.out.below b)
        have O4 := Lib.hid (o4.more (B' := w.heap.size) BY.out.size)
        have XS := Lib.hid (kept_below XS.out b)
        have BY : Hid (Below w.heap.size w y5) := bthen BY.out b
        clear b o4 l s
        refine hK _ _ (fun _ => XS.out) ?_
        clear hK K
        refine Gate.next (i := 16) (by kernel_rfl) rfl rfl (fun K hK => ?_)
        go_simp
        refine hK _ _ (fun _ => kept_below XS.out (balloc _ _)) ?_
        clear hK K
        have JN := Lib.hid (join5 HT.out O1.out O2.out O3.out O4.out O5.out 25)
        have XS := Lib.hid (kept_below XS.out (balloc y5 (.cells #[.slice A1 8 c1, .slice A2 8 c2, .slice A3 2 c3, .slice A4 8 c4, .slice A5 1 1] 25)))
        have BY : Hid (Below w.heap.size w (y5.alloc (.cells #[.slice A1 8 c1, .slice A2 8 c2, .slice A3 2 c3, .slice A4 8 c4, .slice A5 1 1] 25))) := bthen BY.out (balloc _ _)
        refine Gate.next (i := 17) (by kernel_rfl) rfl rfl (fun K hK => ?_)
        go_simp
        refine JN.out.mono ?_; rintro e z1 ⟨v6, rfl, o6, b⟩
        obtain ⟨A6, c6, rfl, l6, s6⟩ := o6.form (pay_length p)
        have S6 := Lib.hid s6
        have XS := Lib.hid (kept_below XS.out b)
        have BY : Hid (Below w.heap.size w z1) := bthen BY.out b
        clear b o6 l6 s6
        refine hK _ _ (fun _ => XS.out) ?_
        clear hK K JN
        refine Gate.next (i := 18) (by kernel_rfl) rfl rfl (fun K hK => ?_)
        go_simp
        refine (rput_any A6 27 c6 (pay p) 2 z1 (by omega) S6.out).mono ?_; rintro e z2 ⟨v7, rfl, o7, b⟩
        rw [putE_pay]
        rw [putL_pay] at o7
        have O7 := Lib.hid (o7.more BY.out.size)
        have XS := Lib.hid (kept_below XS.out b)
        have BY : Hid (Below w.heap.size w z2) := bthen BY.out b
        clear b o7
        refine hK _ _ (fun _ => XS.out) ?_
        clear hK K
        refine Gate.fork (i := 19) (j := 20) (by kernel_rfl) rfl rfl rfl rfl (fun K hK => ?_) (fun K hK => ?_)
        · go_simp
          refine hK _ _ (fun _ => XS.out) ?_
          clear hK K
          refine Gate.next (i := 20) (by kernel_rfl) rfl rfl (fun K hK => ?_)
          go_simp
          refine hK _ _ (fun _ => XS.out) ?_
          clear hK K
          refine Gate.next (i := 21) (by kernel_rfl) rfl rfl (fun K hK => ?_)
          go_simp
          refine hK _ _ (fun _ => XS.out) ?_
          clear hK K
          refine Gate.next (i := 22) (by kernel_rfl) rfl rfl (fun K hK => ?_)
          go_simp
          refine hK _ _ (fun h => absurd rfl h) ?_
          clear hK K
          refine Gate.done (by kernel_rfl) ?_
          go_wp2
          go_ret2
          exact ⟨v7, rfl, O7.out, BY.out⟩
        · go_simp
          refine hK _ _ (fun _ => XS.out) ?_
          clear hK K
          refine Gate.next (i := 19) (by kernel_rfl) rfl rfl (fun K hK => ?_)
          go_simp
          refine hK _ _ (fun _ => XS.out) ?_
          clear hK K
          refine Gate.next (i := 21) (by kernel_rfl) rfl rfl (fun K hK => ?_)
          go_simp
          refine hK _ _ (fun _ => XS.out) ?_
          clear hK K
          refine Gate.next (i := 22) (by kernel_rfl) rfl rfl (fun K hK => ?_)
          go_simp
          refine hK _ _ (fun h => absurd rfl h) ?_
          clear hK K
          refine Gate.done (by kernel_rfl) ?_
          go_wp2
          go_ret2
          exact ⟨v7, rfl, O7.out, BY.out⟩
    · go_simp
      refine hK _ _ (fun _ => kept_below XS.out (balloc _ _)) ?_
      clear hK K
      obtain ⟨y2, hy⟩ : ∃ y, y = y1.alloc (.cells #[.int .u8 (p.m.toNat : Int)] 5) := ⟨_, rfl⟩
      have b : Below y1.heap.size y1 y2 := by rw [hy]; exact balloc _ _
      have O1 := Lib.hid (O1.out.below b)
      have O5 : Hid (Own y2 5 w.heap.size (.slice (some ⟨y1.heap.size, 0, none⟩) 1 1) [p.m]) := by show Own _ _ _ _ _; rw [hy]; exact own_one y1 p.m BY.out.size
      have XS := Lib.hid (kept_below XS.out b)
      have BY : Hid (Below w.heap.size w y2) := bthen BY.out b
      rw [← hy]
      obtain ⟨A5, hA5⟩ : ∃ A : Option Addr, A = some ⟨y1.heap.size, 0, none⟩ := ⟨_, rfl⟩
      rw [← hA5] at O5 ⊢
      clear b hy hA5
      refine Gate.next (i := 5) (by kernel_rfl) rfl rfl (fun K hK => ?_)
      go_simp
      refine (rnum8 p.h y2 HH.out).mono ?_; rintro e y3 ⟨v2, rfl, o2, b⟩
      obtain ⟨A2, c2, rfl, l, s⟩ := o2.form (octs_length p.h 8)
      have O1 := Lib.hid (O1.out.below b)
      have O5 := Lib.hid (O5.out.below b)
      have O2 := Lib.hid (o2.more (B' := w.heap.size) BY.out.size)
      have XS := Lib.hid (kept_below XS.out b)
      have BY : Hid (Below w.heap.size w y3) := bthen BY.out b
      clear b o2 l s
      refine hK _ _ (fun _ => XS.out) ?_
      clear hK K
      refine Gate.next (i := 9) (by kernel_rfl) rfl rfl (fun K hK => ?_)
      go_simp
      refine (rnum2 N y3 HX.out).mono ?_; rintro e y4 ⟨v3, rfl, o3, b⟩
      obtain ⟨A3, c3, rfl, l, s⟩ := o3.form (octs_length N 2)
      have O1 := Lib.hid (O1.out.below b)
      have O5 := Lib.hid (O5.out.below b)
      have O2 := Lib.hid (O2.out.below b)
      have O3 := Lib.hid (o3.more (B' := w.heap.size) BY.out.size)
      have XS := Lib.hid (kept_below XS.out b)
      have BY : Hid (Below w.heap.size w y4) := bthen BY.out b
      clear b o3 l s
      refine hK _ _ (fun _ => XS.out) ?_
      clear hK K
      refine Gate.next (i := 12) (by kernel_rfl) rfl rfl (fun K hK => ?_)
      go_simp
      refine (rnum8 p.g y4 HG.out).mono ?_; rintro e y5 ⟨v4, rfl, o4, b⟩
      obtain ⟨A4, c4, rfl, l, s⟩ := o4.form (octs_length p.g 8)
      have O1 := Lib.hid (O1.out.below b)
      have O5 := Lib.hid (O5.out.below b)
      have O2 := Lib.hid (O2.out.below b)
      have O3 := Lib.hid (O3.out.below b)
      have O4 := Lib.hid (o4.more (B' := w.heap.size) BY.out.size)
      have XS := Lib.hid (kept_below XS.out b)
      have BY : Hid (Below w.heap.size w y5) := bthen BY.out b
      clear b o4 l s
      refine hK _ _ (fun _ => XS.out) ?_
      clear hK K
      refine Gate.next (i := 16) (by kernel_rfl) rfl rfl (fun K hK => ?_)
      go_simp
      refine hK _ _ (fun _ => kept_below XS.out (balloc _ _)) ?_
      clear hK K
      have JN := Lib.hid (join5 HT.out O1.out O2.out O3.out O4.out O5.out 25)
      have XS := Lib.hid (kept_below XS.out (balloc y5 (.cells #[.slice A1 8 c1, .slice A2 8 c2, .slice A3 2 c3, .slice A4 8 c4, .slice A5 1 1] 25)))
      have BY : Hid (Below w.heap.size w (y5.alloc (.cells #[.slice A1 8 c1, .slice A2 8 c2, .slice A3 2 c3, .slice A4 8 c4, .slice A5 1 1] 25))) := bthen BY.out (balloc _ _)
      refine Gate.next (i := 17) (by kernel_rfl) rfl rfl (fun K hK => ?_)
      go_simp
      refine JN.out.mono ?_; rintro e z1 ⟨v6, rfl, o6, b⟩
      obtain ⟨A6, c6, rfl, l6, s6⟩ := o6.form (pay_length p)
      have S6 := Lib.hid s6
      have XS := Lib.hid (kept_below XS.out b)
      have BY : Hid (Below w.heap.size w z1) := bthen BY.out b
      clear b o6 l6 s6
      refine hK _ _ (fun _ => XS.out) ?_
      clear hK K JN
      refine Gate.next (i := 18) (by kernel_rfl) rfl rfl (fun K hK => ?_)
      go_simp
      refine (rput_any A6 27 c6 (pay p) 2 z1 (by omega) S6.out).mono ?_; rintro e z2 ⟨v7, rfl, o7, b⟩
      rw [putE_pay]
      rw [putL_pay] at o7
      have O7 := Lib.hid (o7.more BY.out.size)
      have XS := Lib.hid (kept_below XS.out b)
      have BY : Hid (Below w.heap.size w z2) := bthen BY.out b
      clear b o7
      refine hK _ _ (fun _ => XS.out) ?_
      clear hK K
      refine Gate.fork (i := 19) (j := 20) (by kernel_rfl) rfl rfl rfl rfl (fun K hK => ?_) (fun K hK => ?_)
      · go_simp
        refine hK _ _ (fun _ => XS.out) ?_
        clear hK K
        refine Gate.next (i := 20) (by kernel_rfl) rfl rfl (fun K hK => ?_)
        go_simp
        refine hK _ _ (fun _ => XS.out) ?_
        clear hK K
        refine Gate.next (i := 21) (by kernel_rfl) rfl rfl (fun K hK => ?_)
        go_simp
        refine hK _ _ (fun _ => XS.out) ?_
        clear hK K
        refine Gate.next (i := 22) (by kernel_rfl) rfl rfl (fun K hK => ?_)
        go_simp
        refine hK _ _ (fun h => absurd rfl h) ?_
        clear hK K
        refine Gate.done (by kernel_rfl) ?_
        go_wp2
        go_ret2
        exact ⟨v7, rfl, O7.out, BY.out⟩
      · go_simp
        refine hK _ _ (fun _ => XS.out) ?_
        clear hK K
        refine Gate.next (i := 19) (by kernel_rfl) rfl rfl (fun K hK => ?_)
        go_simp
        refine hK _ _ (fun _ => XS.out) ?_
        clear hK K
        refine Gate.next (i := 21) (by kernel_rfl) rfl rfl (fun K hK => ?_)
        go_simp
        refine hK _ _ (fun _ => XS.out) ?_
        clear hK K
        refine Gate.next (i := 22) (by kernel_rfl) rfl rfl (fun K hK => ?_)
        go_simp
        refine hK _ _ (fun h => absurd rfl h) ?_
        clear hK K
        refine Gate.done (by kernel_rfl) ?_
        go_wp2
        go_ret2
        exact ⟨v7, rfl, O7.out, BY.out⟩
  · go_simp
    refine hK _ _ (fun _ => kept_below XS.out (balloc _ _)) ?_
    clear hK K
    obtain ⟨y1, hy⟩ : ∃ y, y = y0.alloc (.cells #[.int .u8 (p.m.toNat : Int)] 5) := ⟨_, rfl⟩
    have b : Below y0.heap.size y0 y1 := by rw [hy]; exact balloc _ _
    have O5 : Hid (Own y1 5 w.heap.size (.slice (some ⟨y0.heap.size, 0, none⟩) 1 1) [p.m]) := by show Own _ _ _ _ _; rw [hy]; exact own_one y0 p.m BY.out.size
    have XS := Lib.hid (kept_below XS.out b)
    have BY : Hid (Below w.heap.size w y1) := bthen BY.out b
    rw [← hy]
    obtain ⟨A5, hA5⟩ : ∃ A : Option Addr, A = some ⟨y0.heap.size, 0, none⟩ := ⟨_, rfl⟩
    rw [← hA5] at O5 ⊢
    clear b hy hA5
    refine Gate.next (i := 2) (by kernel_rfl) rfl rfl (fun K hK => ?_)
    go_simp
    refine (rnum8 p.q y1 HQ.out).mono ?_; rintro e y2 ⟨v1, rfl, o1, b⟩
    obtain ⟨A1, c1, rfl, l, s⟩ := o1.form (octs_length p.q 8)
    have O5 := Lib.hid (O5.out.below b)
    have O1 := Lib.hid (o1.more (B' := w.heap.size) BY.out.size)
    have XS := Lib.hid (kept_below XS.out b)
    have BY : Hid (Below w.heap.size w y2) := bthen BY.out b
    clear b o1 l s
    refine hK _ _ (fun _ => XS.out) ?_
    clear hK K
    refine Gate.next (i := 5) (by kernel_rfl) rfl rfl (fun K hK => ?_)
    go_simp
    refine (rnum8 p.h y2 HH.out).mono ?_; rintro e y3 ⟨v2, rfl, o2, b⟩
    obtain ⟨A2, c2, rfl, l, s⟩ := o2.form (octs_length p.h 8)
    have O5 := Lib.hid (O5.out.below b)
    have O1 := Lib.hid (O1.out.below b)
    have O2 := Lib.hid (o2.more (B' := w.heap.size) BY.out.size)
    have XS := Lib.hid (kept_below XS.out b)
    have BY : Hid (Below w.heap.size w y3) := bthen BY.out b
    clear b o2 l s
    refine hK _ _ (fun _ => XS.out) ?_
    clear hK K
    refine Gate.next (i := 9) (by kernel_rfl) rfl rfl (fun K hK => ?_)
    go_simp
    refine (rnum2 N y3 HX.out).mono ?_; rintro e y4 ⟨v3, rfl, o3, b⟩
    obtain ⟨A3, c3, rfl, l, s⟩ := o3.form (octs_length N 2)
    have O5 := Lib.hid (O5.out.below b)
    have O1 := Lib.hid (O1.out.below b)
    have O2 := Lib.hid (O2.out.below b)
    have O3 := Lib.hid (o3.more (B' := w.heap.size) BY.out.size)
    have XS := Lib.hid (kept_below XS.out b)
    have BY : Hid (Below w.heap.size w y4) := bthen BY.out b
    clear b o3 l s
    refine hK _ _ (fun _ => XS.out) ?_
    clear hK K
    refine Gate.next (i := 12) (by kernel_rfl) rfl rfl (fun K hK => ?_)
    go_simp
    refine (rnum8 p.g y4 HG.out).mono ?_; rintro e y5 ⟨v4, rfl, o4, b⟩
    obtain ⟨A4, c4, rfl, l, s⟩ := o4.form (octs_length p.g 8)
    have O5 := Lib.hid (O5.out.below b)
    have O1 := Lib.hid (O1.out.below b)
    have O2 := Lib.hid (O2.out.below b)
    have O3 := Lib.hid (O3.out.below b)
    have O4 := Lib.hid (o4.more (B' := w.heap.size) BY.out.size)
    have XS := Lib.hid (kept_below XS.out b)
    have BY : Hid (Below w.heap.size w y5) := bthen BY.out b
    clear b o4 l s
    refine hK _ _ (fun _ => XS.out) ?_
    clear hK K
    refine Gate.next (i := 16) (by kernel_rfl) rfl rfl (fun K hK => ?_)
    go_simp
    refine hK _ _ (fun _ => kept_below XS.out (balloc _ _)) ?_
    clear hK K
    have JN := Lib.hid (join5 HT.out O1.out O2.out O3.out O4.out O5.out 25)
    have XS := Lib.hid (kept_below XS.out (balloc y5 (.cells #[.slice A1 8 c1, .slice A2 8 c2, .slice A3 2 c3, .slice A4 8 c4, .slice A5 1 1] 25)))
    have BY : Hid (Below w.heap.size w (y5.alloc (.cells #[.slice A1 8 c1, .slice A2 8 c2, .slice A3 2 c3, .slice A4 8 c4, .slice A5 1 1] 25))) := bthen BY.out (balloc _ _)
    refine Gate.next (i := 17) (by kernel_rfl) rfl rfl (fun K hK => ?_)
    go_simp
    refine JN.out.mono ?_; rintro e z1 ⟨v6, rfl, o6, b⟩
    obtain ⟨A6, c6, rfl, l6, s6⟩ := o6.form (pay_length p)
    have S6 := Lib.hid s6
    have XS := Lib.hid (kept_below XS.out b)
    have BY : Hid (Below w.heap.size w z1) := bthen BY.out b
    clear b o6 l6 s6
    refine hK _ _ (fun _ => XS.out) ?_
    clear hK K JN
    refine Gate.next (i := 18) (by kernel_rfl) rfl rfl (fun K hK => ?_)
    go_simp
    refine (rput_any A6 27 c6 (pay p) 2 z1 (by omega) S6.out).mono ?_; rintro e z2 ⟨v7, rfl, o7, b⟩
    rw [putE_pay]
    rw [putL_pay] at o7
    have O7 := Lib.hid (o7.more BY.out.size)
    have XS := Lib.hid (kept_below XS.out b)
    have BY : Hid (Below w.heap.size w z2) := bthen BY.out b
    clear b o7
    refine hK _ _ (fun _ => XS.out) ?_
    clear hK K
    refine Gate.fork (i := 19) (j := 20) (by kernel_rfl) rfl rfl rfl rfl (fun K hK => ?_) (fun K hK => ?_)
    · go_simp
      refine hK _ _ (fun _ => XS.out) ?_
      clear hK K
      refine Gate.next (i := 20) (by kernel_rfl) rfl rfl (fun K hK => ?_)
      go_simp
      refine hK _ _ (fun _ => XS.out) ?_
      clear hK K
      refine Gate.next (i := 21) (by kernel_rfl) rfl rfl (fun K hK => ?_)
      go_simp
      refine hK _ _ (fun _ => XS.out) ?_
      clear hK K
      refine Gate.next (i := 22) (by kernel_rfl) rfl rfl (fun K hK => ?_)
      go_simp
      refine hK _ _ (fun h => absurd rfl h) ?_
      clear hK K
      refine Gate.done (by kernel_rfl) ?_
      go_wp2
      go_ret2
      exact ⟨v7, rfl, O7.out, BY.out⟩
    · go_simp
      refine hK _ _ (fun _ => XS.out) ?_
      clear hK K
      refine Gate.next (i := 19) (by kernel_rfl) rfl rfl (fun K hK => ?_)
      go_simp
      refine hK _ _ (fun _ => XS.out) ?_
      clear hK K
      refine Gate.next (i := 21) (by kernel_rfl) rfl rfl (fun K hK => ?_)
      go_simp
      refine hK _ _ (fun _ => XS.out) ?_
      clear hK K
      refine Gate.next (i := 22) (by kernel_rfl) rfl rfl (fun K hK => ?_)
      go_simp
      refine hK _ _ (fun h => absurd rfl h) ?_
      clear hK K
      refine Gate.done (by kernel_rfl) ?_
      go_wp2
      go_ret2
      exact ⟨v7, rfl, O7.out, BY.out⟩
theorem rrput_any (p : Rc) (w : World) : Calls Tryd.prog 7 #[(.agg #[.int .u64 (p.q : Int), .int .u64 (p.h : Int), .int .i64 p.x, .int .u64 (p.g : Int), .int .u8 (p.m.toNat : Int)])] w (RPut w p) := by
  by_cases h : MayBe p
  · exact (rrput_ok p w h).mono fun e w' h2 => .inl ⟨h, h2⟩
  · exact (rrput_no p w h).mono fun e w' h2 => .inr ⟨h, h2⟩
end Go.Proofs.YtckjnplaceaalaaDoor.W
