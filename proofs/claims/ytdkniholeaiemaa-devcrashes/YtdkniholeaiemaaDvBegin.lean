/-
  Two devices on one power, and the document's: the contract of begin. No conditions.
-/
import Derived.Test.YtdkniholeaiemaaDvRnew
namespace Go.Proofs.Ytdkniholeaiemaa.W
open Go.RowKit Oc Dm
set_option linter.unusedVariables false
attribute [local go_sem ↓] Go.wp_at_zero Go.wp_at_succ
/-- the document's power behind a pointer -/
structure Qw (w : World) (q : Nat) (s : PS) : Prop where
  head : ∃ l : Int, w.heap[q]? = some (.cells #[.bool s.off, .bool s.fuse.isSome, .int .i64 l, .int .i64 (s.done : Int)] 80 (0, 0)) ∧ ∀ k, s.fuse = some k → l = (k : Int)
theorem Qw.heap {w w' : World} {q : Nat} {s : PS} (h : Qw w q s) (e : w'.heap[q]? = w.heap[q]?) : Qw w' q s := by
  obtain ⟨l, h1, h2⟩ := h.head
  exact ⟨l, e.trans h1, h2⟩
theorem Qw.lt {w : World} {q : Nat} {s : PS} (h : Qw w q s) : q < w.heap.size := by
  obtain ⟨l, h1, h2⟩ := h.head
  exact lt_of_heap h1
/-- the six pointers -/
def tc (p d0 d1 q e0 e1 : Option Nat) : Array Value := #[.pointer (p.map fun b => ⟨b, 0, none⟩), .pointer (d0.map fun b => ⟨b, 0, none⟩), .pointer (d1.map fun b => ⟨b, 0, none⟩), .pointer (q.map fun b => ⟨b, 0, none⟩), .pointer (e0.map fun b => ⟨b, 0, none⟩), .pointer (e1.map fun b => ⟨b, 0, none⟩)]
/-- what is had at first: five rows of blocks, one behind the other -/
structure Begun (w w' : World) (T p q D0 D1 E0 E1 a b x1 x2 x3 x4 : Nat) : Prop where
  head : w'.heap[T]? = some (.cells (tc (some p) (some D0) (some D1) (some q) (some E0) (some E1)) 41 (0, 0))
  pw : Pw w' p ⟨false, none, 0⟩
  qw : Qw w' q ⟨false, none, 0⟩
  d0 : Dv w' (fun k => T < k ∧ k < x1) D0 p a 0 (fun _ => sec0) 0 0
  d1 : Dv w' (fun k => x1 ≤ k ∧ k < x2) D1 p b 0 (fun _ => sec0) 0 0
  e0 : ∃ gs, RvAt w' (fun k => x2 ≤ k ∧ k < x3) E0 q a (fun _ => sec0) 0 0 gs nilv
  e1 : ∃ gs, RvAt w' (fun k => x3 ≤ k ∧ k < x4) E1 q b (fun _ => sec0) 0 0 gs nilv
  at_ : p = w.heap.size ∧ q = w.heap.size + 1 ∧ T = w.heap.size + 2 ∧ T < x1 ∧ x1 ≤ x2 ∧ x2 ≤ x3 ∧ x3 ≤ x4 ∧ x4 ≤ w'.heap.size
  below : Below w.heap.size w w'
set_option maxRecDepth 100000 in
set_option maxHeartbeats 8000000 in
theorem begin_any (w : World) (a b : Nat) (ha : a ≤ 4096) (hb : b ≤ 4096) : Calls Try.prog 7 #[.int .i64 (a : Int), .int .i64 (b : Int)] w fun e w' => ∃ T p q D0 D1 E0 E1 x1 x2 x3 x4, e = .returned (.tuple #[.pointer (some ⟨T, 0, none⟩), .bool true]) ∧ Begun w w' T p q D0 D1 E0 E1 a b x1 x2 x3 x4 := by
  go_enter Try.func7, Try.ntmps7
  go_wp2_with fail
  refine (newpower_any w).mono ?_; rintro e w1 ⟨rfl, p1, b1, z1⟩
  have P1 := Lib.hid p1
  have B1 := Lib.hid b1
  have Z1 := Lib.hid z1
  clear p1 b1 z1
  go_wp2_with fail
  have b2 : Below w1.heap.size w1 ((w1.alloc (.cells #[.bool false, .bool false, .int .i64 0, .int .i64 0] 80)).alloc (.cells #[.pointer (some ⟨w.heap.size, 0, none⟩), .pointer none, .pointer none, .pointer (some ⟨w1.heap.size, 0, none⟩), .pointer none, .pointer none] 41)) := (balloc w1 _).alloc (balloc w1 _).size _
  have P2 := Lib.hid (P1.out.heap (b2.block _ P1.out.lt))
  have B2 := Lib.hid (bthen B1.out b2)
  have Q2 : Hid (Qw ((w1.alloc (.cells #[.bool false, .bool false, .int .i64 0, .int .i64 0] 80)).alloc (.cells #[.pointer (some ⟨w.heap.size, 0, none⟩), .pointer none, .pointer none, .pointer (some ⟨w1.heap.size, 0, none⟩), .pointer none, .pointer none] 41)) w1.heap.size ⟨false, none, 0⟩) := Lib.hid ⟨0, heap_alloc_mid _ _ (heap_alloc_new w1 _), fun k e => by cases e⟩
  have T2 : Hid (((w1.alloc (.cells #[.bool false, .bool false, .int .i64 0, .int .i64 0] 80)).alloc (.cells #[.pointer (some ⟨w.heap.size, 0, none⟩), .pointer none, .pointer none, .pointer (some ⟨w1.heap.size, 0, none⟩), .pointer none, .pointer none] 41)).heap[w1.heap.size + 1]? = some (.cells #[.pointer (some ⟨w.heap.size, 0, none⟩), .pointer none, .pointer none, .pointer (some ⟨w1.heap.size, 0, none⟩), .pointer none, .pointer none] 41 (0, 0))) := Lib.hid (by have := heap_alloc_new (w1.alloc (.cells #[.bool false, .bool false, .int .i64 0, .int .i64 0] 80)) (.cells #[.pointer (some ⟨w.heap.size, 0, none⟩), .pointer none, .pointer none, .pointer (some ⟨w1.heap.size, 0, none⟩), .pointer none, .pointer none] 41 (0, 0)); simpa using this)
  have Z2 : Hid (((w1.alloc (.cells #[.bool false, .bool false, .int .i64 0, .int .i64 0] 80)).alloc (.cells #[.pointer (some ⟨w.heap.size, 0, none⟩), .pointer none, .pointer none, .pointer (some ⟨w1.heap.size, 0, none⟩), .pointer none, .pointer none] 41)).heap.size = w1.heap.size + 1 + 1) := Lib.hid (by simp)
  have hTq : Hid (w1.heap.size + 1 = w.heap.size + 2 ∧ w1.heap.size = w.heap.size + 1) := Lib.hid (by have := Z1.out; omega)
  generalize (w1.alloc (.cells #[.bool false, .bool false, .int .i64 0, .int .i64 0] 80)).alloc (.cells #[.pointer (some ⟨w.heap.size, 0, none⟩), .pointer none, .pointer none, .pointer (some ⟨w1.heap.size, 0, none⟩), .pointer none, .pointer none] 41) = w2 at P2 B2 Q2 T2 Z2 ⊢
  clear b2
  generalize w1.heap.size + 1 = T at T2 Z2 hTq ⊢
  generalize w1.heap.size = q at Q2 T2 hTq ⊢
  clear P1 B1 Z1
  refine (new_yes P2.out ha).mono ?_; rintro e w3 ⟨D0, fx0, m0, r0, rfl, hD0, d3, b3⟩
  have D3 := Lib.hid d3
  have P3 := Lib.hid (P2.out.heap (b3.block _ P2.out.lt))
  have Q3 := Lib.hid (Q2.out.heap (b3.block _ Q2.out.lt))
  have T3 := Lib.hid ((b3.block _ (lt_of_heap T2.out)).trans T2.out)
  have B3 := Lib.hid (bthen B2.out b3)
  have Z3 := Lib.hid b3.size
  clear hD0 d3 b3
  have t0 : w3.cell? ⟨T, 0, none⟩ = some (.pointer (some ⟨w.heap.size, 0, none⟩)) := by rw [cell_of_row w3 T _ _ _ (0, 0) T3.out]; rfl
  go_wp2_with fail
  refine (new_yes P3.out hb).mono ?_; rintro e w4 ⟨D1, fx1, m1, r1, rfl, hD1, d4, b4⟩
  have D4 := Lib.hid d4
  have D40 := Lib.hid (D3.out.below b4)
  have P4 := Lib.hid (P3.out.heap (b4.block _ P3.out.lt))
  have Q4 := Lib.hid (Q3.out.heap (b4.block _ Q3.out.lt))
  have T4 := Lib.hid ((b4.block _ (lt_of_heap T3.out)).trans T3.out)
  have B4 := Lib.hid (bthen B3.out b4)
  have Z4 := Lib.hid b4.size
  clear hD1 d4 b4 t0
  have t1 : w4.cell? ⟨T, 1, none⟩ = some (.pointer none) := by rw [cell_of_row w4 T _ _ _ (0, 0) T4.out]; rfl
  have t2 : w4.cell? ⟨T, 2, none⟩ = some (.pointer none) := by rw [cell_of_row w4 T _ _ _ (0, 0) T4.out]; rfl
  have t3 : w4.cell? ⟨T, 3, none⟩ = some (.pointer (some ⟨q, 0, none⟩)) := by rw [cell_of_row w4 T _ _ _ (0, 0) T4.out]; rfl
  have tf : ∀ i, w4.frozen? ⟨T, i, none⟩ = false := fun i => frozen_of_row w4 T i _ _ T4.out
  have g5 : w4.grownBy ((w4.setCell ⟨T, 1, none⟩ (.pointer (some ⟨D0, 0, none⟩))).setCell ⟨T, 2, none⟩ (.pointer (some ⟨D1, 0, none⟩))) (some T) := grown2 (grown_cell ..) (grown_cell ..)
  have hTw : w.heap.size < T ∧ q < T ∧ w.heap.size < q := by have := hTq.out; omega
  have T5 : Hid (((w4.setCell ⟨T, 1, none⟩ (.pointer (some ⟨D0, 0, none⟩))).setCell ⟨T, 2, none⟩ (.pointer (some ⟨D1, 0, none⟩))).heap[T]? = some (.cells #[.pointer (some ⟨w.heap.size, 0, none⟩), .pointer (some ⟨D0, 0, none⟩), .pointer (some ⟨D1, 0, none⟩), .pointer (some ⟨q, 0, none⟩), .pointer none, .pointer none] 41 (0, 0))) := Lib.hid (by rw [heap_setCell_same _ _ _ _ _ _ (heap_setCell_same _ _ _ _ _ _ T4.out)]; rfl)
  have D50 := Lib.hid (D40.out.kept (G := fun k => k = T) (Chg.of_grown g5 (fun k e _ => by injection e with e; exact e.symm)) (fun k x e => by have := x.1; have := Z2.out; omega))
  have D51 := Lib.hid (D4.out.kept (G := fun k => k = T) (Chg.of_grown g5 (fun k e _ => by injection e with e; exact e.symm)) (fun k x e => by have := x.1; have := Z2.out; have := Z3.out; omega))
  have P5 := Lib.hid (P4.out.heap (g5.block _ P4.out.lt (fun e => by injection e with e; omega)))
  have Q5 := Lib.hid (Q4.out.heap (g5.block _ Q4.out.lt (fun e => by injection e with e; omega)))
  have B5 := Lib.hid (B4.out.grown g5 B4.out.size (fun k e => by injection e with e; omega))
  have Z5 := Lib.hid g5.size
  have HTW := Lib.hid hTw
  clear hTw g5
  go_wp2_with fail
  generalize (w4.setCell ⟨T, 1, none⟩ (.pointer (some ⟨D0, 0, none⟩))).setCell ⟨T, 2, none⟩ (.pointer (some ⟨D1, 0, none⟩)) = w5 at T5 D50 D51 P5 Q5 B5 Z5 ⊢
  clear t1 t2 t3 tf
  have t3 : w5.cell? ⟨T, 3, none⟩ = some (.pointer (some ⟨q, 0, none⟩)) := by rw [cell_of_row w5 T _ _ _ (0, 0) T5.out]; rfl
  have t4 : w5.cell? ⟨T, 4, none⟩ = some (.pointer none) := by rw [cell_of_row w5 T _ _ _ (0, 0) T5.out]; rfl
  have tf : w5.frozen? ⟨T, 4, none⟩ = false := frozen_of_row w5 T 4 _ _ T5.out
  have TL := Lib.hid (lt_of_heap T5.out)
  go_region_held (fun w' => w'.cell? ⟨T, 3, none⟩ = some (.pointer (some ⟨q, 0, none⟩))) (first | go_keep | exact (BB6.out.cell (p := ⟨T, 3, none⟩) TL.out).trans t3 | exact (cell_of_row _ _ _ _ _ (0, 0) (heap_setCell_same _ _ _ _ _ _ T6.out)).trans rfl) (first | (go_at_call 30; (with_reducible refine (rnew_any _ a q ha).mono ?_); rintro e w6 ⟨E0, gs0, rfl, hE0, rv6, b6⟩; have BB6 := Lib.hid (below_of_drew b6); have RV6 := Lib.hid rv6; have T6 := Lib.hid ((BB6.out.block _ TL.out).trans T5.out); have u4 : w6.cell? ⟨T, 4, none⟩ = some (.pointer none) := (BB6.out.cell (p := ⟨T, 4, none⟩) TL.out).trans t4; have uf : w6.frozen? ⟨T, 4, none⟩ = false := (BB6.out.frozen (p := ⟨T, 4, none⟩) TL.out).trans tf; clear hE0 rv6 b6))
  all_goals
    have hTl := lt_of_heap T6.out
    have g7 := grown_cell w6 T 4 (.pointer (some ⟨E0, 0, none⟩))
    have hTw := HTW.out
    have T7 : Hid ((w6.setCell ⟨T, 4, none⟩ (.pointer (some ⟨E0, 0, none⟩))).heap[T]? = some (.cells #[.pointer (some ⟨w.heap.size, 0, none⟩), .pointer (some ⟨D0, 0, none⟩), .pointer (some ⟨D1, 0, none⟩), .pointer (some ⟨q, 0, none⟩), .pointer (some ⟨E0, 0, none⟩), .pointer none] 41 (0, 0))) := Lib.hid (by rw [heap_setCell_same _ _ _ _ _ _ T6.out]; rfl)
    have C7 : Chg (fun k => k = T) w5 (w6.setCell ⟨T, 4, none⟩ (.pointer (some ⟨E0, 0, none⟩))) := (Chg.of_below (F := fun k => k = T) BB6.out).trans (Chg.of_grown (F := fun k => k = T) g7 (fun k e _ => by injection e with e; exact e.symm)) (fun _ _ x => x)
    have D70 := Lib.hid (D50.out.kept C7 (fun k x e => by have := x.1; have := Z2.out; omega))
    have D71 := Lib.hid (D51.out.kept C7 (fun k x e => by have := x.1; have := Z2.out; have := Z3.out; omega))
    have P7 := Lib.hid (P5.out.heap (C7.block _ P5.out.lt (fun e => by omega)))
    have Q7 := Lib.hid (Q5.out.heap (C7.block _ Q5.out.lt (fun e => by omega)))
    have R7 := Lib.hid (RV6.out.kept (F := fun k => k = T) (Chg.of_grown g7 (fun k e _ => by injection e with e; exact e.symm)) (fun k x e => by have h1 : w5.heap.size ≤ k := x.1; have := TL.out; omega))
    have B7 := Lib.hid (show Below w.heap.size w (w6.setCell ⟨T, 4, none⟩ (.pointer (some ⟨E0, 0, none⟩))) from chg_below B5.out C7 (fun k e => by omega))
    have Z7 := Lib.hid (show w6.heap.size = (w6.setCell ⟨T, 4, none⟩ (.pointer (some ⟨E0, 0, none⟩))).heap.size from (size_cell ..).symm)
    have Z6 := Lib.hid BB6.out.size
    clear hTl g7 hTw C7 t3 t4 tf u4 uf
    go_wp2_with fail
    generalize w6.setCell ⟨T, 4, none⟩ (.pointer (some ⟨E0, 0, none⟩)) = w7 at T7 D70 D71 P7 Q7 R7 B7 Z7 ⊢
    have t3 : w7.cell? ⟨T, 3, none⟩ = some (.pointer (some ⟨q, 0, none⟩)) := by rw [cell_of_row w7 T _ _ _ (0, 0) T7.out]; rfl
    have t5 : w7.cell? ⟨T, 5, none⟩ = some (.pointer none) := by rw [cell_of_row w7 T _ _ _ (0, 0) T7.out]; rfl
    have tf : w7.frozen? ⟨T, 5, none⟩ = false := frozen_of_row w7 T 5 _ _ T7.out
    have TL7 := Lib.hid (lt_of_heap T7.out)
    go_region_held (fun w' => w'.cell? ⟨T, 3, none⟩ = some (.pointer (some ⟨q, 0, none⟩))) (first | go_keep | exact (BB8.out.cell (p := ⟨T, 3, none⟩) TL7.out).trans t3 | exact (cell_of_row _ _ _ _ _ (0, 0) (heap_setCell_same _ _ _ _ _ _ T8.out)).trans rfl) (first | (go_at_call 30; (with_reducible refine (rnew_any _ b q hb).mono ?_); rintro e w8 ⟨E1, gs1, rfl, hE1, rv8, b8⟩; have BB8 := Lib.hid (below_of_drew b8); have RV8 := Lib.hid rv8; have T8 := Lib.hid ((BB8.out.block _ TL7.out).trans T7.out); have u5 : w8.cell? ⟨T, 5, none⟩ = some (.pointer none) := (BB8.out.cell (p := ⟨T, 5, none⟩) TL7.out).trans t5; have uf : w8.frozen? ⟨T, 5, none⟩ = false := (BB8.out.frozen (p := ⟨T, 5, none⟩) TL7.out).trans tf; clear hE1 rv8 b8))
    all_goals
      have g9 := grown_cell w8 T 5 (.pointer (some ⟨E1, 0, none⟩))
      have hTw := HTW.out
      have T9 : Hid ((w8.setCell ⟨T, 5, none⟩ (.pointer (some ⟨E1, 0, none⟩))).heap[T]? = some (.cells #[.pointer (some ⟨w.heap.size, 0, none⟩), .pointer (some ⟨D0, 0, none⟩), .pointer (some ⟨D1, 0, none⟩), .pointer (some ⟨q, 0, none⟩), .pointer (some ⟨E0, 0, none⟩), .pointer (some ⟨E1, 0, none⟩)] 41 (0, 0))) := Lib.hid (by rw [heap_setCell_same _ _ _ _ _ _ T8.out]; rfl)
      have C9 : Chg (fun k => k = T) w7 (w8.setCell ⟨T, 5, none⟩ (.pointer (some ⟨E1, 0, none⟩))) := (Chg.of_below (F := fun k => k = T) BB8.out).trans (Chg.of_grown (F := fun k => k = T) g9 (fun k e _ => by injection e with e; exact e.symm)) (fun _ _ x => x)
      have z9 : (w8.setCell ⟨T, 5, none⟩ (.pointer (some ⟨E1, 0, none⟩))).heap.size = w8.heap.size := size_cell ..
      have z2 := Z2.out
      have z3 := Z3.out
      have z4 := Z4.out
      have z5 := Z5.out
      have z6 := Z6.out
      have z7 := Z7.out
      have z8 := BB8.out.size
      have tl := TL.out
      have D90 := Lib.hid (D70.out.kept C9 (fun k x e => by have := x.1; omega))
      have D91 := Lib.hid (D71.out.kept C9 (fun k x e => by have := x.1; omega))
      have P9 := Lib.hid (P7.out.heap (C9.block _ P7.out.lt (fun e => by omega)))
      have Q9 := Lib.hid (Q7.out.heap (C9.block _ Q7.out.lt (fun e => by omega)))
      have R90 := Lib.hid (R7.out.kept C9 (fun k x e => by have h1 : w5.heap.size ≤ k := x.1; omega))
      have R91 := Lib.hid (RV8.out.kept (F := fun k => k = T) (Chg.of_grown g9 (fun k e _ => by injection e with e; exact e.symm)) (fun k x e => by have h1 : w7.heap.size ≤ k := x.1; omega))
      have B9 := Lib.hid (show Below w.heap.size w (w8.setCell ⟨T, 5, none⟩ (.pointer (some ⟨E1, 0, none⟩))) from chg_below B7.out C9 (fun k e => by omega))
      have HB : Hid (Begun w (w8.setCell ⟨T, 5, none⟩ (.pointer (some ⟨E1, 0, none⟩))) T w.heap.size q D0 D1 E0 E1 a b w3.heap.size w4.heap.size w6.heap.size w8.heap.size) := Lib.hid {
        head := T9.out
        pw := P9.out
        qw := Q9.out
        d0 := ⟨_, _, _, _, D90.out.frame (fun k x => ⟨by have := x.1; omega, x.2⟩) (fun k x => by have := x.2; omega) (fun _ _ => rfl)⟩
        d1 := ⟨_, _, _, _, D91.out.frame (fun k x => ⟨by have := x.1; omega, x.2⟩) (fun k x => by have := x.2; omega) (fun _ _ => rfl)⟩
        e0 := ⟨_, R90.out.frame (fun k x => ⟨by have h1 : w5.heap.size ≤ k := x.1; omega, x.2⟩) (fun k x => by have := x.2; omega) (fun _ _ => rfl)⟩
        e1 := ⟨_, R91.out.frame (fun k x => ⟨by have h1 : w7.heap.size ≤ k := x.1; omega, x.2⟩) (fun k x => by have := x.2; omega) (fun _ _ => rfl)⟩
        at_ := by have := hTq.out; refine ⟨rfl, ?_, ?_, ?_, ?_, ?_, ?_, ?_⟩ <;> omega
        below := B9.out }
      clear g9 hTw C9 z9 z2 z3 z4 z5 z6 z7 z8 tl t3 t5 tf u5 uf
      have t0 : (w8.setCell ⟨T, 5, none⟩ (.pointer (some ⟨E1, 0, none⟩))).cell? ⟨T, 0, none⟩ = some (.pointer (some ⟨w.heap.size, 0, none⟩)) := by rw [cell_of_row _ T _ _ _ (0, 0) T9.out]; rfl
      generalize w8.setCell ⟨T, 5, none⟩ (.pointer (some ⟨E1, 0, none⟩)) = w9 at HB t0 ⊢
      go_wp2
      go_ret2
      exact ⟨T, _, q, D0, D1, E0, E1, _, _, _, _, rfl, HB.out⟩
end Go.Proofs.Ytdkniholeaiemaa.W
