/-
  The page's example (awake); lists of acts that came in. No conditions.
-/
import Derived.Test.YtngfhcapjonkcaaLsSame
import Derived.ProofKit
import Derived.OpenShut
import Derived.Deep.Slices
import Derived.Deep.Fields
import Derived.ChangeSame
namespace Go.Proofs.Ytngfhcapjonkcaa.W
open Go.ChangeShapes Go.WideShapes Go.RowKit Go.Deep Rw Ls
set_option linter.unusedVariables false

section
variable {w : World} {R g1 g2 : Nat}
theorem ex_new (w : World) : Calls Try.prog 6 #[.int .i64 3, .int .i64 1] w (Opened w 3 1) := new_any 3 1 w (by decide) (by decide)
theorem ex_push (h : Rows w R g1 g2 3 [[]]) : Calls Try.prog 8 #[.pointer (some ⟨R, 0, none⟩), .int .i64 0, .int .i64 0] w (Moved w R g1 g2 3 [[0]] (.bool true)) := push_yes h 0 0 (by decide) (by decide)
theorem ex_push2 (h : Rows w R g1 g2 3 [[0]]) : Calls Try.prog 8 #[.pointer (some ⟨R, 0, none⟩), .int .i64 0, .int .i64 1] w (Moved w R g1 g2 3 [[1, 0]] (.bool true)) := push_yes h 0 1 (by decide) (by decide)
theorem ex_app (h : Rows w R g1 g2 3 [[1, 0]]) : Calls Try.prog 10 #[.pointer (some ⟨R, 0, none⟩), .int .i64 0, .int .i64 2] w (Moved w R g1 g2 3 [[1, 0, 2]] (.bool true)) := append_yes h 0 2 (by decide) (by decide)
theorem ex_all (h : Rows w R g1 g2 3 [[1, 0, 2]]) : Calls Try.prog 20 #[.pointer (some ⟨R, 0, none⟩), .int .i64 0] w (MadeV w (nv [1, 0, 2])) := all_row h 0 (by decide)
end
theorem sl_lit (w : World) : Sl (w.alloc (.cells #[.int .i64 1, .int .i64 0, .int .i64 2] 3)) (some ⟨w.heap.size, 0, none⟩) 3 (nv [1, 0, 2]) := by
  refine ⟨rfl, fun _ => ⟨_, _, rfl, fun j y hy => ?_⟩⟩
  rw [Nat.zero_add, cell_of_row _ _ _ _ _ _ (heap_alloc_new w _)]
  exact (List.getElem?_toArray ..).trans hy
set_option maxHeartbeats 2000000 in
theorem awake_any (w : World) : Calls Try.prog 15 #[] w fun e w' => e = .returned (.bool true) ∧ Below w.heap.size w w' := by
  go_enter Try.func15, Try.ntmps15
  go_wp2_with fail
  refine (ex_new _).mono ?_; rintro e w1 ⟨R, g1, g2, rfl, x1, hR, h1, h2, b1⟩
  have X1 := Lib.hid x1
  have B1 := Lib.hid b1
  have HG := Lib.hid (And.intro h1 h2)
  clear x1 b1 h1 h2 hR
  go_wp2_with fail
  refine (ex_push X1.out).mono ?_; rintro e w2 ⟨rfl, x2, t2⟩
  have X2 := Lib.hid x2
  have B2 : Hid (Below w.heap.size w w2) := t2.under B1.out B1.out.size HG.out.1 HG.out.2
  clear x2 t2
  go_wp2_with fail
  refine (ex_push2 X2.out).mono ?_; rintro e w3 ⟨rfl, x3, t3⟩
  have X3 := Lib.hid x3
  have B3 : Hid (Below w.heap.size w w3) := t3.under B2.out B2.out.size HG.out.1 HG.out.2
  clear x3 t3
  go_wp2_with fail
  refine (ex_app X3.out).mono ?_; rintro e w4 ⟨rfl, x4, t4⟩
  have X4 := Lib.hid x4
  have B4 : Hid (Below w.heap.size w w4) := t4.under B3.out B3.out.size HG.out.1 HG.out.2
  clear x4 t4
  go_wp2_with fail
  refine (ex_all X4.out).mono ?_; rintro e w5 ⟨v5, rfl, o5, b5⟩
  obtain ⟨A5, c5, rfl, _, _, s5⟩ := o5.form (n := 3) rfl
  have S5 := Lib.hid s5
  have X5 := Lib.hid (X4.out.below b5)
  have B5 := Lib.hid (then_below B4.out b5)
  clear o5 b5 s5
  go_wp2_with fail
  refine (same_yes _ _ 3 c5 3 [1, 0, 2] _ rfl (by decide) (S5.out.alloc _) (sl_lit w5)).mono ?_; rintro e w6 ⟨rfl, b6⟩
  have BA : Hid (Below w5.heap.size w5 (w5.alloc (.cells #[.int .i64 1, .int .i64 0, .int .i64 2] 3))) := (Below.refl _ _).alloc (Nat.le_refl _) _
  have B6 := Lib.hid (then_below (then_below B5.out BA.out) b6)
  have X6 := Lib.hid ((X5.out.below BA.out).below b6)
  clear b6 BA
  go_wp2_with fail
  refine (right_any X6.out).mono ?_; rintro e w7 ⟨rfl, b7⟩
  have B7 := Lib.hid (then_below B6.out b7)
  clear b7
  go_wp2
  go_ret
  exact ⟨rfl, B7.out⟩

/-- an act: its kind, its list, its node -/
structure ActV where
  kind : Int
  list : Int
  node : Int
/-- an act's cells, the first at p -/
def ActAt (w : World) (b p : Nat) (a : ActV) : Prop :=
  w.cell? ⟨b, p, none⟩ = some (.int .i64 a.kind) ∧ w.cell? ⟨b, p + 1, none⟩ = some (.int .i64 a.list) ∧ w.cell? ⟨b, p + 2, none⟩ = some (.int .i64 a.node)
/-- the slice at A reads as the first n acts of L -/
def Acts (w : World) (A : Option Addr) (n : Nat) (L : Nat → ActV) : Prop := ∀ i, i < n → ∃ b off, A = some ⟨b, off, none⟩ ∧ ActAt w b (off + i * 3) (L i)
theorem Acts.below {w w' : World} {A : Option Addr} {n : Nat} {L : Nat → ActV} (h : Acts w A n L) (hb : Below w.heap.size w w') : Acts w' A n L := by
  intro i hi
  obtain ⟨b, off, e, h0, h1, h2⟩ := h i hi
  have hlt : b < w.heap.size := World.block_lt_of_cell? w _ h0
  refine ⟨b, off, e, ?_, ?_, ?_⟩
  · rw [hb.cell (p := ⟨b, _, none⟩) hlt]; exact h0
  · rw [hb.cell (p := ⟨b, _, none⟩) hlt]; exact h1
  · rw [hb.cell (p := ⟨b, _, none⟩) hlt]; exact h2

theorem act_one : oneCellFields Try.prog (match Try.prog.underlying 30 with | some (.struct fs) => fs | _ => #[]) = true := by kernel_rfl
theorem act_cells : Try.prog.cellsOf 30 = 3 := by kernel_rfl
/-- one act out of its reading -/
theorem act_of {H : Type} {enc : TypeId × Value → H} {w : World} {base : Nat} {sp : Nat → Bool} {held : Bool} {fuel : Nat} {cs : List Value} {x : DataW H × List MemPlace}
    (h : DataW.trod enc Try.prog w base sp held fuel 30 cs = some x) : ∃ a : ActV, cs = [.int .i64 a.kind, .int .i64 a.list, .int .i64 a.node] := by
  obtain ⟨ys, m, _, _, hl, hyl, hf⟩ := DataW.trod_struct Try.underlying30 h
  rw [act_cells] at hl
  match cs, hl with
  | [v0, v1, v2], _ =>
    have hys : ys.length = 3 := hyl
    have get : ∀ (j : Nat) (f : Field), (match Try.prog.underlying 30 with | some (.struct fs) => fs | _ => #[])[j]? = some f → f.offset = j ∧ Try.prog.cellsOf f.type = 1 := hone_of act_one
    rw [Try.underlying30] at get
    have one : ∀ (j : Nat) (hj : j < 3) (f : Field), _ → DataW.trod enc Try.prog w base sp held m f.type ((([v0, v1, v2] : List Value).drop j).take 1) = some (ys[j]'(by omega)) := fun j hj f hjf => by
      have h1 := hf j f hjf
      obtain ⟨o, k⟩ := get j f hjf
      rw [o, k, List.getElem?_eq_getElem (by omega)] at h1
      exact h1
    obtain ⟨z0, e0, _, _⟩ := DataW.trod_int Try.underlying3 (one 0 (by omega) _ rfl)
    obtain ⟨z1, e1, _, _⟩ := DataW.trod_int Try.underlying3 (one 1 (by omega) _ rfl)
    obtain ⟨z2, e2, _, _⟩ := DataW.trod_int Try.underlying3 (one 2 (by omega) _ rfl)
    simp at e0 e1 e2
    exact ⟨⟨z0, z1, z2⟩, by simp [e0, e1, e2]⟩

theorem open_acts {H : Type} {enc : TypeId × Value → H} {w : World} {a : Option Addr} {len cap : Nat} {d : DataW H} {p : List MemPlace} {base : Nat} {sp : Nat → Bool} {held : Bool}
    (h : DataW.Trod enc Try.prog w base sp held 22 (.slice a len cap) d p) : len ≤ cap ∧ cap ≤ maxLen ∧ ∃ L, Acts w a len L := by
  obtain ⟨fuel, hf⟩ := h
  rcases open_slice Try.underlying22 hf with ⟨hcs, _⟩ | ⟨x, l, c, m, n', D, Pl, hcs, _, hl, hm, hmm, _, hx⟩
  · simp [Value.cells] at hcs
    obtain ⟨rfl, rfl, rfl⟩ := hcs
    exact ⟨Nat.le_refl _, by decide, fun _ => ⟨0, 0, 0⟩, fun i hi => by omega⟩
  · simp [Value.cells] at hcs
    obtain ⟨rfl, rfl, rfl⟩ := hcs
    refine ⟨hl, hm, ?_⟩
    have hlm : len ≤ m := by rw [hmm]; split <;> omega
    have each : ∀ i, ∃ v : ActV, i < len → ∃ b off, some x = some ⟨b, off, none⟩ ∧ ActAt w b (off + i * 3) v := by
      intro i
      by_cases hi : i < len
      · obtain ⟨cs', hc, ht⟩ := hx i (by omega)
        rw [act_cells] at hc
        obtain ⟨v, rfl⟩ := act_of ht
        obtain ⟨_, _, hat⟩ := World.cells?_some hc
        have c0 := hat 0 (by omega)
        have c1 := hat 1 (by omega)
        have c2 := hat 2 (by omega)
        obtain ⟨b, off, spot⟩ := x
        have hspot : spot = none := by
          obtain ⟨cs2, hc2, ht2⟩ := hx 0 (by omega)
          rw [act_cells] at hc2
          obtain ⟨v2, rfl⟩ := act_of ht2
          obtain ⟨_, _, hat2⟩ := World.cells?_some hc2
          have := World.cell?_spot (hat2 0 (by omega))
          simpa [Addr.add] using this
        subst hspot
        refine ⟨v, fun _ => ⟨b, off, rfl, ?_⟩⟩
        rw [Go.WideShapes.add_plain] at c0 c1 c2
        rw [Go.WideShapes.add_plain] at c0 c1 c2
        exact ⟨c0, c1, c2⟩
      · exact ⟨⟨0, 0, 0⟩, fun h => absurd h hi⟩
    exact ⟨fun i => Classical.choose (each i), fun i hi => Classical.choose_spec (each i) hi⟩
end Go.Proofs.Ytngfhcapjonkcaa.W
