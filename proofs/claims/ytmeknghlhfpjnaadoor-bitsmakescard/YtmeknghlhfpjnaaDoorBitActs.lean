/-
  Lists of acts that came in. No conditions.
-/
import Derived.Test.YtmeknghlhfpjnaaDoorBitSame
import Derived.ProofKit
import Derived.OpenShut
import Derived.Deep.Slices
import Derived.Deep.Fields
import Derived.ChangeSame
namespace Go.Proofs.YtmeknghlhfpjnaaDoor.W
open Go.ChangeShapes Go.WideShapes Go.RowKit Go.Deep Bt Rw
set_option linter.unusedVariables false

/-- an act: its kind, its number -/
structure ActV where
  kind : Int
  i : Int

/-- an act's cells, the first at p -/
def ActAt (w : World) (b p : Nat) (a : ActV) : Prop :=
  w.cell? ⟨b, p, none⟩ = some (.int .i64 a.kind) ∧ w.cell? ⟨b, p + 1, none⟩ = some (.int .i64 a.i)

/-- the slice at A reads as the first n acts of L -/
def Acts (w : World) (A : Option Addr) (n : Nat) (L : Nat → ActV) : Prop := ∀ i, i < n → ∃ b off, A = some ⟨b, off, none⟩ ∧ ActAt w b (off + i * 2) (L i)

theorem Acts.below {w w' : World} {A : Option Addr} {n : Nat} {L : Nat → ActV} (h : Acts w A n L) (hb : Below w.heap.size w w') : Acts w' A n L := by
  intro i hi
  obtain ⟨b, off, e, h0, h1⟩ := h i hi
  have hlt : b < w.heap.size := World.block_lt_of_cell? w _ h0
  refine ⟨b, off, e, ?_, ?_⟩
  · rw [hb.cell (p := ⟨b, _, none⟩) hlt]; exact h0
  · rw [hb.cell (p := ⟨b, _, none⟩) hlt]; exact h1

theorem act_one : oneCellFields Tryd.prog (match Tryd.prog.underlying 47 with | some (.struct fs) => fs | _ => #[]) = true := by kernel_rfl
theorem act_cells : Tryd.prog.cellsOf 47 = 2 := by kernel_rfl
/-- one act out of its reading -/
theorem act_of {H : Type} {enc : TypeId × Value → H} {w : World} {base : Nat} {sp : Nat → Bool} {held : Bool} {fuel : Nat} {cs : List Value} {x : DataW H × List MemPlace}
    (h : DataW.trod enc Tryd.prog w base sp held fuel 47 cs = some x) : ∃ a : ActV, cs = [.int .i64 a.kind, .int .i64 a.i] := by
  obtain ⟨ys, m, _, _, hl, hyl, hf⟩ := DataW.trod_struct Tryd.underlying47 h
  rw [act_cells] at hl
  match cs, hl with
  | [v0, v1], _ =>
    have hys : ys.length = 2 := hyl
    have get : ∀ (j : Nat) (f : Field), (match Tryd.prog.underlying 47 with | some (.struct fs) => fs | _ => #[])[j]? = some f → f.offset = j ∧ Tryd.prog.cellsOf f.type = 1 := hone_of act_one
    rw [Tryd.underlying47] at get
    have one : ∀ (j : Nat) (hj : j < 2) (f : Field), _ → DataW.trod enc Tryd.prog w base sp held m f.type ((([v0, v1] : List Value).drop j).take 1) = some (ys[j]'(by omega)) := fun j hj f hjf => by
      have h1 := hf j f hjf
      obtain ⟨o, k⟩ := get j f hjf
      rw [o, k, List.getElem?_eq_getElem (by omega)] at h1
      exact h1
    obtain ⟨z0, e0, _, _⟩ := DataW.trod_int Tryd.underlying3 (one 0 (by omega) _ rfl)
    obtain ⟨z1, e1, _, _⟩ := DataW.trod_int Tryd.underlying3 (one 1 (by omega) _ rfl)
    simp at e0 e1
    exact ⟨⟨z0, z1⟩, by simp [e0, e1]⟩

theorem open_acts {H : Type} {enc : TypeId × Value → H} {w : World} {a : Option Addr} {len cap : Nat} {d : DataW H} {p : List MemPlace} {base : Nat} {sp : Nat → Bool} {held : Bool}
    (h : DataW.Trod enc Tryd.prog w base sp held 22 (.slice a len cap) d p) : len ≤ cap ∧ cap ≤ maxLen ∧ ∃ L, Acts w a len L := by
  obtain ⟨fuel, hf⟩ := h
  rcases open_slice Tryd.underlying22 hf with ⟨hcs, _⟩ | ⟨x, l, c, m, n', D, Pl, hcs, _, hl, hm, hmm, _, hx⟩
  · simp [Value.cells] at hcs
    obtain ⟨rfl, rfl, rfl⟩ := hcs
    exact ⟨Nat.le_refl _, by decide, fun _ => ⟨0, 0⟩, fun i hi => by omega⟩
  · simp [Value.cells] at hcs
    obtain ⟨rfl, rfl, rfl⟩ := hcs
    refine ⟨hl, hm, ?_⟩
    have hlm : len ≤ m := by rw [hmm]; split <;> omega
    have each : ∀ i, ∃ v : ActV, i < len → ∃ b off, some x = some ⟨b, off, none⟩ ∧ ActAt w b (off + i * 2) v := by
      intro i
      by_cases hi : i < len
      · obtain ⟨cs', hc, ht⟩ := hx i (by omega)
        rw [act_cells] at hc
        obtain ⟨v, rfl⟩ := act_of ht
        obtain ⟨_, _, hat⟩ := World.cells?_some hc
        have c0 := hat 0 (by omega)
        have c1 := hat 1 (by omega)
        obtain ⟨b, off, spot⟩ := x
        have hspot : spot = none := by
          obtain ⟨cs2, hc2, ht2⟩ := hx 0 (by omega)
          rw [act_cells] at hc2
          obtain ⟨v2, rfl⟩ := act_of ht2
          obtain ⟨_, _, hat2⟩ := World.cells?_some hc2
          have := World.cell?_spot (hat2 0 (by omega))
          simpa [Addr.add] using this
        subst hspot
        refine ⟨v, fun _ => ⟨b, off, rfl, ?_⟩⟩
        rw [Go.WideShapes.add_plain] at c0 c1
        rw [Go.WideShapes.add_plain] at c0 c1
        exact ⟨c0, c1⟩
      · exact ⟨⟨0, 0⟩, fun h => absurd h hi⟩
    exact ⟨fun i => Classical.choose (each i), fun i hi => Classical.choose_spec (each i) hi⟩
end Go.Proofs.YtmeknghlhfpjnaaDoor.W
