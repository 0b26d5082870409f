/-
  What the frames of ListMakes and ListMoves ask of the walks. No conditions.
-/
import Derived.Test.YtngfhcapjonkcaaLsMoves
namespace Go.Proofs.Ytngfhcapjonkcaa.W
open Go.ChangeShapes Go.WideShapes Go.RowKit Go.Deep Rw Ls
set_option linter.unusedVariables false
theorem nat_u8' {n : Int} (h : (Lit.int .u8 n).wf = true) : ∃ x : Nat, n = (x : Int) ∧ x ≤ 255 := by
  simp [Lit.wf, IntKind.min, IntKind.max, IntKind.signed, IntKind.bits] at h
  exact ⟨n.toNat, by omega, by omega⟩
/-- an act by value, out of its reading -/
theorem act_arg {H : Type} {enc : TypeId × Value → H} {w : World} {base : Nat} {sp : Nat → Bool} {held : Bool} {cs : Array Value} {d : DataW H} {p : List MemPlace}
    (h : DataW.Trod enc Try.prog w base sp held 30 (.agg cs) d p) : ∃ a : ActV, cs = #[.int .i64 a.kind, .int .i64 a.list, .int .i64 a.node] := by
  obtain ⟨fuel, hf⟩ := h
  obtain ⟨a, ha⟩ := act_of hf
  refine ⟨a, ?_⟩
  apply Array.toList_inj.1
  simpa [Value.cells] using ha
theorem moves_law (W : World) (a0 : Int) (w0 : (Lit.int .u8 a0).wf = true) (D : Option Addr) (n c : Nat) (L : Nat → ActV) (hl : n ≤ c) (hm : c ≤ maxLen) (h : Acts W D n L) (a : ActV) :
    Calls Try.prog 5 #[.int .u8 a0, .slice D n c, .agg #[.int .i64 a.kind, .int .i64 a.list, .int .i64 a.node]] W fun e w' => e = .returned (.bool true) ∧ Below W.heap.size W w' := by
  obtain ⟨x, rfl, hx⟩ := nat_u8' w0
  exact moves_walk x hx D n c L a.kind a.list a.node W h
end Go.Proofs.Ytngfhcapjonkcaa.W
