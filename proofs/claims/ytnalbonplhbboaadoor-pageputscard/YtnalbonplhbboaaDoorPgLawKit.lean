/-
  What the statements of this layer open their inputs by: slices of octets, the table of four halvings. No conditions.
-/
import Derived.Test.YtnalbonplhbboaaDoorRows
import Derived.Test.YtnalbonplhbboaaDoorPgAwake
import Derived.WalkKit
import Derived.ProofKit
import Derived.OpenShut
import Derived.ShutString
import Derived.ChangeOld
import Derived.Below
import Derived.Deep.DeepHandedRow
import Derived.Deep.DeepWitnessRowRef
import Derived.Lib.LaidTab
import Derived.MakeChecks
namespace Go.Proofs.YtnalbonplhbboaaDoor.W
open Go.ChangeShapes Go.WideShapes Go.ChangeAt Go.RowKit Oc
set_option linter.unusedVariables false

theorem own : ownKnob Tryd.prog.godebug = none := by kernel_rfl
theorem laidOut : laidOutB Tryd.prog = true := by kernel_rfl

/-- octets that came in -/
theorem open_octs {H : Type} {enc : TypeId × Value → H} {w : World} {a : Option Addr} {len cap : Nat} {d : DataW H} {p : List MemPlace} {base : Nat} {sp : Nat → Bool} {held : Bool}
    (h : DataW.Trod enc Tryd.prog w base sp held 22 (.slice a len cap) d p) : len ≤ cap ∧ cap ≤ maxLen ∧ ∃ xs, Oct w a len xs := by
  obtain ⟨fuel, hf⟩ := h
  rcases open_ints Tryd.underlying22 Tryd.underlying5 (by kernel_rfl) hf with ⟨hcs, _⟩ | ⟨x, l, c, zs, hcs, _, hl, hm, hz, _, hcell, hwz⟩
  · simp [Value.cells] at hcs
    obtain ⟨rfl, rfl, rfl⟩ := hcs
    exact ⟨Nat.le_refl _, by decide, [], Oct.nil _ _⟩
  · simp [Value.cells] at hcs
    obtain ⟨rfl, rfl, rfl⟩ := hcs
    have hz' : len ≤ zs.length := by split at hz <;> omega
    refine ⟨hl, hm, (zs.take len).map fun z => UInt8.ofNat z.toNat, by rw [List.length_map, List.length_take]; omega, fun hp => ?_⟩
    obtain ⟨b, off, rfl, hc⟩ := ints_at hcell (by omega)
    refine ⟨b, off, rfl, fun j y hy => ?_⟩
    rw [List.getElem?_map, List.getElem?_take] at hy
    split at hy
    · rename_i hj
      have hjz : j < zs.length := by omega
      rw [List.getElem?_eq_getElem hjz] at hy
      injection hy with hy
      rw [hc j hjz]
      have hw := hwz zs[j] (List.getElem_mem hjz)
      have hb : 0 ≤ zs[j] ∧ zs[j] < 256 := by
        simp [Lit.wf, IntKind.min, IntKind.max, IntKind.signed, IntKind.bits] at hw
        omega
      have e : zs.getD j 0 = zs[j] := by simp [List.getD, hjz]
      rw [e, ← hy]
      unfold ov
      congr 2
      simp
      omega
    · cases hy

theorem gTab : Tryd.prog.globalNamed "springhouse/crc.fours" = some 0 := by kernel_rfl
theorem gTabType : (Tryd.prog.globals[0]?).map (·.type) = some 51 := by kernel_rfl
theorem cellsU : Tryd.prog.cellsOf 34 = 1 := by kernel_rfl
theorem cellsT : Tryd.prog.cellsOf 51 = 16 := by kernel_rfl
theorem tabEq : (Rows.laid_springhouse_crc_fours : DataW Unit) = Lib.tabData .u32 fours := by kernel_rfl

/-- what the rows' list gives -/
theorem env_of {W : World} (h : laidMetH Tryd.prog [("springhouse/crc.fours", Rows.laid_springhouse_crc_fours)] W) : Env W := by
  have h1 : laidMet Tryd.prog [("springhouse/crc.fours", Rows.laid_springhouse_crc_fours)] W := by
    have e := MakeChecks.laidMetH_plain Tryd.prog [("springhouse/crc.fours", Rows.laid_springhouse_crc_fours)] W (by kernel_rfl)
    rw [e] at h; exact h
  rw [tabEq] at h1
  have hT := Lib.tabIs_of_head gTab gTabType Tryd.underlying51 Tryd.underlying34 cellsU cellsT h1
  unfold Lib.TabIs World.var? at hT
  rw [gTab] at hT
  simp only [Option.bind_some] at hT
  split at hT
  · rename_i cs t fr hh
    injection hT with hT
    subst hT
    exact ⟨t, fr, hh⟩
  · cases hT

def put (c : Array Value) : Obj → Obj
  | .cells _ t frozen => .cells c t frozen
  | o => o
/-- a world for the witness: the settled one, the table holding what its initialiser lays -/
noncomputable def laidWorld (os : Os) : World :=
  let w0 := World.holding Tryd.prog os ⟨#[], #[], []⟩
  { w0 with heap := w0.heap.modify 0 (put tabArr) }
end Go.Proofs.YtnalbonplhbboaaDoor.W
