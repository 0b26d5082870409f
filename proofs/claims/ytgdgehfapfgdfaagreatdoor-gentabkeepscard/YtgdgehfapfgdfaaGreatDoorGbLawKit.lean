/-
  What the statements of this layer open their inputs by: slices of octets, the table of four halvings. No conditions.
-/
import Derived.Test.YtgdgehfapfgdfaaGreatDoorRows
import Derived.Test.YtgdgehfapfgdfaaGreatDoorGbMakes
import Derived.WalkKit
import Derived.ProofKit
import Derived.OpenShut
import Derived.ShutString
import Derived.ChangeOld
import Derived.Below
import Derived.Deep.DeepHandedRow
import Derived.Deep.DeepWitnessRowRef
import Derived.Lib.LaidTab
import Derived.MakeChecks
namespace Go.Proofs.YtgdgehfapfgdfaaGreatDoor.Tb
open Go.ChangeShapes Go.WideShapes Go.ChangeAt Go.RowKit Oc W
set_option linter.unusedVariables false

theorem own : ownKnob Tryz.prog.godebug = none := by kernel_rfl
theorem laidOut : laidOutB Tryz.prog = true := by kernel_rfl

/-- octets that came in -/
theorem open_octs {H : Type} {enc : TypeId × Value → H} {w : World} {a : Option Addr} {len cap : Nat} {d : DataW H} {p : List MemPlace} {base : Nat} {sp : Nat → Bool} {held : Bool}
    (h : DataW.Trod enc Tryz.prog w base sp held 96 (.slice a len cap) d p) : len ≤ cap ∧ cap ≤ maxLen ∧ ∃ xs, Oct w a len xs := by
  obtain ⟨fuel, hf⟩ := h
  rcases open_ints Tryz.underlying96 Tryz.underlying5 (by kernel_rfl) hf with ⟨hcs, _⟩ | ⟨x, l, c, zs, hcs, _, hl, hm, hz, _, hcell, hwz⟩
  · simp [Value.cells] at hcs
    obtain ⟨rfl, rfl, rfl⟩ := hcs
    exact ⟨Nat.le_refl _, by decide, [], Oct.nil _ _⟩
  · simp [Value.cells] at hcs
    obtain ⟨rfl, rfl, rfl⟩ := hcs
    have hz' : len ≤ zs.length := by split at hz <;> omega
    refine ⟨hl, hm, (zs.take len).map fun z => UInt8.ofNat z.toNat, by rw [List.length_map, List.length_take]; omega, fun hp => ?_⟩
    obtain ⟨b, off, rfl, hc⟩ := ints_at hcell (by omega)
    refine ⟨b, off, rfl, fun j y hy => ?_⟩
    rw [List.getElem?_map, List.getElem?_take] at hy
    split at hy
    · rename_i hj
      have hjz : j < zs.length := by omega
      rw [List.getElem?_eq_getElem hjz] at hy
      injection hy with hy
      rw [hc j hjz]
      have hw := hwz zs[j] (List.getElem_mem hjz)
      have hb : 0 ≤ zs[j] ∧ zs[j] < 256 := by
        simp [Lit.wf, IntKind.min, IntKind.max, IntKind.signed, IntKind.bits] at hw
        omega
      have e : zs.getD j 0 = zs[j] := by simp [List.getD, hjz]
      rw [e, ← hy]
      unfold ov
      congr 2
      simp
      omega
    · cases hy

theorem gp_size : Tryz.prog.cellsOf 33 = 8 := by kernel_rfl
theorem g6_size : Tryz.prog.cellsOf 31 = 6 := by kernel_rfl
theorem i_size : Tryz.prog.cellsOf 3 = 1 := by kernel_rfl
theorem u_size : Tryz.prog.cellsOf 30 = 1 := by kernel_rfl
theorem u64_nat {a : Int} (h : (Lit.int .u64 a).wf = true) : a = ((a.toNat : Nat) : Int) := by
  simp [Lit.wf, IntKind.min, IntKind.max, IntKind.signed, IntKind.bits] at h
  omega
set_option maxRecDepth 100000 in
/-- a generation page by value, out of its reading -/
theorem gp_arg {H : Type} {enc : TypeId × Value → H} {w : World} {base : Nat} {sp : Nat → Bool} {held : Bool} {cs : Array Value} {d : DataW H} {p : List MemPlace}
    (h : DataW.Trod enc Tryz.prog w base sp held 33 (.agg cs) d p) : ∃ g : Gp, cs = #[.int .i64 g.no, .int .u64 (g.v : Int), .int .u64 (g.g 0 : Int), .int .u64 (g.g 1 : Int), .int .u64 (g.g 2 : Int), .int .u64 (g.g 3 : Int), .int .u64 (g.g 4 : Int), .int .u64 (g.g 5 : Int)] := by
  obtain ⟨fuel, hf0⟩ := h
  obtain ⟨ys, m, _, _, hl, hyl, hf⟩ := DataW.trod_struct Tryz.underlying33 hf0
  rw [gp_size] at hl
  have hl2 : cs.toList.length = 8 := by simpa [Value.cells] using hl
  have e2 : (Value.cells (.agg cs)).toList = cs.toList := rfl
  rw [e2] at hf
  obtain ⟨ls, hls⟩ : ∃ ls, cs.toList = ls := ⟨_, rfl⟩
  rw [hls] at hl2 hf
  match ls, hl2 with
  | [v0, v1, v2, v3, v4, v5, v6, v7], _ =>
    have hys : ys.length = 3 := hyl
    have h0 := hf 0 _ rfl
    have h1 := hf 1 _ rfl
    have h2 := hf 2 _ rfl
    rw [List.getElem?_eq_getElem (by omega)] at h0 h1 h2
    obtain ⟨z0, e0, _, f0⟩ := DataW.trod_int Tryz.underlying3 h0
    obtain ⟨z1, e1, _, f1⟩ := DataW.trod_int Tryz.underlying30 h1
    obtain ⟨xs, m2, _, _, _, hxl, hx⟩ := DataW.trod_array Tryz.underlying31 h2
    have one : ∀ (i : Nat) (hi : i < 6), DataW.trod enc Tryz.prog w base sp held m2 30 ((([v2, v3, v4, v5, v6, v7] : List Value).drop i).take 1) = some (xs[i]'(by omega)) := fun i hi => by
      have h3 := hx i hi
      rw [u_size, Nat.mul_one, List.getElem?_eq_getElem (by omega)] at h3
      exact h3
    obtain ⟨g0, u0, _, k0⟩ := DataW.trod_int Tryz.underlying30 (one 0 (by omega))
    obtain ⟨g1, u1, _, k1⟩ := DataW.trod_int Tryz.underlying30 (one 1 (by omega))
    obtain ⟨g2, u2, _, k2⟩ := DataW.trod_int Tryz.underlying30 (one 2 (by omega))
    obtain ⟨g3, u3, _, k3⟩ := DataW.trod_int Tryz.underlying30 (one 3 (by omega))
    obtain ⟨g4, u4, _, k4⟩ := DataW.trod_int Tryz.underlying30 (one 4 (by omega))
    obtain ⟨g5, u5, _, k5⟩ := DataW.trod_int Tryz.underlying30 (one 5 (by omega))
    simp [i_size, u_size] at e0 e1 u0 u1 u2 u3 u4 u5
    refine ⟨⟨z0, z1.toNat, fun i => match i with | 0 => g0.toNat | 1 => g1.toNat | 2 => g2.toNat | 3 => g3.toNat | 4 => g4.toNat | _ => g5.toNat⟩, ?_⟩
    apply Array.toList_inj.1
    rw [hls, e0, e1, u0, u1, u2, u3, u4, u5]
    show _ = [Value.int .i64 z0, .int .u64 ((z1.toNat : Nat) : Int), .int .u64 ((g0.toNat : Nat) : Int), .int .u64 ((g1.toNat : Nat) : Int), .int .u64 ((g2.toNat : Nat) : Int), .int .u64 ((g3.toNat : Nat) : Int), .int .u64 ((g4.toNat : Nat) : Int), .int .u64 ((g5.toNat : Nat) : Int)]
    rw [← u64_nat f1, ← u64_nat k0, ← u64_nat k1, ← u64_nat k2, ← u64_nat k3, ← u64_nat k4, ← u64_nat k5]

theorem gTab : Tryz.prog.globalNamed "springhouse/crc.fours" = some 0 := by kernel_rfl
theorem gTabType : (Tryz.prog.globals[0]?).map (·.type) = some 226 := by kernel_rfl
theorem cellsU : Tryz.prog.cellsOf 191 = 1 := by kernel_rfl
theorem cellsT : Tryz.prog.cellsOf 226 = 16 := by kernel_rfl
theorem tabEq : (Rows.laid_springhouse_crc_fours : DataW Unit) = Lib.tabData .u32 fours := by kernel_rfl

/-- what the rows' list gives -/
theorem env_of {W : World} (h : laidMetH Tryz.prog [("springhouse/crc.fours", Rows.laid_springhouse_crc_fours)] W) : Env W := by
  have h1 : laidMet Tryz.prog [("springhouse/crc.fours", Rows.laid_springhouse_crc_fours)] W := by
    have e := MakeChecks.laidMetH_plain Tryz.prog [("springhouse/crc.fours", Rows.laid_springhouse_crc_fours)] W (by kernel_rfl)
    rw [e] at h; exact h
  rw [tabEq] at h1
  have hT := Lib.tabIs_of_head gTab gTabType Tryz.underlying226 Tryz.underlying191 cellsU cellsT h1
  unfold Lib.TabIs World.var? at hT
  rw [gTab] at hT
  simp only [Option.bind_some] at hT
  split at hT
  · rename_i cs t fr hh
    injection hT with hT
    subst hT
    exact ⟨t, fr, hh⟩
  · cases hT

def put (c : Array Value) : Obj → Obj
  | .cells _ t frozen => .cells c t frozen
  | o => o
/-- a world for the witness: the settled one, the table holding what its initialiser lays -/
noncomputable def laidWorld (os : Os) : World :=
  let w0 := World.holding Tryz.prog os ⟨#[], #[], []⟩
  { w0 with heap := w0.heap.modify 0 (put tabArr) }
end Go.Proofs.YtgdgehfapfgdfaaGreatDoor.Tb
