/-
  What the statements of this layer open their inputs by: slices of octets, the table of four halvings. No conditions.
-/
import Derived.Test.YtapklelkcicjlaaGreatDoorRows
import Derived.Test.YtapklelkcicjlaaGreatDoorKHg
import Derived.WalkKit
import Derived.ProofKit
import Derived.OpenShut
import Derived.ShutString
import Derived.ChangeOld
import Derived.Below
import Derived.Deep.DeepHandedRow
import Derived.Deep.DeepWitnessRowRef
import Derived.Lib.LaidTab
import Derived.MakeChecks
namespace Go.Proofs.YtapklelkcicjlaaGreatDoor.W.Hd
set_option maxRecDepth 100000
open Go.ChangeShapes Go.WideShapes Go.ChangeAt Go.RowKit Oc
set_option linter.unusedVariables false

theorem own : ownKnob Tryz.prog.godebug = none := by kernel_rfl
theorem laidOut : laidOutB Tryz.prog = true := by kernel_rfl

/-- octets that came in -/
theorem open_octs {H : Type} {enc : TypeId × Value → H} {w : World} {a : Option Addr} {len cap : Nat} {d : DataW H} {p : List MemPlace} {base : Nat} {sp : Nat → Bool} {held : Bool}
    (h : DataW.Trod enc Tryz.prog w base sp held 57 (.slice a len cap) d p) : len ≤ cap ∧ cap ≤ maxLen ∧ ∃ xs, Oct w a len xs := by
  obtain ⟨fuel, hf⟩ := h
  rcases open_ints Tryz.underlying57 Tryz.underlying5 (by kernel_rfl) hf with ⟨hcs, _⟩ | ⟨x, l, c, zs, hcs, _, hl, hm, hz, _, hcell, hwz⟩
  · simp [Value.cells] at hcs
    obtain ⟨rfl, rfl, rfl⟩ := hcs
    exact ⟨Nat.le_refl _, by decide, [], Oct.nil _ _⟩
  · simp [Value.cells] at hcs
    obtain ⟨rfl, rfl, rfl⟩ := hcs
    have hz' : len ≤ zs.length := by split at hz <;> omega
    refine ⟨hl, hm, (zs.take len).map fun z => UInt8.ofNat z.toNat, by rw [List.length_map, List.length_take]; omega, fun hp => ?_⟩
    obtain ⟨b, off, rfl, hc⟩ := ints_at hcell (by omega)
    refine ⟨b, off, rfl, fun j y hy => ?_⟩
    rw [List.getElem?_map, List.getElem?_take] at hy
    split at hy
    · rename_i hj
      have hjz : j < zs.length := by omega
      rw [List.getElem?_eq_getElem hjz] at hy
      injection hy with hy
      rw [hc j hjz]
      have hw := hwz zs[j] (List.getElem_mem hjz)
      have hb : 0 ≤ zs[j] ∧ zs[j] < 256 := by
        simp [Lit.wf, IntKind.min, IntKind.max, IntKind.signed, IntKind.bits] at hw
        omega
      have e : zs.getD j 0 = zs[j] := by simp [List.getD, hjz]
      rw [e, ← hy]
      unfold ov
      congr 2
      simp
      omega
    · cases hy

theorem hd_size : Tryz.prog.cellsOf 32 = 5 := by kernel_rfl
theorem i_size : Tryz.prog.cellsOf 3 = 1 := by kernel_rfl
theorem u_size : Tryz.prog.cellsOf 29 = 1 := by kernel_rfl
theorem l_size : Tryz.prog.cellsOf 4 = 1 := by kernel_rfl
theorem v_size : Tryz.prog.cellsOf 30 = 1 := by kernel_rfl
theorem u64_nat {a : Int} (h : (Lit.int .u64 a).wf = true) : a = ((a.toNat : Nat) : Int) := by
  simp [Lit.wf, IntKind.min, IntKind.max, IntKind.signed, IntKind.bits] at h
  omega
theorem u32_nat {a : Int} (h : (Lit.int .u32 a).wf = true) : a = (((UInt32.ofNat a.toNat).toNat : Nat) : Int) := by
  simp [Lit.wf, IntKind.min, IntKind.max, IntKind.signed, IntKind.bits] at h
  rw [UInt32.toNat_ofNat_of_lt' (by show _ < 2 ^ 32; omega)]
  omega
set_option maxRecDepth 100000 in
/-- a head by value, out of its reading -/
theorem hd_arg {H : Type} {enc : TypeId × Value → H} {w : World} {base : Nat} {sp : Nat → Bool} {held : Bool} {cs : Array Value} {d : DataW H} {p : List MemPlace}
    (h : DataW.Trod enc Tryz.prog w base sp held 32 (.agg cs) d p) : ∃ g : Hd, cs = #[.bool g.u, .int .i64 g.l, .int .u64 (g.g : Int), .int .u32 (g.s.toNat : Int), .int .u32 (g.r.toNat : Int)] := by
  obtain ⟨fuel, hf0⟩ := h
  obtain ⟨ys, m, _, _, hl, hyl, hf⟩ := DataW.trod_struct Tryz.underlying32 hf0
  rw [hd_size] at hl
  have hl2 : cs.toList.length = 5 := by simpa [Value.cells] using hl
  have e2 : (Value.cells (.agg cs)).toList = cs.toList := rfl
  rw [e2] at hf
  obtain ⟨ls, hls⟩ : ∃ ls, cs.toList = ls := ⟨_, rfl⟩
  rw [hls] at hl2 hf
  match ls, hl2 with
  | [v0, v1, v2, v3, v4], _ =>
    have hys : ys.length = 5 := hyl
    have h0 := hf 0 _ rfl
    have h1 := hf 1 _ rfl
    have h2 := hf 2 _ rfl
    have h3 := hf 3 _ rfl
    have h4 := hf 4 _ rfl
    rw [List.getElem?_eq_getElem (by omega)] at h0 h1 h2 h3 h4
    obtain ⟨z0, e0, _⟩ := DataW.trod_bool Tryz.underlying4 h0
    obtain ⟨z1, e1, _, f1⟩ := DataW.trod_int Tryz.underlying3 h1
    obtain ⟨z2, e2, _, f2⟩ := DataW.trod_int Tryz.underlying29 h2
    obtain ⟨z3, e3, _, f3⟩ := DataW.trod_int Tryz.underlying30 h3
    obtain ⟨z4, e4, _, f4⟩ := DataW.trod_int Tryz.underlying30 h4
    simp [i_size, u_size, l_size, v_size] at e0 e1 e2 e3 e4
    refine ⟨⟨z0, z1, z2.toNat, UInt32.ofNat z3.toNat, UInt32.ofNat z4.toNat⟩, ?_⟩
    apply Array.toList_inj.1
    rw [hls, e0, e1, e2, e3, e4]
    show _ = [Value.bool z0, .int .i64 z1, .int .u64 ((z2.toNat : Nat) : Int), .int .u32 (((UInt32.ofNat z3.toNat).toNat : Nat) : Int), .int .u32 (((UInt32.ofNat z4.toNat).toNat : Nat) : Int)]
    rw [← u64_nat f2, ← u32_nat f3, ← u32_nat f4]

theorem gTab : Tryz.prog.globalNamed "springhouse/crc.fours" = some 1 := by kernel_rfl
theorem gTabType : (Tryz.prog.globals[1]?).map (·.type) = some 202 := by kernel_rfl
theorem cellsU : Tryz.prog.cellsOf 30 = 1 := by kernel_rfl
theorem cellsT : Tryz.prog.cellsOf 202 = 16 := by kernel_rfl
theorem gWid : Tryz.prog.globalNamed "springhouse/head.widths" = some 0 := by kernel_rfl
theorem gWidType : (Tryz.prog.globals[0]?).map (·.type) = some 169 := by kernel_rfl
theorem cellsI : Tryz.prog.cellsOf 3 = 1 := by kernel_rfl
theorem cellsW : Tryz.prog.cellsOf 169 = 5 := by kernel_rfl
theorem tabEq : (Rows.laid_springhouse_crc_fours : DataW Unit) = Lib.tabData .u32 fours := by kernel_rfl
theorem widEq : (Rows.laid_springhouse_head_widths : DataW Unit) = Lib.tabData .i64 [1, 2, 8, 4, 4] := by kernel_rfl

/-- what the rows' list gives -/
theorem env_of {W : World} (h : laidMetH Tryz.prog [("springhouse/crc.fours", Rows.laid_springhouse_crc_fours), ("springhouse/head.widths", Rows.laid_springhouse_head_widths)] W) : EnvH W := by
  have h1 : laidMet Tryz.prog [("springhouse/crc.fours", Rows.laid_springhouse_crc_fours), ("springhouse/head.widths", Rows.laid_springhouse_head_widths)] W := by
    have e := MakeChecks.laidMetH_plain Tryz.prog [("springhouse/crc.fours", Rows.laid_springhouse_crc_fours), ("springhouse/head.widths", Rows.laid_springhouse_head_widths)] W (by kernel_rfl)
    rw [e] at h; exact h
  rw [tabEq, widEq] at h1
  have hT := Lib.tabIs_of_head gTab gTabType Tryz.underlying202 Tryz.underlying30 cellsU cellsT h1
  have hU : Lib.TabIs Tryz.prog W "springhouse/head.widths" .i64 [1, 2, 8, 4, 4] := by
    obtain ⟨ps, ⟨_, _, _, _, _, q, _, _, _, _, hq, _⟩, _⟩ := h1
    obtain ⟨g', t', cs, fuel, p, _, hg', ht', hvar, hd, _⟩ := hq
    obtain rfl := Option.some.inj (gWid.symm.trans hg')
    obtain rfl := Option.some.inj (gWidType.symm.trans ht')
    unfold Lib.TabIs
    rw [hvar, ← Lib.cells_of_tab Tryz.underlying169 Tryz.underlying3 cellsI cellsW hd]
  refine ⟨?_, ?_⟩
  · unfold Lib.TabIs World.var? at hT
    rw [gTab] at hT
    simp only [Option.bind_some] at hT
    split at hT
    · rename_i cs t fr hh
      injection hT with hT
      subst hT
      exact ⟨t, fr, hh⟩
    · cases hT
  · unfold Lib.TabIs World.var? at hU
    rw [gWid] at hU
    simp only [Option.bind_some] at hU
    split at hU
    · rename_i cs t fr hh
      injection hU with hU
      subst hU
      exact ⟨t, fr, hh⟩
    · cases hU

def put (c : Array Value) : Obj → Obj
  | .cells _ t frozen => .cells c t frozen
  | o => o
/-- a world for the witness: the settled one, the tables holding what their initialisers lay -/
noncomputable def laidWorld (os : Os) : World :=
  let w0 := World.holding Tryz.prog os ⟨#[], #[], []⟩
  { w0 with heap := (w0.heap.modify 1 (put tabArr)).modify 0 (put widArr) }
end Go.Proofs.YtapklelkcicjlaaGreatDoor.W.Hd
