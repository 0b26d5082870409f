/-
  For any list of floats, told by their bits (of which the first 40 are looked at): ratio.Last tells the one that stands last, but NaN, and whether there is one, as the reference does; the page's examples hold. No conditions.
-/
import Derived.Test.YtbfbebcoaaoklaaRows
import Derived.Test.YtbfbebcoaaoklaaRatioRlast
import Derived.WalkKit
import Derived.ProofKit
import Derived.OpenShut
import Derived.ShutString
import Derived.ChangeOld
import Derived.Below
namespace Go.Proofs.Ytbfbebcoaaoklaa.ratioLasts
open Go.ChangeShapes Go.WideShapes Go.ChangeAt Go.RowKit Flt W
set_option linter.unusedVariables false

theorem own : ownKnob Try.prog.godebug = none := by kernel_rfl
theorem laidOut : laidOutB Try.prog = true := by kernel_rfl

/-- what the walk is told of a slice of integers that came in -/
def IsRow (k : IntKind) (w : World) (a : Option Addr) (len cap : Nat) (zs : List Int) : Prop :=
  (a = none ∧ len = 0 ∧ cap = 0 ∧ zs = []) ∨
  ∃ x, a = some x ∧ len ≤ cap ∧ cap ≤ maxLen ∧ zs.length = cap ∧ (∀ i, i < zs.length → w.cell? (x.add i) = some (.int k (zs.getD i 0))) ∧ ∀ n ∈ zs, (Lit.int k n).wf = true

theorem row_cells {w : World} {a0 : Option Addr} {len cap : Nat} {zs : List Int} (h : IsRow .u64 w a0 len cap zs) : CellsU w a0 len (fun i => zs.getD i 0) ∧ ∀ i, (zs.getD i 0).toNat < 18446744073709551616 := by
  rcases h with ⟨rfl, rfl, rfl, rfl⟩ | ⟨x, rfl, hl, hm, hz, hcell, hwz⟩
  · refine ⟨fun i hi => by omega, fun i => ?_⟩
    simp
  · refine ⟨fun i hi => ?_, fun i => ?_⟩
    · obtain ⟨b, off, rfl, hc⟩ := ints_at hcell (by omega)
      exact ⟨b, off, rfl, hc i (by omega)⟩
    · by_cases hi : i < zs.length
      · have e : zs.getD i 0 = zs[i] := by simp [List.getD, hi]
        have := bounds_u64 (hwz _ (List.getElem_mem hi))
        rw [e]; omega
      · have e : zs.getD i 0 = 0 := by simp [List.getD, hi]
        rw [e]; decide

theorem cellsU_below {w w' : World} {a0 : Option Addr} {len : Nat} {z : Nat → Int} (h : CellsU w a0 len z) (hb : Below w.heap.size w w') : CellsU w' a0 len z := by
  intro i hi
  obtain ⟨b, off, e, hc⟩ := h i hi
  refine ⟨b, off, e, ?_⟩
  have hlt : b < w.heap.size := World.block_lt_of_cell? w _ hc
  rw [hb.cell (p := ⟨b, off + i, none⟩) hlt]; exact hc

theorem own_cells {w : World} {B n : Nat} {e : TypeId} {v : Value} {z : Nat → Int} (h : w.ownsRow B e 1 v n (floats z n)) : ∃ A c, v = .slice A n c ∧ CellsF w A n (fun i => (z i).toNat) := by
  rcases h.2 with ⟨rfl, rfl⟩ | ⟨g, cap, cur, rfl, hb, hg, hnc, hcm, hsz, htk⟩
  · exact ⟨none, 0, rfl, fun i hi => by omega⟩
  · refine ⟨_, cap, rfl, fun i hi => ⟨g, 0, rfl, ?_⟩⟩
    have hc := h.cellAt i (by omega)
    rw [Nat.zero_add, hc]
    simp [floats, hi]

theorem boolean_eq (a : Bool) : (a == a) = true := by cases a <;> rfl

set_option maxHeartbeats 1000000 in
theorem walk_at (a0 : Option Addr) (len cap : Nat) (z : Nat → Int) (w : World) (hc : CellsU w a0 len z) (hz : ∀ i, (z i).toNat < 18446744073709551616) :
    Calls Try.prog 8 #[.slice a0 len cap] w fun e w' => e = .returned (.bool true) ∧ Below w.heap.size w w' := by
  obtain ⟨n, hn⟩ : ∃ n, n = min len 40 := ⟨_, rfl⟩
  have hn2 : n ≤ 40 := by omega
  obtain ⟨l, f, he⟩ : ∃ l f, lastTo (fun i => (z i).toNat) n = (l, f) := ⟨_, _, rfl⟩
  have ll : l < 18446744073709551616 := by have := lastTo_lt (fun i => (z i).toNat) hz n; rw [he] at this; exact this
  have L := Lib.hid ll
  have HN := Lib.hid hn
  have HC := Lib.hid hc
  have HZ := Lib.hid hz
  have HE := Lib.hid he
  clear hc hz he hn ll
  cases f
  all_goals
    go_enter Try.func8, Try.ntmps8
    go_wp2_with fail
    refine (list_any _ _ _ n z _ HN.out HC.out).mono ?_; rintro e w1 ⟨v1, rfl, o1, b1⟩
    obtain ⟨A1, c1, rfl, k1⟩ := own_cells o1
    have K1 := Lib.hid k1
    have B1 := Lib.hid b1
    clear o1 k1 b1
    go_wp2_with fail
    refine (last_any _ _ _ _ _ _ _ hn2 K1.out HZ.out HE.out).mono ?_; rintro e w' ⟨rfl, rfl⟩
    go_wp2_with fail
    refine (list_any _ _ _ n z _ HN.out (cellsU_below HC.out B1.out)).mono ?_; rintro e w2 ⟨v2, rfl, o2, b2⟩
    obtain ⟨A2, c2, rfl, k2⟩ := own_cells o2
    have K2 := Lib.hid k2
    have B2 := Lib.hid b2
    clear o2 k2 b2
    go_wp2_with fail
    refine (rlast_any _ _ _ _ _ _ _ hn2 K2.out HZ.out HE.out).mono ?_; rintro e w3 ⟨rfl, b3⟩
    have B3 := Lib.hid b3
    clear b3
    go_wp2_with fail
    refine (rsame_yes L.out L.out rfl _).mono ?_; rintro e w' ⟨rfl, rfl⟩
    go_wp2_with fail
    refine (awake_any _).mono ?_; rintro e w4 ⟨rfl, b4⟩
    have B4 := Lib.hid b4
    clear b4
    go_wp2
    go_ret
    exact ⟨rfl, B1.out.trans ((B2.out.mono B1.out.size).trans ((B3.out _).trans (B4.out _)))⟩

theorem walk (a0 : Option Addr) (len0 cap0 : Nat) (z0 : List Int) (w : World) (w0 : IsRow .u64 w a0 len0 cap0 z0) :
    Calls Try.prog 8 #[.slice a0 len0 cap0] w fun e w' => e = .returned (.bool true) ∧ Below w.heap.size w w' := by
  obtain ⟨hc, hz⟩ := row_cells w0
  exact walk_at a0 len0 cap0 _ w hc hz

set_option maxRecDepth 100000 in
theorem lifted (os : Os) (started : os.Started) (H : Type) (enc : TypeId × Value → H) :
    ReturnsInHanded {} Try.checked os 8 .any (Rows.ratioLastsSpec.pre6 enc Try.prog Try.f8 Rows.ratioLastsRow.domain false) (Rows.ratioLastsSpec.post enc Try.prog Try.f8 false true false false) := by
  refine returnsInHanded_of_change (C := Try.checked) own started (by kernel_rfl) Try.func8
    (ChangeSpec.witness6 (enc := enc) (C := Try.checked) false ⟨#[], #[.slice none 0 0], []⟩ 8 (by kernel_rfl) (by kernel_rfl) (by kernel_rfl) (by kernel_rfl)) ?_
  intro W base args ds gs before hval0 hW hcnd _
  have hval : ∀ (j : Nat) t v, Try.f8.params[j]? = some t → args[j]? = some v → Value.okWide Try.prog W .any base t v := hval0
  have hW' := hW
  obtain ⟨p, q, hA0, hV, rfl, hfz, hnd⟩ := hW
  have hA : DataW.TrodAll enc Try.prog W 0 (fun _ => true) true Try.f8.params.toList args.toList ds p := hA0
  rw [Try.params8] at hA hval
  obtain ⟨v0, vs0, d0, ds0, p0, q0, hargs, rfl, rfl, h0, r0⟩ := trodAll_cons hA
  obtain ⟨rfl, rfl, rfl⟩ := trodAll_nil r0
  obtain rfl : args = #[v0] := by cases args; simp_all
  obtain ⟨rfl, rfl⟩ := trodVars_none hV
  obtain ⟨a0, len0, cap0, rfl⟩ := okWide_slice Try.underlying36 (hval 0 36 v0 rfl rfl)
  have k0 := h0
  have lt0 : ∀ x ∈ p0, x.block < W.heap.size := by obtain ⟨m, hm⟩ := k0; exact DataW.trod_lt m _ _ _ hm
  obtain ⟨z0, w0⟩ : ∃ zs, IsRow .u64 W a0 len0 cap0 zs := by
    obtain ⟨fuel, hf⟩ := h0
    rcases open_ints Try.underlying36 Try.underlying22 (by kernel_rfl) hf with ⟨hcs, _⟩ | ⟨x, l, c, zs, hcs, _, hl, hm, hz, _, hcell, hwz⟩
    · simp [Value.cells] at hcs
      obtain ⟨rfl, rfl, rfl⟩ := hcs
      exact ⟨[], .inl ⟨rfl, rfl, rfl, rfl⟩⟩
    · simp [Value.cells] at hcs
      obtain ⟨rfl, rfl, rfl⟩ := hcs
      exact ⟨zs, .inr ⟨_, rfl, hl, hm, by simpa using hz, hcell, hwz⟩⟩
  clear hA0 hval0
  refine (walk a0 len0 cap0 z0 W w0).mono fun e W' ⟨he, bel⟩ => ?_
  subst he
  exact ⟨_, rfl, _, _, _, [], _, [], hW', trodAll_mk1 (shut_bool Try.underlying4 _), (trodAll_cons_mk (Below.trod laidOut (by kernel_rfl) (of_decide_eq_true (by kernel_rfl)) k0 bel lt0) trodAll_mk0), rfl, bel.frame _, fun h => by cases h⟩

theorem over : Rows.ratioLastsRow.holds Try.pinned (OpenSpec.ofChange Rows.ratioLastsSpec) :=
  OpenClaim.holds_of_wide 8 Try.f8 rfl rfl rfl rfl rfl rfl rfl ⟨rfl, rfl, rfl, rfl, rfl⟩ rfl rfl rfl rfl rfl (by kernel_rfl) Try.func8 (by kernel_rfl)
    (of_decide_eq_true (by kernel_rfl)) (by unfold Func.isWrapper; first | (rw [if_pos (by decide +kernel)]; kernel_rfl) | (rw [if_neg (by decide +kernel)]; exact ⟨rfl, rfl⟩))
    (fun os started H enc _ => lifted os started H enc)

end Go.Proofs.Ytbfbebcoaaoklaa.ratioLasts

namespace Go.Proofs.Ytbfbebcoaaoklaa
/-- THE STATEMENT -/
theorem ratioLasts_holds : Rows.RatioLastsSaid := ratioLasts.over
#print axioms ratioLasts_holds
end Go.Proofs.Ytbfbebcoaaoklaa
