/-
  Lists of acts that came in. No conditions.
-/
import Derived.Test.YtdkniholeaiemaaDvBegin
import Derived.ProofKit
import Derived.OpenShut
import Derived.Deep.Slices
import Derived.Deep.Fields
import Derived.ChangeSame
namespace Go.Proofs.Ytdkniholeaiemaa.W
open Go.ChangeShapes Go.WideShapes Go.RowKit Go.Deep Oc Dm
set_option linter.unusedVariables false

/-- an act -/
structure ActV where
  kind : Int
  of_ : Int
  at_ : Int
  n : Int
  bit : Int
  turn : Int
  a : Int
  b : Int
  fill : Int
  size : Int
  fa : Option Addr
  fl : Nat
  fc : Nat
  fs : List Int
def ActV.wf (a : ActV) : Prop := (Lit.int .i64 a.kind).wf = true ∧ (Lit.int .i64 a.of_).wf = true ∧ (Lit.int .i64 a.at_).wf = true ∧ (Lit.int .i64 a.n).wf = true ∧ (Lit.int .i64 a.bit).wf = true ∧ (Lit.int .u32 a.turn).wf = true ∧ (Lit.int .u64 a.a).wf = true ∧ (Lit.int .u64 a.b).wf = true ∧ (Lit.int .u8 a.fill).wf = true ∧ (Lit.int .i64 a.size).wf = true ∧ a.fl ≤ a.fc ∧ a.fc ≤ maxLen ∧ ∀ z ∈ a.fs, (Lit.int .i64 z).wf = true
def ActV.cells (a : ActV) : List Value := [.int .i64 a.kind, .int .i64 a.of_, .int .i64 a.at_, .int .i64 a.n, .int .i64 a.bit, .int .u32 a.turn, .int .u64 a.a, .int .u64 a.b, .int .u8 a.fill, .int .i64 a.size, .slice a.fa a.fl a.fc]
/-- an act's cells, the first at p -/
structure ActAt (w : World) (b p : Nat) (a : ActV) : Prop where
  cells : ∀ j v, a.cells[j]? = some v → w.cell? ⟨b, p + j, none⟩ = some v
  fates : Fi w a.fa a.fl a.fs
  wf : a.wf
/-- the slice at A reads as the first n acts of L -/
def Acts (w : World) (A : Option Addr) (n : Nat) (L : Nat → ActV) : Prop := ∀ i, i < n → ∃ b off, A = some ⟨b, off, none⟩ ∧ ActAt w b (off + i * 11) (L i)
theorem ActAt.below {w w' : World} {b p : Nat} {a : ActV} (h : ActAt w b p a) (hb : Below w.heap.size w w') : ActAt w' b p a :=
  ⟨fun j v e => by
    have hc := h.cells j v e
    rw [hb.cell (p := ⟨b, _, none⟩) (World.block_lt_of_cell? w _ hc)]; exact hc, h.fates.below hb, h.wf⟩
theorem Acts.below {w w' : World} {A : Option Addr} {n : Nat} {L : Nat → ActV} (h : Acts w A n L) (hb : Below w.heap.size w w') : Acts w' A n L := by
  intro i hi
  obtain ⟨b, off, e, h0⟩ := h i hi
  exact ⟨b, off, e, h0.below hb⟩

theorem act_one : oneCellFields Try.prog (match Try.prog.underlying 31 with | some (.struct fs) => fs | _ => #[]) = true := by kernel_rfl
theorem act_cells : Try.prog.cellsOf 31 = 11 := by kernel_rfl
theorem int_cells : Try.prog.cellsOf 3 = 1 := by kernel_rfl
theorem zero_wf : (ActV.mk 0 0 0 0 0 0 0 0 0 0 none 0 0 []).wf := by refine ⟨?_, ?_, ?_, ?_, ?_, ?_, ?_, ?_, ?_, ?_, ?_, ?_, ?_⟩ <;> first | decide | simp
/-- the fates out of their reading -/
theorem fates_of {H : Type} {enc : TypeId × Value → H} {w : World} {base : Nat} {sp : Nat → Bool} {held : Bool} {fuel : Nat} {v : Value} {x : DataW H × List MemPlace}
    (h : DataW.trod enc Try.prog w base sp held fuel 29 [v] = some x) : ∃ fa fl fc fs, v = .slice fa fl fc ∧ Fi w fa fl fs ∧ fl ≤ fc ∧ fc ≤ maxLen ∧ ∀ z ∈ fs, (Lit.int .i64 z).wf = true := by
  rcases open_ints Try.underlying29 Try.underlying3 int_cells h with ⟨hcs, _⟩ | ⟨a, len, cap, zs, hcs, _, hl, hm, hlen, _, hx, hwf⟩
  · simp at hcs
    exact ⟨none, 0, 0, [], hcs, ⟨rfl, fun h => absurd h (by decide)⟩, Nat.le_refl _, by decide, by simp⟩
  · simp at hcs
    refine ⟨some a, len, cap, zs.take len, hcs, ?_, hl, hm, fun z hz => hwf z (List.mem_of_mem_take hz)⟩
    have hle : len ≤ zs.length := by rw [hlen]; split <;> omega
    refine ⟨by simp; omega, fun hne => ?_⟩
    have h0 := hx 0 (by omega)
    obtain ⟨b, off, spot⟩ := a
    have hspot : spot = none := by have := World.cell?_spot h0; simpa [Addr.add] using this
    subst hspot
    refine ⟨b, off, rfl, fun j y hy => ?_⟩
    rw [List.getElem?_map] at hy
    obtain ⟨z, hz, rfl⟩ := Option.map_eq_some_iff.1 hy
    have hj : j < len := by
      rcases Nat.lt_or_ge j len with h | h
      · exact h
      · rw [List.getElem?_eq_none (by simp; omega)] at hz; cases hz
    have := hx j (by omega)
    rw [Go.WideShapes.add_plain] at this
    rw [this]
    rw [List.getElem?_take, if_pos hj] at hz
    simp [List.getD, hz]

set_option maxRecDepth 100000 in
/-- one act out of its reading -/
theorem act_of {H : Type} {enc : TypeId × Value → H} {w : World} {base : Nat} {sp : Nat → Bool} {held : Bool} {fuel : Nat} {cs : List Value} {x : DataW H × List MemPlace}
    (h : DataW.trod enc Try.prog w base sp held fuel 31 cs = some x) : ∃ a : ActV, cs = a.cells ∧ Fi w a.fa a.fl a.fs ∧ a.wf := by
  obtain ⟨ys, m, _, _, hl, hyl, hf⟩ := DataW.trod_struct Try.underlying31 h
  rw [act_cells] at hl
  match cs, hl with
  | [v0, v1, v2, v3, v4, v5, v6, v7, v8, v9, v10], _ =>
    have hys : ys.length = 11 := hyl
    have get : ∀ (j : Nat) (f : Field), (match Try.prog.underlying 31 with | some (.struct fs) => fs | _ => #[])[j]? = some f → f.offset = j ∧ Try.prog.cellsOf f.type = 1 := hone_of act_one
    rw [Try.underlying31] at get
    have one : ∀ (j : Nat) (hj : j < 11) (f : Field), _ → DataW.trod enc Try.prog w base sp held m f.type ((([v0, v1, v2, v3, v4, v5, v6, v7, v8, v9, v10] : List Value).drop j).take 1) = some (ys[j]'(by omega)) := fun j hj f hjf => by
      have h1 := hf j f hjf
      obtain ⟨o, k⟩ := get j f hjf
      rw [o, k, List.getElem?_eq_getElem (by omega)] at h1
      exact h1
    obtain ⟨z0, e0, _, f0⟩ := DataW.trod_int Try.underlying3 (one 0 (by omega) _ rfl)
    obtain ⟨z1, e1, _, f1⟩ := DataW.trod_int Try.underlying3 (one 1 (by omega) _ rfl)
    obtain ⟨z2, e2, _, f2⟩ := DataW.trod_int Try.underlying3 (one 2 (by omega) _ rfl)
    obtain ⟨z3, e3, _, f3⟩ := DataW.trod_int Try.underlying3 (one 3 (by omega) _ rfl)
    obtain ⟨z4, e4, _, f4⟩ := DataW.trod_int Try.underlying3 (one 4 (by omega) _ rfl)
    obtain ⟨z5, e5, _, f5⟩ := DataW.trod_int Try.underlying27 (one 5 (by omega) _ rfl)
    obtain ⟨z6, e6, _, f6⟩ := DataW.trod_int Try.underlying28 (one 6 (by omega) _ rfl)
    obtain ⟨z7, e7, _, f7⟩ := DataW.trod_int Try.underlying28 (one 7 (by omega) _ rfl)
    obtain ⟨z8, e8, _, f8⟩ := DataW.trod_int Try.underlying5 (one 8 (by omega) _ rfl)
    obtain ⟨z9, e9, _, f9⟩ := DataW.trod_int Try.underlying3 (one 9 (by omega) _ rfl)
    obtain ⟨fa, fl, fc, fs, e10, k1, k2, k3, k4⟩ := fates_of (v := v10) (one 10 (by omega) _ rfl)
    simp at e0 e1 e2 e3 e4 e5 e6 e7 e8 e9
    refine ⟨⟨z0, z1, z2, z3, z4, z5, z6, z7, z8, z9, fa, fl, fc, fs⟩, ?_, k1, ?_⟩
    · simp [ActV.cells, e0, e1, e2, e3, e4, e5, e6, e7, e8, e9, e10]
    · exact ⟨by assumption, by assumption, by assumption, by assumption, by assumption, by assumption, by assumption, by assumption, by assumption, by assumption, k2, k3, k4⟩

set_option maxRecDepth 100000 in
theorem open_acts {H : Type} {enc : TypeId × Value → H} {w : World} {a : Option Addr} {len cap : Nat} {d : DataW H} {p : List MemPlace} {base : Nat} {sp : Nat → Bool} {held : Bool}
    (h : DataW.Trod enc Try.prog w base sp held 22 (.slice a len cap) d p) : len ≤ cap ∧ cap ≤ maxLen ∧ ∃ L, Acts w a len L := by
  obtain ⟨fuel, hf⟩ := h
  rcases open_slice Try.underlying22 hf with ⟨hcs, _⟩ | ⟨x, l, c, m, n', D, Pl, hcs, _, hl, hm, hmm, _, hx⟩
  · simp [Value.cells] at hcs
    obtain ⟨rfl, rfl, rfl⟩ := hcs
    exact ⟨Nat.le_refl _, by decide, fun _ => ⟨0, 0, 0, 0, 0, 0, 0, 0, 0, 0, none, 0, 0, []⟩, fun i hi => by omega⟩
  · simp [Value.cells] at hcs
    obtain ⟨rfl, rfl, rfl⟩ := hcs
    refine ⟨hl, hm, ?_⟩
    have hlm : len ≤ m := by rw [hmm]; split <;> omega
    have each : ∀ i, ∃ v : ActV, i < len → ∃ b off, some x = some ⟨b, off, none⟩ ∧ ActAt w b (off + i * 11) v := by
      intro i
      by_cases hi : i < len
      · obtain ⟨cs', hc, ht⟩ := hx i (by omega)
        rw [act_cells] at hc
        obtain ⟨v, rfl, k1, k2⟩ := act_of ht
        obtain ⟨_, _, hat⟩ := World.cells?_some hc
        obtain ⟨b, off, spot⟩ := x
        have hspot : spot = none := by
          obtain ⟨cs2, hc2, ht2⟩ := hx 0 (by omega)
          rw [act_cells] at hc2
          obtain ⟨v2, rfl, _, _⟩ := act_of ht2
          obtain ⟨_, _, hat2⟩ := World.cells?_some hc2
          have := World.cell?_spot (hat2 0 (by omega))
          simpa [Addr.add] using this
        subst hspot
        refine ⟨v, fun _ => ⟨b, off, rfl, fun j y hy => ?_, k1, k2⟩⟩
        have hj : j < 11 := by
          rcases Nat.lt_or_ge j 11 with h | h
          · exact h
          · rw [List.getElem?_eq_none (by simpa [ActV.cells] using h)] at hy; cases hy
        have c0 := hat j (by omega)
        rw [Go.WideShapes.add_plain] at c0
        rw [Go.WideShapes.add_plain] at c0
        rw [c0]
        exact hy
      · exact ⟨⟨0, 0, 0, 0, 0, 0, 0, 0, 0, 0, none, 0, 0, []⟩, fun h => absurd h hi⟩
    exact ⟨fun i => Classical.choose (each i), fun i hi => Classical.choose_spec (each i) hi⟩

theorem wrap_small (x : Nat) (h : x < 4) : IntKind.i64.wrap (x : Int) = (x : Int) := by
  match x, h with
  | 0, _ => rfl
  | 1, _ => rfl
  | 2, _ => rfl
  | 3, _ => rfl
theorem and_one (z : Int) : ∃ k : Nat, bits .and .i64 z 1 = (k : Int) ∧ k < 2 := by
  refine ⟨((BitVec.ofInt 64 z) &&& (BitVec.ofInt 64 1)).toNat, ?_, ?_⟩
  · have : ((BitVec.ofInt 64 z) &&& (BitVec.ofInt 64 1)).toNat < 2 := by rw [BitVec.toNat_and]; exact Nat.lt_of_le_of_lt Nat.and_le_right (by decide)
    exact wrap_small _ (Nat.lt_trans this (by decide))
  · rw [BitVec.toNat_and]; exact Nat.lt_of_le_of_lt Nat.and_le_right (by decide)
theorem and_three (z : Int) : ∃ k : Nat, bits .and .i64 z 3 = (k : Int) ∧ k < 4 := by
  refine ⟨((BitVec.ofInt 64 z) &&& (BitVec.ofInt 64 3)).toNat, ?_, ?_⟩
  · have : ((BitVec.ofInt 64 z) &&& (BitVec.ofInt 64 3)).toNat < 4 := by rw [BitVec.toNat_and]; exact Nat.lt_of_le_of_lt Nat.and_le_right (by decide)
    exact wrap_small _ this
  · rw [BitVec.toNat_and]; exact Nat.lt_of_le_of_lt Nat.and_le_right (by decide)
end Go.Proofs.Ytdkniholeaiemaa.W
