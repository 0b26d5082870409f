/-
  Lists of acts that came in. No conditions.
-/
import Derived.Test.YtikbbikcacoobaaGreatDoorIvLawKit
import Derived.Test.YtikbbikcacoobaaGreatDoorIvPairCrash
import Derived.ProofKit
import Derived.OpenShut
import Derived.Deep.Slices
import Derived.Deep.Fields
import Derived.ChangeSame
namespace Go.Proofs.YtikbbikcacoobaaGreatDoor.Pd.Iv
open Go.ChangeShapes Go.WideShapes Go.RowKit Go.Deep Oc Dm W Dw Sr
set_option linter.unusedVariables false

/-- an act -/
structure ActV where
  kind : Int
  n : Int
  xt : Int
  gn : Nat
  ma : UInt8
  a : Nat
  b : Nat
  fa : Option Addr
  fl : Nat
  fc : Nat
  fs : List Int
  x : Rc
def act0 : ActV := ⟨0, 0, 0, 0, 0, 0, 0, none, 0, 0, [], zr⟩
def ActV.wf (a : ActV) : Prop := (a.gn < 18446744073709551616 ∧ a.a < 18446744073709551616 ∧ a.b < 18446744073709551616) ∧ a.fl ≤ a.fc ∧ a.fc ≤ maxLen ∧ (-9223372036854775808 ≤ a.n ∧ a.n ≤ 9223372036854775807)
def ActV.cells (a : ActV) : List Value := [.int .i64 a.kind, .int .i64 a.n, .int .i64 a.xt, .int .u64 (a.gn : Int), .int .u8 (a.ma.toNat : Int), .int .u64 (a.a : Int), .int .u64 (a.b : Int), .slice a.fa a.fl a.fc, .int .u64 (a.x.q : Int), .int .u64 (a.x.h : Int), .int .i64 a.x.x, .int .u64 (a.x.g : Int), .int .u8 (a.x.m.toNat : Int)]
/-- what an act leans on -/
structure ActOk (w : World) (a : ActV) : Prop where
  fates : Fi w a.fa a.fl a.fs
  wf : a.wf
/-- the slice at A reads as the first n acts of L -/
def Acts (w : World) (A : Option Addr) (n : Nat) (L : Nat → ActV) : Prop := ∀ i, i < n → ∃ b off, A = some ⟨b, off, none⟩ ∧ (∀ j v, (L i).cells[j]? = some v → w.cell? ⟨b, off + i * 13 + j, none⟩ = some v) ∧ ActOk w (L i)
theorem ActOk.below {w w' : World} {a : ActV} (h : ActOk w a) (hb : Below w.heap.size w w') : ActOk w' a := ⟨h.fates.below hb, h.wf⟩
theorem Acts.below {w w' : World} {A : Option Addr} {n : Nat} {L : Nat → ActV} (h : Acts w A n L) (hb : Below w.heap.size w w') : Acts w' A n L := by
  intro i hi
  obtain ⟨b, off, e, h0, h1⟩ := h i hi
  exact ⟨b, off, e, fun j v hv => by
    have hc := h0 j v hv
    rw [hb.cell (p := ⟨b, _, none⟩) (World.block_lt_of_cell? w _ hc)]; exact hc, h1.below hb⟩
theorem act_size : Tryz.prog.cellsOf 33 = 13 := by kernel_rfl
theorem sl_size : Tryz.prog.cellsOf 29 = 1 := by kernel_rfl
/-- integers out of their reading -/
theorem ints_of {H : Type} {enc : TypeId × Value → H} {w : World} {base : Nat} {sp : Nat → Bool} {held : Bool} {fuel : Nat} {v : Value} {x : DataW H × List MemPlace}
    (h : DataW.trod enc Tryz.prog w base sp held fuel 29 [v] = some x) : ∃ fa fl fc fs, v = .slice fa fl fc ∧ Fi w fa fl fs ∧ fl ≤ fc ∧ fc ≤ maxLen := by
  rcases open_ints Tryz.underlying29 Tryz.underlying3 i_size h with ⟨hcs, _⟩ | ⟨a, len, cap, zs, hcs, _, hl, hm, hlen, _, hx, hwf⟩
  · simp at hcs
    exact ⟨none, 0, 0, [], hcs, ⟨rfl, fun h => absurd h (by decide)⟩, Nat.le_refl _, by decide⟩
  · simp at hcs
    refine ⟨some a, len, cap, zs.take len, hcs, ?_, hl, hm⟩
    have hle : len ≤ zs.length := by rw [hlen]; split <;> omega
    refine ⟨by simp; omega, fun hne => ?_⟩
    have h0 := hx 0 (by omega)
    obtain ⟨b, off, spot⟩ := a
    have hspot : spot = none := by have := World.cell?_spot h0; simpa [Addr.add] using this
    subst hspot
    refine ⟨b, off, rfl, fun j y hy => ?_⟩
    rw [List.getElem?_map] at hy
    obtain ⟨z, hz, rfl⟩ := Option.map_eq_some_iff.1 hy
    have hj : j < len := by
      rcases Nat.lt_or_ge j len with h | h
      · exact h
      · rw [List.getElem?_eq_none (by simp; omega)] at hz; cases hz
    have := hx j (by omega)
    rw [Go.WideShapes.add_plain] at this
    rw [this]
    rw [List.getElem?_take, if_pos hj] at hz
    simp [List.getD, hz]
/-- a slice of integers that came in -/
theorem open_fates {H : Type} {enc : TypeId × Value → H} {w : World} {a : Option Addr} {len cap : Nat} {d : DataW H} {p : List MemPlace} {base : Nat} {sp : Nat → Bool} {held : Bool}
    (h : DataW.Trod enc Tryz.prog w base sp held 29 (.slice a len cap) d p) : len ≤ cap ∧ cap ≤ maxLen ∧ ∃ fs, Fi w a len fs := by
  obtain ⟨fuel, hf⟩ := h
  obtain ⟨fa, fl, fc, fs, e, h1, h2, h3⟩ := ints_of (v := .slice a len cap) hf
  injection e with e1 e2 e3
  subst e1 e2 e3
  exact ⟨h2, h3, fs, h1⟩
set_option maxRecDepth 100000 in
/-- one act out of its reading -/
theorem act_of {H : Type} {enc : TypeId × Value → H} {w : World} {base : Nat} {sp : Nat → Bool} {held : Bool} {fuel : Nat} {cs : List Value} {x : DataW H × List MemPlace}
    (h : DataW.trod enc Tryz.prog w base sp held fuel 33 cs = some x) : ∃ a : ActV, cs = a.cells ∧ ActOk w a := by
  obtain ⟨ys, m, _, _, hl, hyl, hf⟩ := DataW.trod_struct Tryz.underlying33 h
  rw [act_size] at hl
  match cs, hl with
  | [v0, v1, v2, v3, v4, v5, v6, v7, v8, v9, v10, v11, v12], _ =>
    have hys : ys.length = 9 := hyl
    have h0 := hf 0 _ rfl
    have h1 := hf 1 _ rfl
    have h2 := hf 2 _ rfl
    have h3 := hf 3 _ rfl
    have h4 := hf 4 _ rfl
    have h5 := hf 5 _ rfl
    have h6 := hf 6 _ rfl
    have h7 := hf 7 _ rfl
    have h8 := hf 8 _ rfl
    rw [List.getElem?_eq_getElem (by omega)] at h0 h1 h2 h3 h4 h5 h6 h7 h8
    have g7 : DataW.trod enc Tryz.prog w base sp held m 29 [v7] = some (ys[7]'(by omega)) := by
      have h' : DataW.trod enc Tryz.prog w base sp held m 29 (([v0, v1, v2, v3, v4, v5, v6, v7, v8, v9, v10, v11, v12].drop 7).take (Tryz.prog.cellsOf 29)) = some (ys[7]'(by omega)) := h7
      rw [sl_size] at h'
      exact h'
    have g8 : DataW.trod enc Tryz.prog w base sp held m 31 [v8, v9, v10, v11, v12] = some (ys[8]'(by omega)) := by
      have h' : DataW.trod enc Tryz.prog w base sp held m 31 (([v0, v1, v2, v3, v4, v5, v6, v7, v8, v9, v10, v11, v12].drop 8).take (Tryz.prog.cellsOf 31)) = some (ys[8]'(by omega)) := h8
      rw [rc_size] at h'
      exact h'
    clear h7 h8
    obtain ⟨z0, e0, _, f0⟩ := DataW.trod_int Tryz.underlying3 h0
    obtain ⟨z1, e1, _, f1⟩ := DataW.trod_int Tryz.underlying3 h1
    obtain ⟨z2, e2, _, f2⟩ := DataW.trod_int Tryz.underlying3 h2
    obtain ⟨z3, e3, _, f3⟩ := DataW.trod_int Tryz.underlying27 h3
    obtain ⟨z4, e4, _, f4⟩ := DataW.trod_int Tryz.underlying5 h4
    obtain ⟨z5, e5, _, f5⟩ := DataW.trod_int Tryz.underlying27 h5
    obtain ⟨z6, e6, _, f6⟩ := DataW.trod_int Tryz.underlying27 h6
    obtain ⟨fa, fl, fc, fs, e7, k7, k7a, k7b⟩ := ints_of g7
    obtain ⟨g, hg⟩ := rc_arg (cs := #[v8, v9, v10, v11, v12]) ⟨m, g8⟩
    have hg' := congrArg Array.toList hg
    simp [i_size, u_size, b_size] at e0 e1 e2 e3 e4 e5 e6
    have b1 : -9223372036854775808 ≤ z1 ∧ z1 ≤ 9223372036854775807 := by simp [Lit.wf, IntKind.min, IntKind.max, IntKind.signed, IntKind.bits] at f1; omega
    have b3 : z3.toNat < 18446744073709551616 := by simp [Lit.wf, IntKind.min, IntKind.max, IntKind.signed, IntKind.bits] at f3; omega
    have b5 : z5.toNat < 18446744073709551616 := by simp [Lit.wf, IntKind.min, IntKind.max, IntKind.signed, IntKind.bits] at f5; omega
    have b6 : z6.toNat < 18446744073709551616 := by simp [Lit.wf, IntKind.min, IntKind.max, IntKind.signed, IntKind.bits] at f6; omega
    refine ⟨⟨z0, z1, z2, z3.toNat, UInt8.ofNat z4.toNat, z5.toNat, z6.toNat, fa, fl, fc, fs, g⟩, ?_, k7, ⟨b3, b5, b6⟩, k7a, k7b, b1⟩
    simp only [List.cons.injEq, and_true] at hg'
    obtain ⟨q0, q1, q2, q3, q4⟩ := hg'
    show _ = [Value.int .i64 z0, .int .i64 z1, .int .i64 z2, .int .u64 ((z3.toNat : Nat) : Int), .int .u8 (((UInt8.ofNat z4.toNat).toNat : Nat) : Int), .int .u64 ((z5.toNat : Nat) : Int), .int .u64 ((z6.toNat : Nat) : Int), .slice fa fl fc, .int .u64 (g.q : Int), .int .u64 (g.h : Int), .int .i64 g.x, .int .u64 (g.g : Int), .int .u8 (g.m.toNat : Int)]
    rw [← u64_nat f3, ← u64_nat f5, ← u64_nat f6, ← u8_nat f4, e0, e1, e2, e3, e4, e5, e6, e7, q0, q1, q2, q3, q4]
set_option maxRecDepth 100000 in
theorem open_acts {H : Type} {enc : TypeId × Value → H} {w : World} {a : Option Addr} {len cap : Nat} {d : DataW H} {p : List MemPlace} {base : Nat} {sp : Nat → Bool} {held : Bool}
    (h : DataW.Trod enc Tryz.prog w base sp held 23 (.slice a len cap) d p) : len ≤ cap ∧ cap ≤ maxLen ∧ ∃ L, Acts w a len L := by
  obtain ⟨fuel, hf⟩ := h
  rcases open_slice Tryz.underlying23 hf with ⟨hcs, _⟩ | ⟨x, l, c, m, n', D, Pl, hcs, _, hl, hm, hmm, _, hx⟩
  · simp [Value.cells] at hcs
    obtain ⟨rfl, rfl, rfl⟩ := hcs
    exact ⟨Nat.le_refl _, by decide, fun _ => act0, fun i hi => by omega⟩
  · simp [Value.cells] at hcs
    obtain ⟨rfl, rfl, rfl⟩ := hcs
    refine ⟨hl, hm, ?_⟩
    have hlm : len ≤ m := by rw [hmm]; split <;> omega
    have each : ∀ i, ∃ v : ActV, i < len → ∃ b off, some x = some ⟨b, off, none⟩ ∧ (∀ j u, v.cells[j]? = some u → w.cell? ⟨b, off + i * 13 + j, none⟩ = some u) ∧ ActOk w v := by
      intro i
      by_cases hi : i < len
      · obtain ⟨cs', hc, ht⟩ := hx i (by omega)
        rw [act_size] at hc
        obtain ⟨v, rfl, k1⟩ := act_of ht
        obtain ⟨_, _, hat⟩ := World.cells?_some hc
        obtain ⟨b, off, spot⟩ := x
        have hspot : spot = none := by
          obtain ⟨cs2, hc2, ht2⟩ := hx 0 (by omega)
          rw [act_size] at hc2
          obtain ⟨v2, rfl, _⟩ := act_of ht2
          obtain ⟨_, _, hat2⟩ := World.cells?_some hc2
          have := World.cell?_spot (hat2 0 (by omega))
          simpa [Addr.add] using this
        subst hspot
        refine ⟨v, fun _ => ⟨b, off, rfl, fun j y hy => ?_, k1⟩⟩
        have hj : j < 13 := by
          rcases Nat.lt_or_ge j 13 with h | h
          · exact h
          · rw [List.getElem?_eq_none (by simpa [ActV.cells] using h)] at hy; cases hy
        have c0 := hat j (by omega)
        rw [Go.WideShapes.add_plain] at c0
        rw [Go.WideShapes.add_plain] at c0
        rw [c0]
        exact hy
      · exact ⟨act0, fun h => absurd h hi⟩
    exact ⟨fun i => Classical.choose (each i), fun i hi => Classical.choose_spec (each i) hi⟩
end Go.Proofs.YtikbbikcacoobaaGreatDoor.Pd.Iv
