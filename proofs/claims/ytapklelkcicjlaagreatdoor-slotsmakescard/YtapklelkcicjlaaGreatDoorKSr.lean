/-
  Elder texts, one behind the other: SlActs, SlDoKit, SlAt. No conditions.
-/
import Derived.Test.YtapklelkcicjlaaGreatDoorSlLawKit
import Derived.Test.YtapklelkcicjlaaGreatDoorKSq
import Derived.ProofKit
import Derived.OpenShut
import Derived.Deep.Slices
import Derived.Deep.Fields
import Derived.ChangeSame
import Derived.Laws.BitsLemmas
import Derived.BigQuiet
/-! Lists of acts that came in. No conditions. -/
namespace Go.Proofs.YtapklelkcicjlaaGreatDoor.Pd.Sl
set_option maxRecDepth 100000
open Go.ChangeShapes Go.WideShapes Go.RowKit Go.Deep Oc Dm W Dw Sr W.Hd
set_option linter.unusedVariables false

/-- an act -/
structure ActV where
  kind : Int
  slot : Int
  lba : Int
  gn : Nat
  fill : UInt8
  size : Int
  n : Int
  bit : Int
  turn : Nat
  a : Nat
  b : Nat
  fa : Option Addr
  fl : Nat
  fc : Nat
  fs : List Int
  h : Hd
def act0 : ActV := ⟨0, 0, 0, 0, 0, 0, 0, 0, 0, 0, 0, none, 0, 0, [], zr⟩
abbrev i64r (z : Int) : Prop := -9223372036854775808 ≤ z ∧ z ≤ 9223372036854775807
def ActV.wf (a : ActV) : Prop := (a.gn < 18446744073709551616 ∧ a.a < 18446744073709551616 ∧ a.b < 18446744073709551616 ∧ a.turn < 4294967296) ∧ a.fl ≤ a.fc ∧ a.fc ≤ maxLen ∧ i64r a.slot ∧ i64r a.lba ∧ i64r a.size ∧ i64r a.n ∧ i64r a.bit ∧ (a.h.g < 18446744073709551616 ∧ i64r a.h.l)
def ActV.cells (a : ActV) : List Value := [.int .i64 a.kind, .int .i64 a.slot, .int .i64 a.lba, .int .u64 (a.gn : Int), .int .u8 (a.fill.toNat : Int), .int .i64 a.size, .int .i64 a.n, .int .i64 a.bit, .int .u32 (a.turn : Int), .int .u64 (a.a : Int), .int .u64 (a.b : Int), .slice a.fa a.fl a.fc, .bool a.h.u, .int .i64 a.h.l, .int .u64 (a.h.g : Int), .int .u32 (a.h.s.toNat : Int), .int .u32 (a.h.r.toNat : Int)]
/-- what an act leans on -/
structure ActOk (w : World) (a : ActV) : Prop where
  fates : Fi w a.fa a.fl a.fs
  wf : a.wf
/-- the slice at A reads as the first n acts of L -/
def Acts (w : World) (A : Option Addr) (n : Nat) (L : Nat → ActV) : Prop := ∀ i, i < n → ∃ b off, A = some ⟨b, off, none⟩ ∧ (∀ j v, (L i).cells[j]? = some v → w.cell? ⟨b, off + i * 17 + j, none⟩ = some v) ∧ ActOk w (L i)
theorem ActOk.below {w w' : World} {a : ActV} (h : ActOk w a) (hb : Below w.heap.size w w') : ActOk w' a := ⟨h.fates.below hb, h.wf⟩
theorem Acts.below {w w' : World} {A : Option Addr} {n : Nat} {L : Nat → ActV} (h : Acts w A n L) (hb : Below w.heap.size w w') : Acts w' A n L := by
  intro i hi
  obtain ⟨b, off, e, h0, h1⟩ := h i hi
  exact ⟨b, off, e, fun j v hv => by
    have hc := h0 j v hv
    rw [hb.cell (p := ⟨b, _, none⟩) (World.block_lt_of_cell? w _ hc)]; exact hc, h1.below hb⟩
theorem act_size : Tryz.prog.cellsOf 34 = 17 := by kernel_rfl
theorem sl_size : Tryz.prog.cellsOf 24 = 1 := by kernel_rfl
/-- integers out of their reading -/
theorem ints_of {H : Type} {enc : TypeId × Value → H} {w : World} {base : Nat} {sp : Nat → Bool} {held : Bool} {fuel : Nat} {v : Value} {x : DataW H × List MemPlace}
    (h : DataW.trod enc Tryz.prog w base sp held fuel 24 [v] = some x) : ∃ fa fl fc fs, v = .slice fa fl fc ∧ Fi w fa fl fs ∧ fl ≤ fc ∧ fc ≤ maxLen := by
  rcases open_ints Tryz.underlying24 Tryz.underlying3 W.Hd.i_size h with ⟨hcs, _⟩ | ⟨a, len, cap, zs, hcs, _, hl, hm, hlen, _, hx, hwf⟩
  · simp at hcs
    exact ⟨none, 0, 0, [], hcs, ⟨rfl, fun h => absurd h (by decide)⟩, Nat.le_refl _, by decide⟩
  · simp at hcs
    refine ⟨some a, len, cap, zs.take len, hcs, ?_, hl, hm⟩
    have hle : len ≤ zs.length := by rw [hlen]; split <;> omega
    refine ⟨by simp; omega, fun hne => ?_⟩
    have h0 := hx 0 (by omega)
    obtain ⟨b, off, spot⟩ := a
    have hspot : spot = none := by have := World.cell?_spot h0; simpa [Addr.add] using this
    subst hspot
    refine ⟨b, off, rfl, fun j y hy => ?_⟩
    rw [List.getElem?_map] at hy
    obtain ⟨z, hz, rfl⟩ := Option.map_eq_some_iff.1 hy
    have hj : j < len := by
      rcases Nat.lt_or_ge j len with h | h
      · exact h
      · rw [List.getElem?_eq_none (by simp; omega)] at hz; cases hz
    have := hx j (by omega)
    rw [Go.WideShapes.add_plain] at this
    rw [this]
    rw [List.getElem?_take, if_pos hj] at hz
    simp [List.getD, hz]
/-- a slice of integers that came in -/
theorem open_fates {H : Type} {enc : TypeId × Value → H} {w : World} {a : Option Addr} {len cap : Nat} {d : DataW H} {p : List MemPlace} {base : Nat} {sp : Nat → Bool} {held : Bool}
    (h : DataW.Trod enc Tryz.prog w base sp held 24 (.slice a len cap) d p) : len ≤ cap ∧ cap ≤ maxLen ∧ ∃ fs, Fi w a len fs := by
  obtain ⟨fuel, hf⟩ := h
  obtain ⟨fa, fl, fc, fs, e, h1, h2, h3⟩ := ints_of (v := .slice a len cap) hf
  injection e with e1 e2 e3
  subst e1 e2 e3
  exact ⟨h2, h3, fs, h1⟩
theorem c8_size : Tryz.prog.cellsOf 5 = 1 := by kernel_rfl
theorem u8_nat {a : Int} (h : (Lit.int .u8 a).wf = true) : a = (((UInt8.ofNat a.toNat).toNat : Nat) : Int) := by
  simp [Lit.wf, IntKind.min, IntKind.max, IntKind.signed, IntKind.bits] at h
  simp
  omega
theorem i64_r {z : Int} (f : (Lit.int .i64 z).wf = true) : i64r z := by
  simp [Lit.wf, IntKind.min, IntKind.max, IntKind.signed, IntKind.bits] at f
  unfold i64r
  omega
theorem u64_r {z : Int} (f : (Lit.int .u64 z).wf = true) : z.toNat < 18446744073709551616 := by
  simp [Lit.wf, IntKind.min, IntKind.max, IntKind.signed, IntKind.bits] at f
  omega
theorem u32_r {z : Int} (f : (Lit.int .u32 z).wf = true) : z = ((z.toNat : Nat) : Int) ∧ z.toNat < 4294967296 := by
  simp [Lit.wf, IntKind.min, IntKind.max, IntKind.signed, IntKind.bits] at f
  omega
set_option maxRecDepth 100000 in
/-- a head among cells, out of its reading -/
theorem hd_of {H : Type} {enc : TypeId × Value → H} {w : World} {base : Nat} {sp : Nat → Bool} {held : Bool} {fuel : Nat} {v0 v1 v2 v3 v4 : Value} {x : DataW H × List MemPlace}
    (h : DataW.trod enc Tryz.prog w base sp held fuel 32 [v0, v1, v2, v3, v4] = some x) : ∃ g : Hd, [v0, v1, v2, v3, v4] = [Value.bool g.u, .int .i64 g.l, .int .u64 (g.g : Int), .int .u32 (g.s.toNat : Int), .int .u32 (g.r.toNat : Int)] ∧ g.g < 18446744073709551616 ∧ i64r g.l := by
  obtain ⟨ys, m, _, _, hl, hyl, hf⟩ := DataW.trod_struct Tryz.underlying32 h
  have hys : ys.length = 5 := hyl
  have h0 := hf 0 _ rfl
  have h1 := hf 1 _ rfl
  have h2 := hf 2 _ rfl
  have h3 := hf 3 _ rfl
  have h4 := hf 4 _ rfl
  rw [List.getElem?_eq_getElem (by omega)] at h0 h1 h2 h3 h4
  obtain ⟨z0, e0, _⟩ := DataW.trod_bool Tryz.underlying4 h0
  obtain ⟨z1, e1, _, f1⟩ := DataW.trod_int Tryz.underlying3 h1
  obtain ⟨z2, e2, _, f2⟩ := DataW.trod_int Tryz.underlying29 h2
  obtain ⟨z3, e3, _, f3⟩ := DataW.trod_int Tryz.underlying30 h3
  obtain ⟨z4, e4, _, f4⟩ := DataW.trod_int Tryz.underlying30 h4
  simp [W.Hd.i_size, W.Hd.u_size, W.Hd.l_size, W.Hd.v_size] at e0 e1 e2 e3 e4
  refine ⟨⟨z0, z1, z2.toNat, UInt32.ofNat z3.toNat, UInt32.ofNat z4.toNat⟩, ?_, u64_r f2, i64_r f1⟩
  rw [e0, e1, e2, e3, e4]
  show _ = [Value.bool z0, .int .i64 z1, .int .u64 ((z2.toNat : Nat) : Int), .int .u32 (((UInt32.ofNat z3.toNat).toNat : Nat) : Int), .int .u32 (((UInt32.ofNat z4.toNat).toNat : Nat) : Int)]
  rw [← W.Hd.u64_nat f2, ← W.Hd.u32_nat f3, ← W.Hd.u32_nat f4]
set_option maxRecDepth 100000 in
/-- one act out of its reading -/
theorem act_of {H : Type} {enc : TypeId × Value → H} {w : World} {base : Nat} {sp : Nat → Bool} {held : Bool} {fuel : Nat} {cs : List Value} {x : DataW H × List MemPlace}
    (h : DataW.trod enc Tryz.prog w base sp held fuel 34 cs = some x) : ∃ a : ActV, cs = a.cells ∧ ActOk w a := by
  obtain ⟨ys, m, _, _, hl, hyl, hf⟩ := DataW.trod_struct Tryz.underlying34 h
  rw [act_size] at hl
  match cs, hl with
  | [v0, v1, v2, v3, v4, v5, v6, v7, v8, v9, v10, v11, v12, v13, v14, v15, v16], _ =>
    have hys : ys.length = 13 := hyl
    have h0 := hf 0 _ rfl
    have h1 := hf 1 _ rfl
    have h2 := hf 2 _ rfl
    have h3 := hf 3 _ rfl
    have h4 := hf 4 _ rfl
    have h5 := hf 5 _ rfl
    have h6 := hf 6 _ rfl
    have h7 := hf 7 _ rfl
    have h8 := hf 8 _ rfl
    have h9 := hf 9 _ rfl
    have h10 := hf 10 _ rfl
    have h11 := hf 11 _ rfl
    have h12 := hf 12 _ rfl
    rw [List.getElem?_eq_getElem (by omega)] at h0 h1 h2 h3 h4 h5 h6 h7 h8 h9 h10 h11 h12
    have g11 : DataW.trod enc Tryz.prog w base sp held m 24 [v11] = some (ys[11]'(by omega)) := by
      have h' : DataW.trod enc Tryz.prog w base sp held m 24 (([v0, v1, v2, v3, v4, v5, v6, v7, v8, v9, v10, v11, v12, v13, v14, v15, v16].drop 11).take (Tryz.prog.cellsOf 24)) = some (ys[11]'(by omega)) := h11
      rw [sl_size] at h'
      exact h'
    have g12 : DataW.trod enc Tryz.prog w base sp held m 32 [v12, v13, v14, v15, v16] = some (ys[12]'(by omega)) := by
      have h' : DataW.trod enc Tryz.prog w base sp held m 32 (([v0, v1, v2, v3, v4, v5, v6, v7, v8, v9, v10, v11, v12, v13, v14, v15, v16].drop 12).take (Tryz.prog.cellsOf 32)) = some (ys[12]'(by omega)) := h12
      rw [W.Hd.hd_size] at h'
      exact h'
    clear h11 h12
    obtain ⟨z0, e0, _, f0⟩ := DataW.trod_int Tryz.underlying3 h0
    obtain ⟨z1, e1, _, f1⟩ := DataW.trod_int Tryz.underlying3 h1
    obtain ⟨z2, e2, _, f2⟩ := DataW.trod_int Tryz.underlying3 h2
    obtain ⟨z3, e3, _, f3⟩ := DataW.trod_int Tryz.underlying29 h3
    obtain ⟨z4, e4, _, f4⟩ := DataW.trod_int Tryz.underlying5 h4
    obtain ⟨z5, e5, _, f5⟩ := DataW.trod_int Tryz.underlying3 h5
    obtain ⟨z6, e6, _, f6⟩ := DataW.trod_int Tryz.underlying3 h6
    obtain ⟨z7, e7, _, f7⟩ := DataW.trod_int Tryz.underlying3 h7
    obtain ⟨z8, e8, _, f8⟩ := DataW.trod_int Tryz.underlying30 h8
    obtain ⟨z9, e9, _, f9⟩ := DataW.trod_int Tryz.underlying29 h9
    obtain ⟨z10, e10, _, f10⟩ := DataW.trod_int Tryz.underlying29 h10
    obtain ⟨fa, fl, fc, fs, e11, k7, k7a, k7b⟩ := ints_of g11
    obtain ⟨g, hg, hg2, hg3⟩ := hd_of g12
    simp [W.Hd.i_size, W.Hd.u_size, W.Hd.v_size, c8_size] at e0 e1 e2 e3 e4 e5 e6 e7 e8 e9 e10
    obtain ⟨t1, t2⟩ := u32_r f8
    refine ⟨⟨z0, z1, z2, z3.toNat, UInt8.ofNat z4.toNat, z5, z6, z7, z8.toNat, z9.toNat, z10.toNat, fa, fl, fc, fs, g⟩, ?_, k7, ⟨u64_r f3, u64_r f9, u64_r f10, t2⟩, k7a, k7b, i64_r f1, i64_r f2, i64_r f5, i64_r f6, i64_r f7, hg2, hg3⟩
    simp only [List.cons.injEq, and_true] at hg
    obtain ⟨q0, q1, q2, q3, q4⟩ := hg
    show _ = [Value.int .i64 z0, .int .i64 z1, .int .i64 z2, .int .u64 ((z3.toNat : Nat) : Int), .int .u8 (((UInt8.ofNat z4.toNat).toNat : Nat) : Int), .int .i64 z5, .int .i64 z6, .int .i64 z7, .int .u32 ((z8.toNat : Nat) : Int), .int .u64 ((z9.toNat : Nat) : Int), .int .u64 ((z10.toNat : Nat) : Int), .slice fa fl fc, .bool g.u, .int .i64 g.l, .int .u64 (g.g : Int), .int .u32 (g.s.toNat : Int), .int .u32 (g.r.toNat : Int)]
    rw [← W.Hd.u64_nat f3, ← W.Hd.u64_nat f9, ← W.Hd.u64_nat f10, ← t1, ← u8_nat f4, e0, e1, e2, e3, e4, e5, e6, e7, e8, e9, e10, e11, q0, q1, q2, q3, q4]
set_option maxRecDepth 100000 in
theorem open_acts {H : Type} {enc : TypeId × Value → H} {w : World} {a : Option Addr} {len cap : Nat} {d : DataW H} {p : List MemPlace} {base : Nat} {sp : Nat → Bool} {held : Bool}
    (h : DataW.Trod enc Tryz.prog w base sp held 23 (.slice a len cap) d p) : len ≤ cap ∧ cap ≤ maxLen ∧ ∃ L, Acts w a len L := by
  obtain ⟨fuel, hf⟩ := h
  rcases open_slice Tryz.underlying23 hf with ⟨hcs, _⟩ | ⟨x, l, c, m, n', D, Pl, hcs, _, hl, hm, hmm, _, hx⟩
  · simp [Value.cells] at hcs
    obtain ⟨rfl, rfl, rfl⟩ := hcs
    exact ⟨Nat.le_refl _, by decide, fun _ => act0, fun i hi => by omega⟩
  · simp [Value.cells] at hcs
    obtain ⟨rfl, rfl, rfl⟩ := hcs
    refine ⟨hl, hm, ?_⟩
    have hlm : len ≤ m := by rw [hmm]; split <;> omega
    have each : ∀ i, ∃ v : ActV, i < len → ∃ b off, some x = some ⟨b, off, none⟩ ∧ (∀ j u, v.cells[j]? = some u → w.cell? ⟨b, off + i * 17 + j, none⟩ = some u) ∧ ActOk w v := by
      intro i
      by_cases hi : i < len
      · obtain ⟨cs', hc, ht⟩ := hx i (by omega)
        rw [act_size] at hc
        obtain ⟨v, rfl, k1⟩ := act_of ht
        obtain ⟨_, _, hat⟩ := World.cells?_some hc
        obtain ⟨b, off, spot⟩ := x
        have hspot : spot = none := by
          obtain ⟨cs2, hc2, ht2⟩ := hx 0 (by omega)
          rw [act_size] at hc2
          obtain ⟨v2, rfl, _⟩ := act_of ht2
          obtain ⟨_, _, hat2⟩ := World.cells?_some hc2
          have := World.cell?_spot (hat2 0 (by omega))
          simpa [Addr.add] using this
        subst hspot
        refine ⟨v, fun _ => ⟨b, off, rfl, fun j y hy => ?_, k1⟩⟩
        have hj : j < 17 := by
          rcases Nat.lt_or_ge j 17 with h | h
          · exact h
          · rw [List.getElem?_eq_none (by simpa [ActV.cells] using h)] at hy; cases hy
        have c0 := hat j (by omega)
        rw [Go.WideShapes.add_plain] at c0
        rw [Go.WideShapes.add_plain] at c0
        rw [c0]
        exact hy
      · exact ⟨act0, fun h => absurd h hi⟩
    exact ⟨fun i => Classical.choose (each i), fun i hi => Classical.choose_spec (each i) hi⟩
end Go.Proofs.YtapklelkcicjlaaGreatDoor.Pd.Sl

/-! What the walk of a call on a pair leans on: the act in its box, what such a call leaves. No conditions. -/
namespace Go.Proofs.YtapklelkcicjlaaGreatDoor.Pd.Sl
set_option maxRecDepth 100000
open Go.RowKit Oc Dm W Dw Sr Gt W.Hd
set_option linter.unusedVariables false
set_option maxRecDepth 100000

/-- an act in its box -/
structure Bx (w : World) (P : Nat) (Z : Nat → Prop) (b : Nat) (cs : Array Value) : Prop where
  cells : ∀ j v, cs[j]? = some v → w.cell? ⟨b, j, none⟩ = some v
  lt : b < w.heap.size
  off : ¬ (Z b ∨ b = P)
theorem Bx.kp {w w' : World} {P b : Nat} {Z Z' : Nat → Prop} {cs : Array Value} (h : Bx w P Z b cs) (k : Kp' w P Z w' Z') : Bx w' P Z' b cs :=
  ⟨fun j v e => (World.cell?_of_block (a := ⟨b, j, none⟩) (k.at_ b h.lt h.off).1).trans (h.cells j v e), Nat.lt_of_lt_of_le h.lt k.size, (k.at_ b h.lt h.off).2⟩
theorem L_boxAct {ops : Array Oper} {rest : List Oper} {a : Act} {w : World} {Q : Exit → Act → World → Prop} {dst : Option Tmp} {ty : TypeId} {pos : String} {af : Array Edge} {y : Operand} {cs : Array Value} (hy : a.eval y = .agg cs)
    (hK : ∀ w1, Below w.heap.size w w1 → (∀ (P : Nat) (Z : Nat → Prop), (∀ b, Z b ∨ b = P → b < w.heap.size) → Bx w1 P Z w.heap.size cs) → wpList Tryz.prog ops Q rest (a.put dst (.pointer (some ⟨w.heap.size, 0, none⟩))) w1) :
    wpList Tryz.prog ops Q (⟨dst, .box 34 y, ty, pos, af, none⟩ :: rest) a w := by
  refine wpList_plain rfl fun K hK' => ?_
  have hrun : (Instr.box 34 (.agg cs)).run Tryz.prog w = .ok (.pointer (some ⟨w.heap.size, 0, none⟩)) (w.alloc (.cells cs 34)) := by
    simp [Instr.box, newVar, newRow, Result.andThen, go_sem, Value.cells]
  unfold Oper.wp
  simp [execOp, hy, hrun, Result.andThen]
  refine hK' _ _ (hK _ (balloc _ _) fun P Z hZ => ⟨fun j v e => ?_, by simp, fun x => absurd (hZ _ x) (Nat.lt_irrefl _)⟩)
  rw [cell_of_row _ _ _ _ _ _ (heap_alloc_new w _)]; exact e
/-- what a pair is, behind some doing -/
def St (w0 : World) (P : Nat) (p : Pn.Pl) (n N : Nat) (m1 m2 : Vs) (t1 t2 : Option (List Slt)) (w1 : World) (Z1 : Nat → Prop) (w : World) : Prop :=
  ∃ pw D q E T U F G H1 H2, Pr w0 P p n N pw D q E T U F G H1 H2 m1 m2 t1 t2 w ∧ PHead w P p pw D q E T U ∧ Kp' w1 P Z1 w (Us F pw G q H1 H2)
/-- what a whole call leaves -/
def Done (w0 : World) (P : Nat) (p : Pn.Pl) (n N B ns : Nat) (w1 : World) (Z1 : Nat → Prop) (w : World) : Prop :=
  ∃ m' L', St w0 P p n N m' m' (some L') (some L') w1 Z1 w ∧ L'.length = ns ∧ small L' B
section
variable {w0 w w' w1 : World} {P n N N' pw D q E la ns B B0 : Nat} {p : Pn.Pl} {T U : Option Addr} {F G H1 H2 Z1 : Nat → Prop} {m m' m1 m2 : Vs} {t t' t1 t2 : Option (List Slt)} {L L' : List Slt} {k : Int} {fs : List Int}
theorem Pr.uP (h : Pr w0 P p n N pw D q E T U F G H1 H2 m1 m2 t1 t2 w) : ∀ b, Us F pw G q H1 H2 b ∨ b = P → b < w.heap.size := fun b x => x.elim (fun y => (h.ubound y).2) (fun e => e ▸ h.lt.1)
theorem Pr.okat (h : Pr w0 P p n N pw D q E T U F G H1 H2 m1 m2 t1 t2 w) {a : ActV} (ha : ActOk w0 a) : ActOk w a := ha.below h.bel
theorem phead_all (h : PHead w P p pw D q E T U) : w.cell? ⟨P, 26, none⟩ = some (.pointer (some ⟨pw, 0, none⟩)) ∧ w.cell? ⟨P, 27, none⟩ = some (.pointer (some ⟨D, 0, none⟩)) ∧ w.cell? ⟨P, 28, none⟩ = some (.pointer T) ∧ w.cell? ⟨P, 29, none⟩ = some (.pointer (some ⟨q, 0, none⟩)) ∧ w.cell? ⟨P, 30, none⟩ = some (.pointer (some ⟨E, 0, none⟩)) ∧ w.cell? ⟨P, 31, none⟩ = some (.pointer U) ∧ ∀ j, w.frozen? ⟨P, j, none⟩ = false :=
  ⟨(h.cell 26).1, (h.cell 27).1, (h.cell 28).1, (h.cell 29).1, (h.cell 30).1, (h.cell 31).1, fun j => (h.cell j).2⟩
theorem St.below (h : St w0 P p n N m1 m2 t1 t2 w1 Z1 w) (hb : Below w.heap.size w w') : St w0 P p n N m1 m2 t1 t2 w1 Z1 w' := by
  obtain ⟨pw, D, q, E, T, U, F, G, H1, H2, r, h2, k⟩ := h
  exact ⟨pw, D, q, E, T, U, F, G, H1, H2, r.below hb, h2.below hb, k.trans (Kp'.of_below hb P _)⟩
theorem Done.of (h : Pr w0 P p n N' pw D q E T U F G H1 H2 m' m' (some L') (some L') w) (hh : PHead w P p pw D q E T U) (hk : Kp' w1 P Z1 w (Us F pw G q H1 H2)) (hN : N' ≤ N) (hb : N ≤ 1000000) (hl : L'.length = ns) (hs : small L' B) : Done w0 P p n N B ns w1 Z1 w :=
  ⟨m', L', ⟨pw, D, q, E, T, U, F, G, H1, H2, h.more hN hb, hh, hk⟩, hl, hs⟩
theorem small.more {L : List Slt} {A B : Nat} (h : small L A) (hB : A ≤ B) : small L B := fun s hs => Nat.le_trans (h s hs) hB
theorem small_set {L : List Slt} {A : Nat} (h : small L A) (i : Nat) (s : Slt) (hs : s.f ≤ A) : small (L.set i s) A := fun x hx => by
  rcases List.mem_or_eq_of_mem_set hx with hx | hx
  · exact h x hx
  · rw [hx]; exact hs
theorem small_at {L : List Slt} {A : Nat} (h : small L A) (z : Int) : (at0 L z).f ≤ A := by
  unfold at0
  rw [List.getD_eq_getElem?_getD]
  cases e : L[z.toNat]? with
  | none => exact Nat.zero_le _
  | some s => exact h s (List.mem_of_getElem? e)
theorem fill_small {la : Nat} {z b : Int} {g : Nat} {xs : List UInt8} {A : Nat} {m : Vs} (h : small L A) : small (Sl.fill la z b g xs L m).2.1 A ∧ (Sl.fill la z b g xs L m).2.1.length = L.length := by
  unfold Sl.fill
  split
  · exact ⟨h, rfl⟩
  split
  · exact ⟨h, rfl⟩
  split
  · exact ⟨h, rfl⟩
  split
  · exact ⟨h, rfl⟩
  exact ⟨small_set h _ _ (small_at h z), List.length_set⟩
theorem fault_small {z : Int} {A : Nat} (h : small L A) : small (Sl.fault L z) (A + 1) ∧ (Sl.fault L z).length = L.length := by
  unfold Sl.fault
  split
  · exact ⟨small_set (h.more (Nat.le_succ _)) _ _ (Nat.succ_le_succ (small_at h z)), List.length_set⟩
  · exact ⟨h.more (Nat.le_succ _), rfl⟩
theorem heal_small : small (Sl.heal L) 0 ∧ (Sl.heal L).length = L.length := by
  unfold Sl.heal
  refine ⟨fun s hs => ?_, List.length_map _⟩
  obtain ⟨x, _, rfl⟩ := List.mem_map.1 hs
  exact Nat.le_refl _
theorem opn_len2 (la : Nat) : ∀ k i m, (opn la k i m).1.length = k ∧ small (opn la k i m).1 0
  | 0, i, m => ⟨rfl, fun s hs => absurd hs List.not_mem_nil⟩
  | k + 1, i, m => by
    obtain ⟨h1, h2⟩ := opn_len2 la k (i + 1) (rd1 m (la + 2 * i)).2.2
    refine ⟨congrArg (· + 1) h1, fun s hs => ?_⟩
    rcases List.mem_cons.1 hs with rfl | hs
    · exact Nat.le_refl _
    · exact h2 s hs
/-- the stores of a pair -/
theorem Pr.st1 (h : Pr w0 P p n N pw D q E T U F G H1 H2 m1 m2 (some L) t2 w) : ∃ t g, T = some ⟨t, 0, none⟩ ∧ H1 t ∧ H1 g ∧ SlAt w t g D p L := h.tb1
theorem Pr.st2 (h : Pr w0 P p n N pw D q E T U F G H1 H2 m1 m2 t1 (some L) w) : ∃ t a b, U = some ⟨t, 0, none⟩ ∧ H2 t ∧ H2 a ∧ H2 b ∧ RsAt w t a b E p L := h.tb2
theorem Pr.rset2 (h : Pr w0 P p n N pw D q E T U F G H1 H2 m1 m2 t1 t2 w) (u : Nat) (hu : u < 18446744073709551616) :
    ∃ G', Pr w0 P p n N pw D q E T U F G' H1 H2 m1 { m2 with rd := u } t1 t2 (w.setCell ⟨E, 2, none⟩ (.int .u64 (u : Int))) ∧ (w.setCell ⟨E, 2, none⟩ (.int .u64 (u : Int))).heap[P]? = w.heap[P]? ∧ Kp w (Us F pw G q H1 H2) (w.setCell ⟨E, 2, none⟩ (.int .u64 (u : Int))) (Us F pw G' q H1 H2) := by
  obtain ⟨gs, vs, x⟩ := h.rd.rv
  have c1 : Chg G w (w.setCell ⟨E, 2, none⟩ (.int .u64 (u : Int))) := Chg.of_grown (grown_set w E 2 _) (fun k e _ => by injection e with e; subst e; exact x.inG.1)
  have r : RD (w.setCell ⟨E, 2, none⟩ (.int .u64 (u : Int))) G E q n N { m2 with rd := u } := ⟨h.rd.qw.heap (c1.block q h.rd.qw.lt h.rd.nq), ⟨gs, vs, x.set2 u hu⟩, h.rd.nq, h.rd.hf, h.rd.hs, h.rd.hl, h.rd.hN⟩
  exact ⟨_, h.doc (Nat.le_refl _) h.rd.hN (r.up h.rd.qw.lt c1.size) (c1.mono (fun _ _ y => .inl y))⟩
theorem Pr.rset3 (h : Pr w0 P p n N pw D q E T U F G H1 H2 m1 m2 t1 t2 w) (u : Nat) (hu : u < 18446744073709551616) :
    ∃ G', Pr w0 P p n N pw D q E T U F G' H1 H2 m1 { m2 with wr := u } t1 t2 (w.setCell ⟨E, 3, none⟩ (.int .u64 (u : Int))) ∧ (w.setCell ⟨E, 3, none⟩ (.int .u64 (u : Int))).heap[P]? = w.heap[P]? ∧ Kp w (Us F pw G q H1 H2) (w.setCell ⟨E, 3, none⟩ (.int .u64 (u : Int))) (Us F pw G' q H1 H2) := by
  obtain ⟨gs, vs, x⟩ := h.rd.rv
  have c1 : Chg G w (w.setCell ⟨E, 3, none⟩ (.int .u64 (u : Int))) := Chg.of_grown (grown_set w E 3 _) (fun k e _ => by injection e with e; subst e; exact x.inG.1)
  have r : RD (w.setCell ⟨E, 3, none⟩ (.int .u64 (u : Int))) G E q n N { m2 with wr := u } := ⟨h.rd.qw.heap (c1.block q h.rd.qw.lt h.rd.nq), ⟨gs, vs, x.set3 u hu⟩, h.rd.nq, h.rd.hf, h.rd.hs, h.rd.hl, h.rd.hN⟩
  exact ⟨_, h.doc (Nat.le_refl _) h.rd.hN (r.up h.rd.qw.lt c1.size) (c1.mono (fun _ _ y => .inl y))⟩
end
end Go.Proofs.YtapklelkcicjlaaGreatDoor.Pd.Sl

/-! Where a sector of the slots is. No conditions. -/
namespace Go.Proofs.YtapklelkcicjlaaGreatDoor.Pd.Sl
set_option maxRecDepth 100000
open Go.RowKit Oc Dm W Dw Sr W.Hd
set_option linter.unusedVariables false
set_option maxRecDepth 100000
attribute [local go_sem ↓] Go.wp_at_zero Go.wp_at_succ

theorem fork_on {P : Program} {md : Region.Mode} {ops : Array Oper} {Q : Exit → Act → World → Prop} {S : World → Prop} {t : Nat} {i j : Nat} {o o2 : Oper} {fuel : Nat} {listed : Array Bool} {a : Act} {w : World} (hr : Region.ready md ops listed = [i, j]) (ho : ops[i]? = some o) (hg : Region.wanted o (yielded ops a.tmps) = true) (ho2 : ops[j]? = some o2) (hg2 : Region.wanted o2 (yielded ops a.tmps) = true)
    (h : ∀ K : Act → World → Prop, (∀ a' w', (i ≠ t → S w') → Gt.Gate P md ops Q S t fuel (listed.setIfInBounds i true) a' w' → K a' w') → Oper.wp P o a w K Q)
    (h2 : ∀ K : Act → World → Prop, (∀ a' w', (j ≠ t → S w') → Gt.Gate P md ops Q S t fuel (listed.setIfInBounds j true) a' w' → K a' w') → Oper.wp P o2 a w K Q) : Gt.Gate P md ops Q S t (fuel + 1) listed a w := by
  refine ⟨fun h0 => (by rw [hr] at h0; cases h0), fun x hx => ?_⟩
  rw [hr, List.mem_cons, List.mem_singleton] at hx
  rcases hx with rfl | rfl
  · have := h (fun a' w' => (x ≠ t → S w') ∧ Gt.Gate P md ops Q S t fuel (listed.setIfInBounds x true) a' w') (fun a' w' h1 h2 => ⟨h1, h2⟩)
    unfold wpOp
    rw [ho]
    dsimp only
    rw [if_pos hg]
    exact .inl this
  · have := h2 (fun a' w' => (x ≠ t → S w') ∧ Gt.Gate P md ops Q S t fuel (listed.setIfInBounds x true) a' w') (fun a' w' h1 h2 => ⟨h1, h2⟩)
    unfold wpOp
    rw [ho2]
    dsimp only
    rw [if_pos hg2]
    exact .inl this
/-- which sector -/
def atF (la ns : Nat) (z : Int) : Int := (la : Int) + (z.tmod (2 * (ns : Int)) + 2 * (ns : Int)).tmod (2 * (ns : Int))
theorem atF_in {la ns : Nat} (z : Int) (h : 1 ≤ ns) : ∃ i : Nat, atF la ns z = ((la + i : Nat) : Int) ∧ i < 2 * ns := by
  have h0 : -(2 * (ns : Int)) < z.tmod (2 * (ns : Int)) := Int.lt_tmod_of_pos z (by omega)
  have h1 : 0 ≤ (z.tmod (2 * (ns : Int)) + 2 * (ns : Int)).tmod (2 * (ns : Int)) := by
    rw [Int.tmod_eq_emod_of_nonneg (by omega)]
    exact Int.emod_nonneg _ (by omega)
  have h2 := Int.tmod_lt_of_pos (z.tmod (2 * (ns : Int)) + 2 * (ns : Int)) (show 0 < 2 * (ns : Int) by omega)
  refine ⟨((z.tmod (2 * (ns : Int)) + 2 * (ns : Int)).tmod (2 * (ns : Int))).toNat, ?_, by omega⟩
  unfold atF
  omega
set_option maxHeartbeats 2000000 in
theorem at_any {w : World} {P pw D q E la ns n : Nat} {p : Pn.Pl} {T U : Option Addr} (hh : PHead w P p pw D q E T U) (hp : Pln p la ns n) (z : Int) :
    Calls Tryz.prog 23 #[.pointer (some ⟨P, 0, none⟩), .int .i64 z] w fun e w' => e = .returned (.int .i64 (atF la ns z)) ∧ Below w.heap.size w w' := by
  have c21 : w.cell? ⟨P, 21, none⟩ = some (.int .i64 (la : Int)) := by rw [← hp.h8]; exact (hh.cell 21).1
  have c22 : w.cell? ⟨P, 22, none⟩ = some (.int .i64 (ns : Int)) := by rw [← hp.h9]; exact (hh.cell 22).1
  have h1 := hp.hl
  have h2 := hp.hl2
  have h3 : la ≤ 4096 := by have := hp.hn; have := hp.hn2; omega
  obtain ⟨u, hu⟩ : ∃ u : Int, 2 * (ns : Int) = u := ⟨_, rfl⟩
  have hwu : IntKind.i64.wrap (2 * (ns : Int)) = u := by rw [hu]; exact IntWalk.i64_in _ ⟨by omega, by omega⟩
  obtain ⟨r, hr⟩ : ∃ r, z.tmod u = r := ⟨_, rfl⟩
  have hr1 : -u < r ∧ r < u := by
    rw [← hr]
    exact ⟨Int.lt_tmod_of_pos z (by omega), Int.tmod_lt_of_pos z (by omega)⟩
  obtain ⟨s, hs⟩ : ∃ s, (r + u).tmod u = s := ⟨_, rfl⟩
  have hs1 : 0 ≤ s ∧ s < u := by
    rw [← hs]
    rw [Int.tmod_eq_emod_of_nonneg (by omega)]
    exact ⟨Int.emod_nonneg _ (by omega), Int.emod_lt_of_pos _ (by omega)⟩
  have E1 : Hid (atF la ns z = (la : Int) + s) := by show _ = _; unfold atF; rw [hu, hr, hs]
  have hu9 : 2 ≤ u ∧ u ≤ 512 := by omega
  obtain ⟨hu1, hu2⟩ := hu9
  have hl0 : ¬ u = 0 := by omega
  have hl02 : (u == 0) = false := by simp; omega
  obtain ⟨hr2, hr3⟩ := hr1
  obtain ⟨hs2, hs3⟩ := hs1
  clear hh hp hu
  go_enter Tryz.func23, Tryz.ntmps23
  go_wp2
  go_quiet (fail)
  go_wp2
  go_ret
  refine ⟨?_, below_drewN (Below.refl _ _) nq⟩
  rw [E1.out]
  try rfl
end Go.Proofs.YtapklelkcicjlaaGreatDoor.Pd.Sl
