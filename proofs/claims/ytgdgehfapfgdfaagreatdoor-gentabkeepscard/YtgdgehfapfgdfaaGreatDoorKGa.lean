/-
  Elder texts, one behind the other: GbActs, GbFew. No conditions.
-/
import Derived.Test.YtgdgehfapfgdfaaGreatDoorGbLawKit
import Derived.Test.YtgdgehfapfgdfaaGreatDoorKGd
import Derived.ProofKit
import Derived.OpenShut
import Derived.Deep.Slices
import Derived.Deep.Fields
import Derived.ChangeSame
/-! Lists of acts that came in. No conditions. -/
namespace Go.Proofs.YtgdgehfapfgdfaaGreatDoor.Tb
set_option maxRecDepth 100000
open Go.ChangeShapes Go.WideShapes Go.RowKit Go.Deep Oc Dm W Dw Sr
set_option linter.unusedVariables false

/-- an act -/
structure ActV where
  kind : Int
  n : Int
  la : Option Addr
  ll : Nat
  lc : Nat
  ls : List Int
  a : Nat
  b : Nat
  fa : Option Addr
  fl : Nat
  fc : Nat
  fs : List Int
  x : Gp
def act0 : ActV := ⟨0, 0, none, 0, 0, [], 0, 0, none, 0, 0, [], zp⟩
def ActV.wf (a : ActV) : Prop := a.a < 18446744073709551616 ∧ a.b < 18446744073709551616 ∧ a.ll ≤ a.lc ∧ a.lc ≤ maxLen ∧ a.fl ≤ a.fc ∧ a.fc ≤ maxLen
def ActV.cells (a : ActV) : List Value := [.int .i64 a.kind, .int .i64 a.n, .slice a.la a.ll a.lc, .int .u64 (a.a : Int), .int .u64 (a.b : Int), .slice a.fa a.fl a.fc, .int .i64 a.x.no, .int .u64 (a.x.v : Int), .int .u64 (a.x.g 0 : Int), .int .u64 (a.x.g 1 : Int), .int .u64 (a.x.g 2 : Int), .int .u64 (a.x.g 3 : Int), .int .u64 (a.x.g 4 : Int), .int .u64 (a.x.g 5 : Int)]
/-- what an act leans on -/
structure ActOk (w : World) (a : ActV) : Prop where
  ext : Fi w a.la a.ll a.ls
  fates : Fi w a.fa a.fl a.fs
  wf : a.wf
/-- the slice at A reads as the first n acts of L -/
def Acts (w : World) (A : Option Addr) (n : Nat) (L : Nat → ActV) : Prop := ∀ i, i < n → ∃ b off, A = some ⟨b, off, none⟩ ∧ (∀ j v, (L i).cells[j]? = some v → w.cell? ⟨b, off + i * 14 + j, none⟩ = some v) ∧ ActOk w (L i)
theorem ActOk.below {w w' : World} {a : ActV} (h : ActOk w a) (hb : Below w.heap.size w w') : ActOk w' a := ⟨h.ext.below hb, h.fates.below hb, h.wf⟩
theorem Acts.below {w w' : World} {A : Option Addr} {n : Nat} {L : Nat → ActV} (h : Acts w A n L) (hb : Below w.heap.size w w') : Acts w' A n L := by
  intro i hi
  obtain ⟨b, off, e, h0, h1⟩ := h i hi
  exact ⟨b, off, e, fun j v hv => by
    have hc := h0 j v hv
    rw [hb.cell (p := ⟨b, _, none⟩) (World.block_lt_of_cell? w _ hc)]; exact hc, h1.below hb⟩
theorem act_size : Tryz.prog.cellsOf 35 = 14 := by kernel_rfl
theorem sl_size : Tryz.prog.cellsOf 29 = 1 := by kernel_rfl
/-- integers out of their reading -/
theorem ints_of {H : Type} {enc : TypeId × Value → H} {w : World} {base : Nat} {sp : Nat → Bool} {held : Bool} {fuel : Nat} {v : Value} {x : DataW H × List MemPlace}
    (h : DataW.trod enc Tryz.prog w base sp held fuel 29 [v] = some x) : ∃ fa fl fc fs, v = .slice fa fl fc ∧ Fi w fa fl fs ∧ fl ≤ fc ∧ fc ≤ maxLen := by
  rcases open_ints Tryz.underlying29 Tryz.underlying3 i_size h with ⟨hcs, _⟩ | ⟨a, len, cap, zs, hcs, _, hl, hm, hlen, _, hx, hwf⟩
  · simp at hcs
    exact ⟨none, 0, 0, [], hcs, ⟨rfl, fun h => absurd h (by decide)⟩, Nat.le_refl _, by decide⟩
  · simp at hcs
    refine ⟨some a, len, cap, zs.take len, hcs, ?_, hl, hm⟩
    have hle : len ≤ zs.length := by rw [hlen]; split <;> omega
    refine ⟨by simp; omega, fun hne => ?_⟩
    have h0 := hx 0 (by omega)
    obtain ⟨b, off, spot⟩ := a
    have hspot : spot = none := by have := World.cell?_spot h0; simpa [Addr.add] using this
    subst hspot
    refine ⟨b, off, rfl, fun j y hy => ?_⟩
    rw [List.getElem?_map] at hy
    obtain ⟨z, hz, rfl⟩ := Option.map_eq_some_iff.1 hy
    have hj : j < len := by
      rcases Nat.lt_or_ge j len with h | h
      · exact h
      · rw [List.getElem?_eq_none (by simp; omega)] at hz; cases hz
    have := hx j (by omega)
    rw [Go.WideShapes.add_plain] at this
    rw [this]
    rw [List.getElem?_take, if_pos hj] at hz
    simp [List.getD, hz]
/-- a slice of integers that came in -/
theorem open_fates {H : Type} {enc : TypeId × Value → H} {w : World} {a : Option Addr} {len cap : Nat} {d : DataW H} {p : List MemPlace} {base : Nat} {sp : Nat → Bool} {held : Bool}
    (h : DataW.Trod enc Tryz.prog w base sp held 29 (.slice a len cap) d p) : len ≤ cap ∧ cap ≤ maxLen ∧ ∃ fs, Fi w a len fs := by
  obtain ⟨fuel, hf⟩ := h
  obtain ⟨fa, fl, fc, fs, e, h1, h2, h3⟩ := ints_of (v := .slice a len cap) hf
  injection e with e1 e2 e3
  subst e1 e2 e3
  exact ⟨h2, h3, fs, h1⟩
set_option maxRecDepth 100000 in
/-- one act out of its reading -/
theorem act_of {H : Type} {enc : TypeId × Value → H} {w : World} {base : Nat} {sp : Nat → Bool} {held : Bool} {fuel : Nat} {cs : List Value} {x : DataW H × List MemPlace}
    (h : DataW.trod enc Tryz.prog w base sp held fuel 35 cs = some x) : ∃ a : ActV, cs = a.cells ∧ ActOk w a := by
  obtain ⟨ys, m, _, _, hl, hyl, hf⟩ := DataW.trod_struct Tryz.underlying35 h
  rw [act_size] at hl
  match cs, hl with
  | [v0, v1, v2, v3, v4, v5, v6, v7, v8, v9, v10, v11, v12, v13], _ =>
    have hys : ys.length = 7 := hyl
    have h0 := hf 0 _ rfl
    have h1 := hf 1 _ rfl
    have h2 := hf 2 _ rfl
    have h3 := hf 3 _ rfl
    have h4 := hf 4 _ rfl
    have h5 := hf 5 _ rfl
    have h6 := hf 6 _ rfl
    rw [List.getElem?_eq_getElem (by omega)] at h0 h1 h2 h3 h4 h5 h6
    have g2 : DataW.trod enc Tryz.prog w base sp held m 29 [v2] = some (ys[2]'(by omega)) := by
      have h' : DataW.trod enc Tryz.prog w base sp held m 29 (([v0, v1, v2, v3, v4, v5, v6, v7, v8, v9, v10, v11, v12, v13].drop 2).take (Tryz.prog.cellsOf 29)) = some (ys[2]'(by omega)) := h2
      rw [sl_size] at h'
      exact h'
    have g5 : DataW.trod enc Tryz.prog w base sp held m 29 [v5] = some (ys[5]'(by omega)) := by
      have h' : DataW.trod enc Tryz.prog w base sp held m 29 (([v0, v1, v2, v3, v4, v5, v6, v7, v8, v9, v10, v11, v12, v13].drop 5).take (Tryz.prog.cellsOf 29)) = some (ys[5]'(by omega)) := h5
      rw [sl_size] at h'
      exact h'
    have g6 : DataW.trod enc Tryz.prog w base sp held m 33 [v6, v7, v8, v9, v10, v11, v12, v13] = some (ys[6]'(by omega)) := by
      have h' : DataW.trod enc Tryz.prog w base sp held m 33 (([v0, v1, v2, v3, v4, v5, v6, v7, v8, v9, v10, v11, v12, v13].drop 6).take (Tryz.prog.cellsOf 33)) = some (ys[6]'(by omega)) := h6
      rw [gp_size] at h'
      exact h'
    clear h2 h5 h6
    obtain ⟨z0, e0, _, f0⟩ := DataW.trod_int Tryz.underlying3 h0
    obtain ⟨z1, e1, _, f1⟩ := DataW.trod_int Tryz.underlying3 h1
    obtain ⟨z3, e3, _, f3⟩ := DataW.trod_int Tryz.underlying30 h3
    obtain ⟨z4, e4, _, f4⟩ := DataW.trod_int Tryz.underlying30 h4
    obtain ⟨la, ll, lc, ls, e2, k2, k2a, k2b⟩ := ints_of g2
    obtain ⟨fa, fl, fc, fs, e5, k5, k5a, k5b⟩ := ints_of g5
    obtain ⟨g, hg⟩ := gp_arg (cs := #[v6, v7, v8, v9, v10, v11, v12, v13]) ⟨m, g6⟩
    have hg' := congrArg Array.toList hg
    simp [i_size, u_size] at e0 e1 e3 e4
    have b3 : z3.toNat < 18446744073709551616 := by simp [Lit.wf, IntKind.min, IntKind.max, IntKind.signed, IntKind.bits] at f3; omega
    have b4 : z4.toNat < 18446744073709551616 := by simp [Lit.wf, IntKind.min, IntKind.max, IntKind.signed, IntKind.bits] at f4; omega
    refine ⟨⟨z0, z1, la, ll, lc, ls, z3.toNat, z4.toNat, fa, fl, fc, fs, g⟩, ?_, k2, k5, b3, b4, k2a, k2b, k5a, k5b⟩
    simp only [List.cons.injEq, and_true] at hg'
    obtain ⟨q0, q1, q2, q3, q4, q5, q6, q7⟩ := hg'
    show _ = [Value.int .i64 z0, .int .i64 z1, .slice la ll lc, .int .u64 ((z3.toNat : Nat) : Int), .int .u64 ((z4.toNat : Nat) : Int), .slice fa fl fc, .int .i64 g.no, .int .u64 (g.v : Int), .int .u64 (g.g 0 : Int), .int .u64 (g.g 1 : Int), .int .u64 (g.g 2 : Int), .int .u64 (g.g 3 : Int), .int .u64 (g.g 4 : Int), .int .u64 (g.g 5 : Int)]
    rw [← u64_nat f3, ← u64_nat f4, e0, e1, e2, e3, e4, e5, q0, q1, q2, q3, q4, q5, q6, q7]

set_option maxRecDepth 100000 in
theorem open_acts {H : Type} {enc : TypeId × Value → H} {w : World} {a : Option Addr} {len cap : Nat} {d : DataW H} {p : List MemPlace} {base : Nat} {sp : Nat → Bool} {held : Bool}
    (h : DataW.Trod enc Tryz.prog w base sp held 23 (.slice a len cap) d p) : len ≤ cap ∧ cap ≤ maxLen ∧ ∃ L, Acts w a len L := by
  obtain ⟨fuel, hf⟩ := h
  rcases open_slice Tryz.underlying23 hf with ⟨hcs, _⟩ | ⟨x, l, c, m, n', D, Pl, hcs, _, hl, hm, hmm, _, hx⟩
  · simp [Value.cells] at hcs
    obtain ⟨rfl, rfl, rfl⟩ := hcs
    exact ⟨Nat.le_refl _, by decide, fun _ => act0, fun i hi => by omega⟩
  · simp [Value.cells] at hcs
    obtain ⟨rfl, rfl, rfl⟩ := hcs
    refine ⟨hl, hm, ?_⟩
    have hlm : len ≤ m := by rw [hmm]; split <;> omega
    have each : ∀ i, ∃ v : ActV, i < len → ∃ b off, some x = some ⟨b, off, none⟩ ∧ (∀ j u, v.cells[j]? = some u → w.cell? ⟨b, off + i * 14 + j, none⟩ = some u) ∧ ActOk w v := by
      intro i
      by_cases hi : i < len
      · obtain ⟨cs', hc, ht⟩ := hx i (by omega)
        rw [act_size] at hc
        obtain ⟨v, rfl, k1⟩ := act_of ht
        obtain ⟨_, _, hat⟩ := World.cells?_some hc
        obtain ⟨b, off, spot⟩ := x
        have hspot : spot = none := by
          obtain ⟨cs2, hc2, ht2⟩ := hx 0 (by omega)
          rw [act_size] at hc2
          obtain ⟨v2, rfl, _⟩ := act_of ht2
          obtain ⟨_, _, hat2⟩ := World.cells?_some hc2
          have := World.cell?_spot (hat2 0 (by omega))
          simpa [Addr.add] using this
        subst hspot
        refine ⟨v, fun _ => ⟨b, off, rfl, fun j y hy => ?_, k1⟩⟩
        have hj : j < 14 := by
          rcases Nat.lt_or_ge j 14 with h | h
          · exact h
          · rw [List.getElem?_eq_none (by simpa [ActV.cells] using h)] at hy; cases hy
        have c0 := hat j (by omega)
        rw [Go.WideShapes.add_plain] at c0
        rw [Go.WideShapes.add_plain] at c0
        rw [c0]
        exact hy
      · exact ⟨act0, fun h => absurd h hi⟩
    exact ⟨fun i => Classical.choose (each i), fun i hi => Classical.choose_spec (each i) hi⟩
end Go.Proofs.YtgdgehfapfgdfaaGreatDoor.Tb

/-! Acts of which not more than so many are looked at, each of short lists. No conditions. -/
namespace Go.Proofs.YtgdgehfapfgdfaaGreatDoor.Tb
set_option maxRecDepth 100000
open Go.RowKit Oc Dm W Dw Sr
set_option linter.unusedVariables false
set_option maxRecDepth 100000
attribute [local go_sem ↓] Go.wp_at_zero Go.wp_at_succ

def cut (a : ActV) : ActV := if 12 < a.ll then { a with ll := 12, ls := a.ls.take 12 } else a
theorem fi_take {w : World} {A : Option Addr} {k j : Nat} {fs : List Int} (h : Fi w A k fs) (hj : j ≤ k) : Fi w A j (fs.take j) := by
  have hl := fi_len h
  refine ⟨by rw [List.length_map, List.length_take]; omega, fun h0 => ?_⟩
  obtain ⟨b, off, e, hc⟩ := h.2 (by omega)
  refine ⟨b, off, e, fun i y hy => hc i y ?_⟩
  rw [List.getElem?_map] at hy ⊢
  rw [List.getElem?_take] at hy
  split at hy
  · exact hy
  · cases hy
theorem cut_ok {w : World} {a : ActV} (h : ActOk w a) : ActOk w (cut a) ∧ (cut a).ll ≤ 12 := by
  unfold cut
  split
  · rename_i hl
    have hl12 : 12 ≤ a.ll := by omega
    refine ⟨⟨fi_take h.ext hl12, h.fates, h.wf.1, h.wf.2.1, ?_, h.wf.2.2.2.1, h.wf.2.2.2.2⟩, Nat.le_refl _⟩
    have := h.wf.2.2.1
    show 12 ≤ a.lc
    omega
  · exact ⟨h, by omega⟩
theorem act_one (a : ActV) : ∀ u ∈ a.cells, u.oneCell' = true := by
  intro u hu
  unfold ActV.cells at hu
  simp at hu
  rcases hu with rfl | rfl | rfl | rfl | rfl | rfl | rfl | rfl | rfl | rfl | rfl | rfl | rfl | rfl <;> rfl
def fewL (L : Nat → ActV) (k : Nat) : List (List Value) := (List.range k).map fun i => (cut (L i)).cells
theorem fewL_len (L : Nat → ActV) (k : Nat) : (fewL L k).length = k := by simp [fewL]
theorem fewL_snoc (L : Nat → ActV) (k : Nat) : fewL L (k + 1) = fewL L k ++ [(cut (L k)).cells] := by unfold fewL; rw [List.range_succ, List.map_append]; rfl
theorem fewL_at {L : Nat → ActV} {k i : Nat} (h : i < k) : (fewL L k)[i]? = some (cut (L i)).cells := by
  unfold fewL
  rw [List.getElem?_map, List.getElem?_range h]
  rfl
theorem act_info : (Tryz.prog.info? 35).map (·.size) = some 14 := by kernel_rfl
theorem act_elk : ElK Tryz.prog 23 35 14 144 := by
  refine ⟨Tryz.underlying23, ?_, by decide, by decide⟩
  have h : (Tryz.prog.info? 35).map (fun i => (i.zero, i.size, i.bytes)) = some (some (.agg #[.int .i64 0, .int .i64 0, .slice none 0 0, .int .u64 0, .int .u64 0, .slice none 0 0, .int .i64 0, .int .u64 0, .int .u64 0, .int .u64 0, .int .u64 0, .int .u64 0, .int .u64 0, .int .u64 0]), 14, 144) := by kernel_rfl
  obtain ⟨i, hi, hz0, hz1, hz2⟩ := info_parts h
  exact ⟨i, _, hi, hz0, hz1, hz2, rfl⟩
theorem L_loadAct {ops : Array Oper} {rest : List Oper} {a : Act} {w : World} {Q : Exit → Act → World → Prop} {dst : Option Tmp} {ty : TypeId} {pos : String} {af : Array Edge} {x : Operand} {g : Nat} {t : TypeId} {cs : Array Value}
    (hx : a.eval x = .pointer (some ⟨g, 0, none⟩)) (hg : w.heap[g]? = some (.cells cs t (0, 0))) (hc : cs.size = 14)
    (hK : wpList Tryz.prog ops Q rest (a.put dst (.agg cs)) w) : wpList Tryz.prog ops Q (⟨dst, .load 35 x, ty, pos, af, none⟩ :: rest) a w :=
  wpList_load_row rfl 35 x rfl g hx t cs (0, 0) _ hg Tryz.underlying35 rfl (by rw [hc]; exact act_info) hK
theorem set_sz (w : World) (a : Addr) (v : Value) : (w.setCell a v).heap.size = w.heap.size := by simp [World.setCell]
/-- a block of the call's own has turned, and another one -/
theorem grown_base {w a b c : World} {R : Option Nat} (hg : a.grownBy b (some a.heap.size)) (hb : Below w.heap.size w a) (hc : b.grownBy c R) (hR : ∀ g, R = some g → w.heap.size ≤ g) : Below w.heap.size w c :=
  (hb.grown hg hb.size (fun g e => by injection e with e; have := hb.size; omega)).grown hc (Nat.le_trans hb.size hg.size) hR
section
variable {w : World} {A : Option Addr} {k c : Nat} {L : Nat → ActV}
set_option maxHeartbeats 4000000 in
theorem few_any (h : Acts w A k L) (hk : k ≤ maxLen) (n : Nat) (hn : n ≤ 100) :
    Calls Tryz.prog 8 #[.slice A k c, .int .i64 (n : Int)] w fun e w' => ∃ v, e = .returned v ∧ OwnS w' 35 14 w.heap.size v (fewL L (min k n)) ∧ Below w.heap.size w w' := by
  have H := Lib.hid h
  have hk9 : (k : Int) ≤ 9223372036854775807 := by unfold maxLen at hk; omega
  clear h hk
  go_enter Tryz.func8, Tryz.ntmps8
  go_wp2
  go_loopw [5, 6] (fun v p wr => ∃ j : Nat, j ≤ k ∧ j ≤ n ∧ p = .int .i64 (j : Int) ∧ Hid (OwnS wr 35 14 w.heap.size v (fewL L j)) ∧ Hid (Below w.heap.size w wr)) (fun _ p _ => n - (intOf p).toNat)
  case atStart => exact ⟨0, Nat.zero_le _, Nat.zero_le _, rfl, OwnS.nil _ _ _ _, Below.refl _ _⟩
  case round =>
    obtain ⟨j, hj, hj2, rfl, OJ, BJ⟩ := hrel
    have hcase : (j < k ∧ j < n) ∨ (k ≤ j) ∨ (j < k ∧ n ≤ j) := by omega
    rcases hcase with ⟨h1, h2⟩ | hend
    · obtain ⟨b, off, rfl, hc, hok⟩ := (H.out.below BJ.out) j h1
      have LD : Hid ((Instr.loadAt 35 (.pointer (some ⟨b, off + j * 14, none⟩))).run Tryz.prog wr = .ok (.agg (L j).cells.toArray) wr) := run_load_cells Tryz.underlying35 rfl act_info rfl hc
      have h3 : (j : Int) < (k : Int) := by omega
      have h4 : (j : Int) < (n : Int) := by omega
      have SN := Lib.hid (fewL_snoc L j)
      have LN := Lib.hid (fewL_len L j)
      have W1 := hok.wf.2.2
      have hl9 : ((L j).ll : Int) ≤ 9223372036854775807 := by have := W1.1; have := W1.2.1; unfold maxLen at this; omega
      have hlc9 : ((L j).lc : Int) ≤ 9223372036854775807 := by have := W1.2.1; unfold maxLen at this; omega
      have hlc : (L j).ll ≤ (L j).lc := W1.1
      clear hc hok W1
      unfold cut at SN
      generalize L j = y at LD SN hl9 hlc hlc9
      by_cases hl : 12 < y.ll
      · rw [if_pos hl] at SN
        obtain ⟨kind, z, la, ll, lc, ls, u, v', fa, fl, fc, fs, x⟩ := y
        have LD2 : Hid ((Instr.loadAt 35 (.pointer (some ⟨b, off + j * 14, none⟩))).run Tryz.prog wr = .ok (.agg #[.int .i64 kind, .int .i64 z, .slice la ll lc, .int .u64 (u : Int), .int .u64 (v' : Int), .slice fa fl fc, .int .i64 x.no, .int .u64 (x.v : Int), .int .u64 (x.g 0 : Int), .int .u64 (x.g 1 : Int), .int .u64 (x.g 2 : Int), .int .u64 (x.g 3 : Int), .int .u64 (x.g 4 : Int), .int .u64 (x.g 5 : Int)]) wr) := LD.out
        have ONE : Hid ((#[.int .i64 kind, .int .i64 z, .slice la ll lc, .int .u64 (u : Int), .int .u64 (v' : Int), .slice fa fl fc, .int .i64 x.no, .int .u64 (x.v : Int), .int .u64 (x.g 0 : Int), .int .u64 (x.g 1 : Int), .int .u64 (x.g 2 : Int), .int .u64 (x.g 3 : Int), .int .u64 (x.g 4 : Int), .int .u64 (x.g 5 : Int)] : Array Value).all (fun x => x.oneCell') = true) := by show _ = true; simp [Value.oneCell']
        clear LD
        have TWO : Hid (∀ y ∈ ([.int .i64 kind, .int .i64 z, .slice la 12 lc, .int .u64 (u : Int), .int .u64 (v' : Int), .slice fa fl fc, .int .i64 x.no, .int .u64 (x.v : Int), .int .u64 (x.g 0 : Int), .int .u64 (x.g 1 : Int), .int .u64 (x.g 2 : Int), .int .u64 (x.g 3 : Int), .int .u64 (x.g 4 : Int), .int .u64 (x.g 5 : Int)] : List Value), y.oneCell' = true) := fun y hu => by simp at hu; rcases hu with rfl | rfl | rfl | rfl | rfl | rfl | rfl | rfl | rfl | rfl | rfl | rfl | rfl | rfl <;> rfl
        have hl2 : (12 : Int) < (ll : Int) := by have : 12 < ll := hl; omega
        dsimp only at hl9 hlc hl hlc9
        have O2 : Hid (∀ w2, wr.grownBy w2 (some wr.heap.size) → OwnS w2 35 14 w.heap.size _ (fewL L j)) := fun w2 hg => OJ.out.keep (fun g hb => hg.block g (OJ.out.ge g hb).2 (fun e => by injection e with e; have := (OJ.out.ge g hb).2; omega))
        go_wp2_with (first
          | ((with_reducible apply L_ld); exact rfl; exact LD2.out)
          | ((with_reducible apply Pn.L_storeRow (N := 14) act_info); exact rfl; exact rfl; exact heap_alloc_new _ _; exact rfl; exact rfl; exact ONE.out; intro w4 h4' g4; have H4 := Lib.hid h4'; have G4 := Lib.hid ((World.grownBy_alloc wr _ (some wr.heap.size)).trans g4); have c2 : w4.cell? ⟨wr.heap.size, 2, none⟩ = some (.slice la ll lc) := Pn.heap_cell h4' rfl; have f2 : w4.frozen? ⟨wr.heap.size, 2, none⟩ = false := frozen_of_row _ _ _ _ _ h4'; clear h4' g4)
          | ((with_reducible apply L_loadAct); exact rfl; exact heap_setCell_same _ _ _ _ _ _ H4.out; exact rfl)
          | (at_builtin; refine wpList_append_S2 (wr := w4.setCell ⟨wr.heap.size, 2, none⟩ (.slice la 12 lc)) rfl _ _ _ rfl act_elk rfl (O2.out _ (G4.out.trans (grown_set w4 wr.heap.size 2 (.slice la 12 lc)))) (by rw [set_sz]; exact Nat.le_trans BJ.out.size G4.out.size) 1 (by rw [set_sz]; rfl) (c := [.int .i64 kind, .int .i64 z, .slice la 12 lc, .int .u64 (u : Int), .int .u64 (v' : Int), .slice fa fl fc, .int .i64 x.no, .int .u64 (x.v : Int), .int .u64 (x.g 0 : Int), .int .u64 (x.g 1 : Int), .int .u64 (x.g 2 : Int), .int .u64 (x.g 3 : Int), .int .u64 (x.g 4 : Int), .int .u64 (x.g 5 : Int)]) rfl rfl TWO.out (by rw [LN.out]; omega) ?_; intro v5 w5 o5 g5; have O5 := Lib.hid o5; have G5 := Lib.hid (grown_base (G4.out.trans (grown_set w4 wr.heap.size 2 (.slice la 12 lc))) BJ.out g5 (fun g hb => (OJ.out.ge g hb).1)); clear o5 g5))
        go_roundw
        case rel => exact ⟨j + 1, by omega, by omega, by go_num, by rw [SN.out]; exact O5, G5⟩
        case measure => simp [intOf]; omega
      · rw [if_neg hl] at SN
        obtain ⟨kind, z, la, ll, lc, ls, u, v', fa, fl, fc, fs, x⟩ := y
        have LD2 : Hid ((Instr.loadAt 35 (.pointer (some ⟨b, off + j * 14, none⟩))).run Tryz.prog wr = .ok (.agg #[.int .i64 kind, .int .i64 z, .slice la ll lc, .int .u64 (u : Int), .int .u64 (v' : Int), .slice fa fl fc, .int .i64 x.no, .int .u64 (x.v : Int), .int .u64 (x.g 0 : Int), .int .u64 (x.g 1 : Int), .int .u64 (x.g 2 : Int), .int .u64 (x.g 3 : Int), .int .u64 (x.g 4 : Int), .int .u64 (x.g 5 : Int)]) wr) := LD.out
        have ONE : Hid ((#[.int .i64 kind, .int .i64 z, .slice la ll lc, .int .u64 (u : Int), .int .u64 (v' : Int), .slice fa fl fc, .int .i64 x.no, .int .u64 (x.v : Int), .int .u64 (x.g 0 : Int), .int .u64 (x.g 1 : Int), .int .u64 (x.g 2 : Int), .int .u64 (x.g 3 : Int), .int .u64 (x.g 4 : Int), .int .u64 (x.g 5 : Int)] : Array Value).all (fun x => x.oneCell') = true) := by show _ = true; simp [Value.oneCell']
        clear LD
        have TWO : Hid (∀ y ∈ ([.int .i64 kind, .int .i64 z, .slice la ll lc, .int .u64 (u : Int), .int .u64 (v' : Int), .slice fa fl fc, .int .i64 x.no, .int .u64 (x.v : Int), .int .u64 (x.g 0 : Int), .int .u64 (x.g 1 : Int), .int .u64 (x.g 2 : Int), .int .u64 (x.g 3 : Int), .int .u64 (x.g 4 : Int), .int .u64 (x.g 5 : Int)] : List Value), y.oneCell' = true) := fun y hu => by simp at hu; rcases hu with rfl | rfl | rfl | rfl | rfl | rfl | rfl | rfl | rfl | rfl | rfl | rfl | rfl | rfl <;> rfl
        have hl2 : ¬ (12 : Int) < (ll : Int) := by have : ¬ 12 < ll := hl; omega
        dsimp only at hl9 hlc hl hlc9
        have O2 : Hid (∀ w2, wr.grownBy w2 (some wr.heap.size) → OwnS w2 35 14 w.heap.size _ (fewL L j)) := fun w2 hg => OJ.out.keep (fun g hb => hg.block g (OJ.out.ge g hb).2 (fun e => by injection e with e; have := (OJ.out.ge g hb).2; omega))
        go_wp2_with (first
          | ((with_reducible apply L_ld); exact rfl; exact LD2.out)
          | ((with_reducible apply Pn.L_storeRow (N := 14) act_info); exact rfl; exact rfl; exact heap_alloc_new _ _; exact rfl; exact rfl; exact ONE.out; intro w4 h4' g4; have H4 := Lib.hid h4'; have G4 := Lib.hid ((World.grownBy_alloc wr _ (some wr.heap.size)).trans g4); have c2 : w4.cell? ⟨wr.heap.size, 2, none⟩ = some (.slice la ll lc) := Pn.heap_cell h4' rfl; have f2 : w4.frozen? ⟨wr.heap.size, 2, none⟩ = false := frozen_of_row _ _ _ _ _ h4'; clear h4' g4)
          | ((with_reducible apply L_loadAct); exact rfl; exact H4.out; exact rfl)
          | (at_builtin; refine wpList_append_S2 (wr := w4) rfl _ _ _ rfl act_elk rfl (O2.out _ G4.out) (Nat.le_trans BJ.out.size G4.out.size) 1 rfl (c := [.int .i64 kind, .int .i64 z, .slice la ll lc, .int .u64 (u : Int), .int .u64 (v' : Int), .slice fa fl fc, .int .i64 x.no, .int .u64 (x.v : Int), .int .u64 (x.g 0 : Int), .int .u64 (x.g 1 : Int), .int .u64 (x.g 2 : Int), .int .u64 (x.g 3 : Int), .int .u64 (x.g 4 : Int), .int .u64 (x.g 5 : Int)]) rfl rfl TWO.out (by rw [LN.out]; omega) ?_; intro v5 w5 o5 g5; have O5 := Lib.hid o5; have G5 := Lib.hid (grown_base G4.out BJ.out g5 (fun g hb => (OJ.out.ge g hb).1)); clear o5 g5))
        go_roundw
        case rel => exact ⟨j + 1, by omega, by omega, by go_num, by rw [SN.out]; exact O5, G5⟩
        case measure => simp [intOf]; omega
    · have LEN : (fewL L j).length = j := fewL_len L j
      have HJM : Hid (min k n = j) := Lib.hid (by omega)
      have hend2 : k ≤ j ∨ (j < k ∧ n ≤ j) := hend
      rcases hend2 with hend | ⟨hend, hend2⟩
      all_goals
        go_wp2
        go_ret
        rw [HJM.out]
        exact ⟨_, rfl, OJ.out, BJ.out⟩
end
end Go.Proofs.YtgdgehfapfgdfaaGreatDoor.Tb
