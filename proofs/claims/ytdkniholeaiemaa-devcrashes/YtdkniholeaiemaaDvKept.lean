/-
  Contracts of maps.Clone and kept. No conditions.
-/
import Derived.Test.YtdkniholeaiemaaDvLoose2
import Derived.Shelf.SlMaps.Clone
namespace Go.Proofs.Ytdkniholeaiemaa.W
open Go.RowKit Oc Dm
set_option linter.unusedVariables false
theorem run_copy_k {P : Program} (w : World) (dT sT ty elem : TypeId) (k g n : Nat) (a : Addr) (cur : Array Value) (t : TypeId) (cs : List Value) (hu : P.underlying dT = some (.slice elem)) (hs : (P.info? elem).map (·.size) = some k)
    (hg : w.heap[g]? = some (.cells cur t (0, 0))) (hn : cs.length = n * k) (hsrc : ∀ j v, cs[j]? = some v → w.cell? (a.add j) = some v) (hfit : cs.length ≤ cur.size) (h1 : ∀ v ∈ cs, v.oneCell' = true) :
    (Builtin.copy_ #[dT, sT] ty #[.slice (some ⟨g, 0, none⟩) n n, .slice (some a) n n]).run P w = .ok (goInt n) (w.setRow g (cs ++ cur.toList.drop cs.length).toArray) := by
  have hl := run_loadCells_list (P := P) w a cs hsrc
  have hst := run_storeCells_at P g 0 t cs 0 cur w hg (by simpa using hfit) h1
  simp only [Nat.zero_add, List.take_zero, List.nil_append] at hst
  cases hq : P.info? elem with
  | none => simp [hq] at hs
  | some i =>
    have hi : i.size = k := by simpa [hq] using hs
    have hm : Nat.min n n = n := Nat.min_self n
    simp [Builtin.copy_, run_underlying hu, Builtin.lenOf, Builtin.firstCells, sizeOf, typeInfo, hq, hi, ← hn, hl, hst]
/-- a copy of all of a row of sectors -/
theorem run_copy_sec {w : World} {b fx n : Nat} {f f2 : Nat → List UInt8} (ty : TypeId) (h : SRow w fx n n f) (h2 : SRow w b n n f2) :
    ∃ w', (Builtin.copy_ #[68, 68] ty #[.slice (some ⟨b, 0, none⟩) n n, .slice (some ⟨fx, 0, none⟩) n n]).run Try.prog w = .ok (.int .i64 (n : Int)) w' ∧ SRow w' b n n f ∧ w.grownBy w' (some b) ∧ w'.heap.size = w.heap.size := by
  obtain ⟨cur, hg, h1, _, h3, h4⟩ := h
  obtain ⟨cur2, hg2, k1, _, _, _⟩ := h2
  have hsrc : ∀ j v, cur.toList[j]? = some v → w.cell? ((⟨fx, 0, none⟩ : Addr).add j) = some v := fun j v hv => by
    have hadd : (⟨fx, 0, none⟩ : Addr).add j = ⟨fx, 0 + j, none⟩ := by unfold Addr.add; split <;> simp_all
    rw [hadd, cell_of_row w fx _ cur _ (0, 0) hg, Nat.zero_add]
    simpa using hv
  have hone : ∀ v ∈ cur.toList, v.oneCell' = true := fun v hv => by
    obtain ⟨j, hj, rfl⟩ := List.mem_iff_getElem.1 hv
    simp only [Array.length_toList] at hj
    obtain ⟨hl, hc⟩ := h4 (j / 64) (by omega)
    obtain ⟨x, hx⟩ : ∃ x, (f (j / 64))[j % 64]? = some x := ⟨_, List.getElem?_eq_getElem (by have := Nat.mod_lt j (show 0 < 64 by decide); omega)⟩
    have := hc _ x hx
    rw [show j / 64 * 64 + j % 64 = j by omega, Array.getElem?_eq_getElem hj] at this
    simp only [Array.getElem_toList]
    rw [Option.some.inj this]
    rfl
  obtain ⟨i, hi, hz, hs, hb⟩ := sec_info
  have hlen : cur.toList.length = n * 64 := by simpa using h1
  have hrun := run_copy_k (P := Try.prog) w 68 68 ty 95 64 b n ⟨fx, 0, none⟩ cur2 95 cur.toList Try.underlying68 (by rw [hi]; simp [hs]) hg2 hlen hsrc (by rw [hlen]; omega) hone
  have e2 : (cur.toList ++ cur2.toList.drop cur.toList.length).toArray = cur := by
    rw [hlen, List.drop_of_length_le (by simp; omega)]
    simp
  rw [e2] at hrun
  exact ⟨_, hrun, ⟨cur, setRow_heap w b cur2 _ _ _ hg2, h1, Nat.le_refl _, h3, h4⟩, ⟨rfl, rfl, rfl, by simp, fun k _ hk => setRow_other w b k _ (fun e => hk (by rw [e]))⟩, by simp⟩
theorem wpList_copy_sec {ops : Array Oper} {rest : List Oper} {o : Oper} {a : Act} {w : World} {Q : Exit → Act → World → Prop} {x y : Operand} {b fx n : Nat} {f f2 : Nat → List UInt8} (hgd : o.guard = none) (ho : o.op = Op.call { callee := Callee.builtin Builtin.copy, args := #[x, y], argTypes := #[68, 68] })
    (hx : a.eval x = .slice (some ⟨b, 0, none⟩) n n) (hy : a.eval y = .slice (some ⟨fx, 0, none⟩) n n) (h : SRow w fx n n f) (h2 : SRow w b n n f2)
    (hK : ∀ w', SRow w' b n n f → w.grownBy w' (some b) → w'.heap.size = w.heap.size → wpList Try.prog ops Q rest (a.put o.dst (.int .i64 (n : Int))) w') : wpList Try.prog ops Q (o :: rest) a w := by
  refine wpList_plain hgd fun K hK' => ?_
  obtain ⟨w', hrun, r1, r2, r3⟩ := run_copy_sec o.type h h2
  unfold Oper.wp execOp
  simp only [ho, resolve, invoke, builtin, Sem.run_bind, Sem.run_pure, Result.andThen_ok, List.map_toArray, List.map_cons, List.map_nil, hx, hy, hrun]
  exact hK' _ _ (hK w' r1 r2 r3)
set_option maxRecDepth 100000 in
/-- maps.Clone at a set of those that are rotten -/
theorem clone_any {w : World} {r N n : Nat} {q : Nat → Bool} (h : RM w r N n q) : Calls Try.prog 56 #[.map (some r)] w fun e w' => e = .returned (.map (some w.heap.size)) ∧ RM w' w.heap.size N n q ∧ Below w.heap.size w w' ∧ w'.heap.size = w.heap.size + 1 := by
  obtain ⟨D, ⟨es, clock, hb, hr⟩, h2⟩ := h
  have hq := fun w => run_eql_map_nil_sl (P := Try.prog) w 70 _ _ (some r) Try.underlying70
  have HR := Lib.hid hr
  have H2 := Lib.hid h2
  clear hr h2
  go_enter Try.func56, Try.ntmps56
  go_wp2
  rw [run_callFunc_extern Try.func59 (by kernel_rfl) (by kernel_rfl) (by kernel_rfl) (e := Extern.MapsClone.clone) (by kernel_rfl), run_maps_clone_sl w 70 hb]
  simp only [Result.andThen]
  rw [Oper.upon_value]
  go_wp2
  rw [run_typeAssert_map_sl _ 70 _ _ _ _ Try.underlying70]
  simp only [Result.andThen]
  rw [Oper.upon_value]
  go_wp2
  go_ret
  exact ⟨rfl, ⟨D, ⟨es, clock, heap_alloc_new w _, HR.out⟩, H2.out⟩, (Below.refl _ w).alloc (Nat.le_refl _) _, by simp⟩
/-- what is fixed, and nothing else -/
def keptS (S : Nat → Sec) (i : Nat) : Sec := ⟨(S i).fixed, [], (S i).rotten⟩
section
variable {w w' : World} {F : Nat → Prop} {D p n N : Nat} {S : Nat → Sec} {rd wr fx m r : Nat} {g : Nat → Option Pl} {s : PS}
set_option maxRecDepth 100000 in
set_option maxHeartbeats 4000000 in
theorem kept_any (h : DvAt w F D p n N S rd wr fx m r g) (p2 : Nat) : Calls Try.prog 42 #[.pointer (some ⟨D, 0, none⟩), .pointer (some ⟨p2, 0, none⟩)] w fun e w' => ∃ X fx' m' r', e = .returned (.pointer (some ⟨X, 0, none⟩)) ∧ w.heap.size ≤ X ∧ DvAt w' (Fresh w w') X p2 n N (keptS S) 0 0 fx' m' r' (fun _ => none) ∧ Below w.heap.size w w' := by
  have H := Lib.hid h
  obtain ⟨c0, c1, c2, c3, c4, c5, fr⟩ := h.cells
  clear h
  go_enter Try.func42, Try.ntmps42
  go_wp2_with fail
  refine (blank_any w n p2 H.out.hn).mono ?_; rintro e w1 ⟨X, fx', m', r0, rfl, hX, hx1, b1⟩
  have H1 := Lib.hid (H.out.below b1)
  have X1 := Lib.hid hx1
  have B1 := Lib.hid b1
  have HX := Lib.hid hX
  clear c0 c1 c2 c3 c4 c5 fr hx1 b1 hX
  obtain ⟨c0, c1, c2, c3, c4, c5, fr⟩ := H1.out.cells
  obtain ⟨d0, d1, d2, d3, d4, d5, dr⟩ := X1.out.cells
  go_wp2_with fail
  refine wp_region_still_tail 8 (by kernel_rfl) (by kernel_rfl) ?_
  simp only [List.take_succ_cons, List.take_zero, List.drop_succ_cons, List.drop_zero]
  iterate 8 still_step
  refine wpStill_nil ?_
  change wpList _ _ _ _ _ w1.drew
  refine wpList_copy_sec (b := fx') (fx := fx) (n := n) rfl rfl rfl rfl (show SRow w1.drew fx n n (fun i => (S i).fixed) from H1.out.fixd) (show SRow w1.drew fx' n n (fun i => sec0.fixed) from X1.out.fixd) ?_
  intro w2 r2 g2' z2
  have g2 : w1.grownBy w2 (some fx') := ⟨g2'.os, g2'.tape, g2'.output, g2'.size, g2'.block⟩
  have hfx' : w.heap.size ≤ fx' := X1.out.inF.2.1.1
  have B2 := Lib.hid (B1.out.grown g2 B1.out.size (fun j e => by injection e with e; omega))
  have H2 := Lib.hid (H.out.below B2.out)
  have hX2 : w2.heap[X]? = w1.heap[X]? := g2.block X (lt_of_heap X1.out.head) (fun e => by
    obtain ⟨cur, hg, _⟩ := X1.out.fixd
    have hh := X1.out.head
    injection e with e
    rw [e, hg] at hh
    cases hh)
  have HX2 := Lib.hid (hX2.trans X1.out.head)
  have hm2 : w2.heap[m']? = w1.heap[m']? := g2.block m' X1.out.lm.lt (fun e => by injection e with e; exact X1.out.ne_m.2.1 e.symm)
  have LM2 := Lib.hid (X1.out.lm.heap hm2)
  have R2 := Lib.hid r2
  have Z2 := Lib.hid z2
  have Z12 := Lib.hid g2.size
  clear g2 g2' z2 r2 hX2 hm2 hfx' c0 c1 c2 c3 c4 c5 fr d0 d1 d2 d3 d4 d5 dr
  obtain ⟨c0, c1, c2, c3, c4, c5, fr⟩ := H2.out.cells
  go_wp2_with fail
  refine (clone_any H2.out.rm).mono ?_; rintro e w3 ⟨rfl, r3, b3, z3⟩
  have hX3 : w3.heap[X]? = w2.heap[X]? := b3.block X (lt_of_heap HX2.out)
  have HX3 := Lib.hid (hX3.trans HX2.out)
  have R3 := Lib.hid (R2.out.heap (b3.block _ R2.out.lt))
  have LM3 := Lib.hid (LM2.out.heap (b3.block _ LM2.out.lt))
  have RM3 := Lib.hid r3
  have B3 := Lib.hid b3
  have Z3 := Lib.hid z3
  have d3 : w3.cell? ⟨X, 3, none⟩ = some (.map (some r0)) := by rw [cell_of_row w3 X _ _ _ (0, 0) HX3.out]; rfl
  have dr : w3.frozen? ⟨X, 3, none⟩ = false := frozen_of_row w3 X 3 _ _ HX3.out
  clear c0 c1 c2 c3 c4 c5 fr hX3 r3 b3 z3
  go_wp2
  go_ret
  have bx := HX.out
  have z3 := Z3.out
  have z2 := Z12.out
  have hb2 := B2.out.size
  have hmX : m' ≠ X := fun e => X1.out.ne_m.1 e.symm
  have hfX : fx' ≠ X := fun e => by
    obtain ⟨cur, hg, _⟩ := R3.out
    have hh := HX3.out
    rw [← e, hg] at hh
    cases hh
  have hrX : w2.heap.size ≠ X := fun e => by
    have := lt_of_heap HX2.out
    omega
  have hml := LM2.out.lt
  have hfl := R2.out.lt
  have hXl := lt_of_heap HX2.out
  have hm0 : w.heap.size ≤ m' := X1.out.inF.2.2.1.1
  have hf0 : w.heap.size ≤ fx' := X1.out.inF.2.1.1
  refine ⟨X, fx', m', w2.heap.size, rfl, bx, ?_, ?_⟩
  · exact {
      head := by rw [heap_setCell_same _ _ _ _ _ _ HX3.out]; rfl
      fixd := R3.out.heap (heap_setCell_other w3 _ _ _ hfX)
      lm := (LM3.out.heap (heap_setCell_other w3 _ _ _ hmX)).more (Nat.zero_le _)
      rm := RM3.out.heap (heap_setCell_other w3 _ _ _ hrX)
      none_ := fun i hi e => rfl
      some_ := fun i t hi e => by cases e
      apart := fun i j s t hi hj hne e => by cases e
      mr := by omega
      hn := H.out.hn
      hN := H.out.hN
      hl := fun i hi => Nat.zero_le _
      hrd := by decide
      hwr := by decide
      inF := by unfold Fresh; rw [size_cell]; omega
      bound := fun k x => x.2 }
  · exact (B2.out.trans (B3.out.mono (by omega))).grown (grown_cell w3 X 3 _) (B2.out.trans (B3.out.mono (by omega))).size (fun j e => by injection e with e; omega)
end
end Go.Proofs.Ytdkniholeaiemaa.W
