/-
  Elder texts, one behind the other: GpRput, GpRget, GpRgetW, GpRnewer. No conditions.
-/
import Derived.Test.YtgdgehfapfgdfaaGreatDoorKGp
import Derived.Test.YtgdgehfapfgdfaaGreatDoorKRow
import Derived.Deep.CutRange
import Derived.Deep.CutBlock
/-! The contract of the reference's Put. No conditions. -/
namespace Go.Proofs.YtgdgehfapfgdfaaGreatDoor.W
set_option maxRecDepth 100000
open Go.RowKit Oc Rw
set_option linter.unusedVariables false

theorem bst : ElTy Tryz.prog 153 96 (.slice none 0 0) 24 := ⟨Tryz.underlying153, by kernel_rfl, rfl, by decide⟩
/-- a part as a value -/
def pv (q : Part) : Value := .slice q.A q.n q.c
/-- parts that stand in rows of the call's own -/
def Pcs (w : World) (B : Nat) (L : List Part) : Prop := ∀ q ∈ L, Own w 5 B (pv q) q.xs ∧ q.n ≤ 8 ∧ q.xs.length = q.n
theorem Pcs.below {w w' : World} {B : Nat} {L : List Part} (h : Pcs w B L) (hb : Below w.heap.size w w') : Pcs w' B L := fun q hq => ⟨(h q hq).1.below hb, (h q hq).2⟩
theorem Pcs.add {w : World} {B : Nat} {L : List Part} (h : Pcs w B L) {q : Part} (h1 : Own w 5 B (pv q) q.xs) (h2 : q.n ≤ 8) (h3 : q.xs.length = q.n) : Pcs w B (L ++ [q]) := fun r hr => by
  rcases List.mem_append.1 hr with hr | hr
  · exact h r hr
  · simp at hr
    subst hr
    exact ⟨h1, h2, h3⟩
/-- what grows the row of parts leaves the parts -/
theorem Pcs.far {w w' : World} {B B2 : Nat} {v : Value} {xs : List Value} {L : List Part} (h : Pcs w B L) (h2 : OwnV w 96 B2 v xs) (hg : w.grownBy w' v.ownBlock) : Pcs w' B L := fun q hq => by
  obtain ⟨h3, h4⟩ := h q hq
  refine ⟨h3.keep fun k hk => hg.block k (h3.ge k hk).2 fun e' => ?_, h4⟩
  rcases h2.2 with ⟨rfl, _⟩ | ⟨g, cap, cur, rfl, _, hh, _⟩
  · cases e'
  · rcases h3.2 with ⟨e, _⟩ | ⟨g2, cap2, cur2, e, _, hh2, _⟩
    · rw [e] at hk; cases hk
    · rw [e] at hk
      simp [Value.ownBlock] at e' hk
      subst e'
      subst hk
      rw [hh] at hh2
      injection hh2 with hh2
      injection hh2 with _ h5
      exact absurd h5 (by decide)
/-- append of one part onto the row -/
theorem wpList_append_part {wr : World} {ops : Array Oper} {rest : List Oper} {o : Oper} {a : Act} {Q : Exit → Act → World → Prop} (hgd : o.guard = none) (s x : Operand) (t : TypeId)
    (ho : o.op = .call { callee := .builtin .append, args := #[s, x], argTypes := #[t, t] }) {e e' : TypeId} {z : Value} {bytes : Nat} (hT : ElTy Tryz.prog t e z bytes) {w0 : World} {v : Value} {xs : List Value} (hs : a.eval s = v) (hown : OwnV wr e w0.heap.size v xs) (hb : Below w0.heap.size w0 wr)
    (c : Nat) {u : Value} (hx : a.eval x = .slice (some ⟨wr.heap.size, 0, none⟩) 1 c) (h1 : u.oneCell' = true) (hl : xs.length + 1 ≤ 1000000000000)
    (h : ∀ v' w', OwnV w' e w0.heap.size v' (xs ++ [u]) → (wr.alloc (.cells #[u] e')).grownBy w' v.ownBlock → Below w0.heap.size w0 w' → wpList Tryz.prog ops Q rest (a.put o.dst v') w') : wpList Tryz.prog ops Q (o :: rest) a (wr.alloc (.cells #[u] e')) := by
  refine wpList_plain hgd fun K hK => ?_
  have hb1 : Below w0.heap.size w0 (wr.alloc (.cells #[u] e')) := hb.alloc hb.size _
  obtain ⟨v', w', hrun, h2, h3, _⟩ := run_append_row (P := Tryz.prog) (ty := o.type) c hT (hown.alloc _) (Sl.one wr e' u) (by intro y hy; simp at hy; subst hy; exact h1) hl hb1.size
  unfold Oper.wp execOp
  simp only [ho, resolve, invoke, builtin, Sem.run_bind, Sem.run_pure, Result.andThen_ok, List.map_toArray, List.map_cons, List.map_nil, hs, hx, hrun]
  exact hK _ _ (h v' w' h2 h3 (hb1.grown h3 hb1.size fun g hg => (hown.ge g hg).1))
/-- the row of parts as far as the generation j -/
def Row (w0 wr : World) (v : Value) (p : Gp) (j : Nat) : Prop := ∃ L : List Part, L.length = 2 + j ∧ joined L = pay p j ∧ Pcs wr w0.heap.size L ∧ OwnV wr 96 w0.heap.size v (L.map pv)
theorem row_new {w0 w : World} {A1 A2 : Option Addr} {c1 c2 N : Nat} {p : Gp} (hN : p.no.toNat = N) (h1 : Own w 5 w0.heap.size (.slice A1 2 c1) (octs N 2)) (h2 : Own w 5 w0.heap.size (.slice A2 8 c2) (octs p.v 8)) (hB : w0.heap.size ≤ w.heap.size) :
    Row w0 (w.alloc (.cells #[.slice A1 2 c1, .slice A2 8 c2] 96)) (.slice (some ⟨w.heap.size, 0, none⟩) 2 2) p 0 := by
  refine ⟨[⟨A1, 2, c1, octs N 2⟩, ⟨A2, 8, c2, octs p.v 8⟩], rfl, ?_, ?_, ?_⟩
  · simp [joined, pay, gens, hN]
  · intro q hq
    simp at hq
    rcases hq with rfl | rfl
    · exact ⟨h1.alloc _, by show 2 ≤ 8; omega, octs_length _ _⟩
    · exact ⟨h2.alloc _, by show 8 ≤ 8; omega, octs_length _ _⟩
  · exact World.ownsRow_lit (base := w0.heap.size) (e := 96) (size := 1) w #[.slice A1 2 c1, .slice A2 8 c2] 2 hB (by decide) rfl
theorem Row.below {w0 w w' : World} {v : Value} {p : Gp} {j : Nat} (h : Row w0 w v p j) (hb : Below w.heap.size w w') : Row w0 w' v p j := by
  obtain ⟨L, h1, h2, h3, h4⟩ := h
  exact ⟨L, h1, h2, h3.below hb, h4.below hb⟩
theorem row_more {w0 wr w' : World} {v v' : Value} {p : Gp} {j : Nat} {L : List Part} {A : Option Addr} {c : Nat} {e' : TypeId} (h1 : L.length = 2 + j) (h2 : joined L = pay p j) (h3 : Pcs wr w0.heap.size L) (h4 : OwnV wr 96 w0.heap.size v (L.map pv))
    (ho : Own wr 5 w0.heap.size (.slice A 8 c) (octs (p.g j) 8)) (h5 : OwnV w' 96 w0.heap.size v' (L.map pv ++ [.slice A 8 c])) (hg : (wr.alloc (.cells #[.slice A 8 c] e')).grownBy w' v.ownBlock) : Row w0 w' v' p (j + 1) := by
  refine ⟨L ++ [⟨A, 8, c, octs (p.g j) 8⟩], by simp; omega, ?_, ?_, ?_⟩
  · rw [joined_append, h2, pay_succ]
    simp [joined]
  · have h6 := (h3.add (q := ⟨A, 8, c, octs (p.g j) 8⟩) ho (by show 8 ≤ 8; omega) (octs_length _ _)).below (balloc wr (.cells #[.slice A 8 c] e'))
    exact h6.far (h4.alloc _) hg
  · rw [List.map_append]
    exact h5
theorem row_join {w : World} {B g cap : Nat} {L : List Part} (h1 : L.length = 2 + 6) (h3 : Pcs w B L) (h4 : OwnV w 96 B (.slice (some ⟨g, 0, none⟩) 8 cap) (L.map pv)) :
    Calls Tryz.prog 75 #[.slice (some ⟨g, 0, none⟩) 8 cap] w (Made w (joined L)) := by
  have hg : g < w.heap.size := (h4.ge g rfl).2
  refine join_any L g 8 cap w hg h1 (by omega) fun j q hq => ?_
  obtain ⟨h5, h6, h7⟩ := h3 q (List.mem_of_getElem? hq)
  obtain ⟨A, c, e, _, ho⟩ := h5.slice
  refine ⟨?_, ?_, by omega⟩
  · exact (h4.cell (by rw [List.length_map, h1]) (by rw [List.getElem?_map, hq]; rfl)).1
  · rw [h7] at e ho
    unfold pv at e
    injection e with e1 e2 e3
    rw [e1]
    exact ho
theorem ret_two {k : IntKind} {a b : Int} {v : Value} (h : a = b) : Ending.returned (.tuple #[v, .int k a]) = .returned (.tuple #[v, .int k b]) := by rw [h]

theorem num2 (N : Nat) (w : World) (hN : N < 18446744073709551616) : Calls Tryz.prog 73 #[.int .u64 (N : Int), .int .i64 2] w (Made w (octs N 2)) := num_yes N 2 w hN (by omega)
theorem num8 (N : Nat) (w : World) (hN : N < 18446744073709551616) : Calls Tryz.prog 73 #[.int .u64 (N : Int), .int .i64 8] w (Made w (octs N 8)) := num_yes N 8 w hN (by omega)

set_option maxHeartbeats 2000000 in
theorem rgput_no (p : Gp) (w : World) (h : ¬ MayBe p) : Calls Tryz.prog 34 #[(.agg #[.int .i64 p.no, .int .u64 (p.v : Int), .int .u64 (p.g 0 : Int), .int .u64 (p.g 1 : Int), .int .u64 (p.g 2 : Int), .int .u64 (p.g 3 : Int), .int .u64 (p.g 4 : Int), .int .u64 (p.g 5 : Int)])] w fun e w' => e = .returned (.tuple #[.slice none 0 0, .int .i64 1]) ∧ Below w.heap.size w w' := by
  have H := Lib.hid h
  clear h
  go_enter Tryz.func34, Tryz.ntmps34
  go_wp2_with fail
  refine (rmay_any p false _ ⟨fun h => (by cases h), fun h => absurd h H.out⟩).mono ?_; rintro e w1 ⟨rfl, b1⟩
  have B1 : Hid (Below w.heap.size w w1) := bthen (balloc _ _) b1
  clear b1
  go_wp2
  go_ret2
  exact ⟨rfl, B1.out⟩

set_option maxHeartbeats 4000000 in
theorem rgput_ok (p : Gp) (w : World) (h : MayBe p) : Calls Tryz.prog 34 #[(.agg #[.int .i64 p.no, .int .u64 (p.v : Int), .int .u64 (p.g 0 : Int), .int .u64 (p.g 1 : Int), .int .u64 (p.g 2 : Int), .int .u64 (p.g 3 : Int), .int .u64 (p.g 4 : Int), .int .u64 (p.g 5 : Int)])] w fun e w' => ∃ v, e = .returned (.tuple #[v, .int .i64 0]) ∧ Own w' 5 w.heap.size v (sect p) ∧ Below w.heap.size w w' := by
  have H := Lib.hid h
  obtain ⟨N, hN, hN2⟩ : ∃ N : Nat, p.no = (N : Int) ∧ N < 65536 := ⟨p.no.toNat, by have := h.1; omega, by have := h.1; omega⟩
  have HN := Lib.hid hN
  have HT : Hid (p.no.toNat = N) := by show _ = _; omega
  have HV := Lib.hid h.2.1
  have HG := Lib.hid h.2.2
  obtain ⟨w0, hw0⟩ : ∃ w0, w0 = w.alloc (.cells #[.int .i64 p.no, .int .u64 (p.v : Int), .int .u64 (p.g 0 : Int), .int .u64 (p.g 1 : Int), .int .u64 (p.g 2 : Int), .int .u64 (p.g 3 : Int), .int .u64 (p.g 4 : Int), .int .u64 (p.g 5 : Int)] 33) := ⟨_, rfl⟩
  have W0 := Lib.hid hw0
  have X0 : Hid (w0.heap[w.heap.size]? = some (.cells (gc p.no p.v p.g) 33 (0, 0))) := by show _ = _; rw [hw0]; exact heap_alloc_new w _
  have B0 : Hid (Below w.heap.size w w0) := by show Below _ _ _; rw [hw0]; exact balloc _ _
  clear h hN hw0
  go_enter Tryz.func34, Tryz.ntmps34
  go_wp2_with fail
  refine (rmay_any p true _ ⟨fun _ => H.out, fun _ => rfl⟩).mono ?_; rintro e w1 ⟨rfl, b1⟩
  rw [← W0.out] at b1
  have X1 := Lib.hid (kept_below X0.out b1)
  have B1 := Lib.hid b1
  clear b1
  have hwr : IntKind.u64.wrap (N : Int) = (N : Int) := wrap_in (by omega)
  have y0 : w1.cell? ⟨w.heap.size, 0, none⟩ = some (.int .i64 (N : Int)) := by rw [← HN.out]; exact (gp_cells (p := p) X1.out).1
  have y1 : w1.cell? ⟨w.heap.size, 1, none⟩ = some (.int .u64 (p.v : Int)) := (gp_cells (p := p) X1.out).2.1
  go_wp2_with fail
  go_region_held (fun w' => w'.cell? ⟨w.heap.size, 0, none⟩ = some (.int .i64 (N : Int)) ∧ w'.cell? ⟨w.heap.size, 1, none⟩ = some (.int .u64 (p.v : Int))) (first | go_keep | exact ⟨C3.out.1, C3.out.2⟩ | exact ⟨C2.out.1, C2.out.2⟩) (first
    | (go_at_call 73; (with_reducible refine (num8 p.v w2 (isG64 HV.out)).mono ?_); rintro e w3 ⟨v3, rfl, o3, b3⟩; obtain ⟨A3, c3, rfl, l3, s3⟩ := o3.form (octs_length p.v 8); have O3 := Lib.hid (o3.more B2.out.size); have O2b := Lib.hid (O2.out.below b3); have B3 : Hid (Below w0.heap.size w0 w3) := bthen B2.out b3; have C3 : Hid (w3.cell? ⟨w.heap.size, 0, none⟩ = some (.int .i64 (N : Int)) ∧ w3.cell? ⟨w.heap.size, 1, none⟩ = some (.int .u64 (p.v : Int))) := ⟨by rw [← HN.out]; exact (gp_cells (p := p) (kept_below X2.out b3)).1, (gp_cells (p := p) (kept_below X2.out b3)).2.1⟩; clear o3 b3 s3 l3)
    | (go_at_call 73; (with_reducible refine (num2 N w1.drew (by omega)).mono ?_); rintro e w2 ⟨v2, rfl, o2, b2⟩; obtain ⟨A2, c2, rfl, l2, s2⟩ := o2.form (octs_length N 2); have X2 := Lib.hid (kept_below X1.out (below_of_drew b2)); have O2 := Lib.hid (o2.more (B' := w0.heap.size) B1.out.size); have B2 : Hid (Below w0.heap.size w0 w2) := bthen B1.out (below_of_drew b2); have C2 : Hid (w2.cell? ⟨w.heap.size, 0, none⟩ = some (.int .i64 (N : Int)) ∧ w2.cell? ⟨w.heap.size, 1, none⟩ = some (.int .u64 (p.v : Int))) := ⟨by rw [← HN.out]; exact (gp_cells (p := p) X2.out).1, (gp_cells (p := p) X2.out).2.1⟩; clear o2 b2 s2 l2))
  all_goals go_wp2
  have R3 := Lib.hid (row_new (w0 := w0) HT.out O2b.out O3.out B3.out.size)
  have B4 : Hid (Below w0.heap.size w0 (w3.alloc (.cells #[.slice A2 2 c2, .slice A3 8 c3] 96))) := bthen B3.out (balloc _ _)
  go_loopw [4, 5] (fun v q wr => ∃ j : Nat, j ≤ 6 ∧ q = .int .i64 j ∧ Hid (Row w0 wr v p j) ∧ Hid (Below w0.heap.size w0 wr)) (fun _ q _ => 6 - (intOf q).toNat)
  case atStart => exact ⟨0, by omega, rfl, R3, B4⟩
  case round =>
    obtain ⟨j, hj, rfl, RJ, BJ⟩ := hrel
    by_cases hlt : j < 6
    · have XJ := Lib.hid (kept_below X0.out BJ.out)
      obtain ⟨z1, _⟩ := gc_cell XJ.out hlt
      go_wp2_with fail
      refine (num8 (p.g j) _ (isG64 (HG.out j hlt))).mono ?_; rintro e w5 ⟨v5, rfl, o5, b5⟩
      obtain ⟨A5, c5, rfl, l5, s5⟩ := o5.form (octs_length (p.g j) 8)
      have O5 := Lib.hid (o5.more BJ.out.size)
      have B5 : Hid (Below w0.heap.size w0 w5) := bthen BJ.out b5
      obtain ⟨L, hL1, hL2, hL3, hL4⟩ := RJ.out.below b5
      have L1 := Lib.hid hL1
      have L2 := Lib.hid hL2
      have L3 := Lib.hid hL3
      have L4 := Lib.hid hL4
      clear o5 b5 s5 l5 hL1 hL2 hL3 hL4
      go_wp2_with (at_builtin; refine wpList_append_part rfl _ _ 153 rfl bst rfl L4.out B5.out _ rfl rfl (by rw [List.length_map, L1.out]; omega) ?_; intro v6 w6 o6 g6 b6; have O6 := Lib.hid o6; have G6 := Lib.hid g6; have B6 := Lib.hid b6; clear o6 g6 b6)
      go_roundw
      case rel => exact ⟨j + 1, by omega, rfl, row_more L1.out L2.out L3.out L4.out O5.out O6.out G6.out, B6⟩
      case measure => simp [intOf]; omega
    · have h6 : j = 6 := by omega
      obtain ⟨L, hL1, hL2, hL3, hL4⟩ := RJ.out
      rw [h6] at hL1 hL2
      obtain ⟨g, cap, rfl, hg, hcap⟩ := hL4.here (n := 8) (by rw [List.length_map, hL1]) (by omega)
      have hjn := row_join hL1 hL3 hL4
      rw [hL2] at hjn
      have HJ := Lib.hid hjn
      clear hjn h6 hL1 hL2 hL3 hL4 hg hcap
      go_wp2_with fail
      refine HJ.out.mono ?_; rintro e w7 ⟨v7, rfl, o7, b7⟩
      obtain ⟨A7, c7, rfl, l7, s7⟩ := o7.form (n := 58) (pay58 p)
      have S7 := Lib.hid s7
      have B7 : Hid (Below w.heap.size w w7) := bthen (bthen B0.out BJ.out) b7
      clear o7 b7 s7
      go_wp2_with fail
      refine (rput_any A7 58 c7 (pay p 6) 1 _ (by omega) S7.out).mono ?_; rintro e w8 ⟨v8, rfl, o8, b8⟩
      rw [putE_pay]
      rw [putL_pay] at o8
      have O8 := Lib.hid (o8.more B7.out.size)
      have B8 : Hid (Below w.heap.size w w8) := bthen B7.out b8
      clear o8 b8
      go_wp2
      go_ret2
      exact ⟨v8, rfl, O8.out, B8.out⟩
theorem rgput_any (p : Gp) (w : World) : Calls Tryz.prog 34 #[(.agg #[.int .i64 p.no, .int .u64 (p.v : Int), .int .u64 (p.g 0 : Int), .int .u64 (p.g 1 : Int), .int .u64 (p.g 2 : Int), .int .u64 (p.g 3 : Int), .int .u64 (p.g 4 : Int), .int .u64 (p.g 5 : Int)])] w (GPut w p) := by
  by_cases h : MayBe p
  · exact (rgput_ok p w h).mono fun e w' h2 => .inl ⟨h, h2⟩
  · exact (rgput_no p w h).mono fun e w' h2 => .inr ⟨h, h2⟩
end Go.Proofs.YtgdgehfapfgdfaaGreatDoor.W

/-! The contract of the reference's Get of pages once more, with a word on the room behind what it tells. No conditions. -/
namespace Go.Proofs.YtgdgehfapfgdfaaGreatDoor.W
set_option maxRecDepth 100000
open Go.RowKit Oc
set_option linter.unusedVariables false

/-- the reference tells a part of what it got -/
def RGTold2 (w : World) (ys : List UInt8) (k : Int) (e : Ending) (w' : World) : Prop := ∃ A m c, m ≤ c ∧ e = .returned (.tuple #[.slice A m c, .int .i64 (getE ys k)]) ∧ Oct w A m (getL ys k) ∧ ∃ j, w' = w.drewN j
theorem rgtold2_no {w : World} {k : Int} {ys : List UInt8} {z : Int} (h : getE ys k = z) (hz : z ≠ 0) (j : Nat) : RGTold2 w ys k (.returned (.tuple #[.slice none 0 0, .int .i64 z])) (w.drewN j) := by
  subst h
  refine ⟨none, 0, 0, Nat.le_refl _, rfl, ?_, j, rfl⟩
  rw [getL_no hz]
  exact Oct.nil _ _
theorem rgtold2_ok {w : World} {k : Int} {ys zs : List UInt8} {A : Option Addr} {m c : Nat} (h : getE ys k = 0) (hz : (openL ys).drop 2 = zs) (ho : Oct w A m zs) (hmc : m ≤ c) (j : Nat) : RGTold2 w ys k (.returned (.tuple #[.slice A m c, .int .i64 0])) (w.drewN j) := by
  refine ⟨A, m, c, hmc, by rw [h], ?_, j, rfl⟩
  rw [getL_ok h, hz]
  exact ho

set_option maxHeartbeats 1000000 in
theorem rget2_any (A : Option Addr) (n c : Nat) (ys : List UInt8) (k : Int) (w : World) (hn : n ≤ 1000000) (hc : n ≤ c) (ho : Oct w A n ys) :
    Calls Tryz.prog 147 #[.slice A n c, .int .i64 k] w (RGTold2 w ys k) := by
  have HO := Lib.hid ho
  have hl := ho.len
  by_cases h64 : n = 64
  · subst h64
    rcases openE_some ys hl with h0 | h0
    · have hbl := openL_length hl h0
      obtain ⟨bs, hbs⟩ : ∃ bs, openL ys = bs := ⟨_, rfl⟩
      rw [hbs] at hbl
      by_cases hk : Right k
      · obtain ⟨x, hx⟩ : ∃ x, bs[0]? = some x := ⟨_, List.getElem?_eq_getElem (by omega)⟩
        obtain ⟨y, hy⟩ : ∃ y, bs[1]? = some y := ⟨_, List.getElem?_eq_getElem (by omega)⟩
        have hyl := y.toNat_lt
        have hkl : kindL bs = kindV x y := by unfold kindL; rw [getD_of hx, getD_of hy]
        have his := kindV_is (x := x) (y := y) hk
        rw [← hkl, ← hbs] at his
        have hq : (getE ys k = 0 ∧ (x.toNat : Int) = 213 ∧ (y.toNat : Int) = k) ∨ (getE ys k = 31 ∧ ¬ (x.toNat : Int) = 213) ∨ (getE ys k = 31 ∧ (x.toNat : Int) = 213 ∧ ¬ (y.toNat : Int) = k) := by
          by_cases h1 : x = 213
          · have h2 : (x.toNat : Int) = 213 := by rw [h1]; rfl
            by_cases h3 : (y.toNat : Int) = k
            · exact .inl ⟨getE_ok hl h0 hk (his.2 ⟨h1, h3⟩), h2, h3⟩
            · exact .inr (.inr ⟨getE_form hl h0 (fun h => h3 (his.1 h.2).2), h2, h3⟩)
          · refine .inr (.inl ⟨getE_form hl h0 (fun h => h1 (his.1 h.2).1), fun h => h1 (UInt8.toNat_inj.1 (by have : x.toNat = 213 := by omega
                                                                                                               exact this))⟩)
        have H0 := Lib.hid h0
        have HBL := Lib.hid hbl
        have HBS := Lib.hid hbs
        have HK := Lib.hid hk
        have HX := Lib.hid hx
        have HY := Lib.hid hy
        have HQ := Lib.hid hq
        clear ho hl h0 hbl hbs hk hx hy his hkl hq
        go_enter Tryz.func147, Tryz.ntmps147
        go_wp2_with fail
        refine (ropen2_any _ _ _ ys _ (by omega) hc HO.out).mono ?_; rintro e w1 ⟨A1, m1, c1, hmc, rfl, o, kk, rfl⟩
        rw [H0.out]
        rw [HBS.out] at o
        have hm1 : m1 = 60 := by rw [← o.len]; exact HBL.out
        subst hm1
        obtain ⟨b, off, rfl, hcs⟩ := o.2 (by decide)
        have d0 : w.cell? ⟨b, off, none⟩ = some (.int .u8 (x.toNat : Int)) := hcs 0 x HX.out
        have d1 : w.cell? ⟨b, off + 1, none⟩ = some (.int .u8 (y.toNat : Int)) := hcs 1 y HY.out
        have O := Lib.hid o
        clear o hcs
        rcases HQ.out with ⟨hz, q1, q2⟩ | ⟨hz, q1⟩ | ⟨hz, q1, q2⟩
        · rw [q1] at d0
          have HZ := Lib.hid hz
          subst q2
          clear hz q1
          have o2 := O.out.map (k := 2) (by omega)
          have O2 := Lib.hid o2
          clear o2
          go_wp2_with fail
          refine (rright_yes _ _ HK.out).mono ?_; rintro e w' ⟨rfl, rfl⟩
          go_wp2
          go_ret2
          exact rgtold2_ok HZ.out (by rw [HBS.out]) O2.out (by omega) _
        · have HZ := Lib.hid hz
          clear hz
          go_wp2_with fail
          refine (rright_yes _ _ HK.out).mono ?_; rintro e w' ⟨rfl, rfl⟩
          go_wp2
          go_ret2
          exact rgtold2_no HZ.out (by decide) _
        · rw [q1] at d0
          have HZ := Lib.hid hz
          clear hz q1
          go_wp2_with fail
          refine (rright_yes _ _ HK.out).mono ?_; rintro e w' ⟨rfl, rfl⟩
          go_wp2
          go_ret2
          exact rgtold2_no HZ.out (by decide) _
      · have hz := getE_form (k := k) hl h0 (fun h => hk h.1)
        have HZ := Lib.hid hz
        have H0 := Lib.hid h0
        have HK := Lib.hid hk
        clear ho hl h0 hbl hbs hk hz
        go_enter Tryz.func147, Tryz.ntmps147
        go_wp2_with fail
        refine (ropen_any _ _ _ ys _ (by omega) hc HO.out).mono ?_; rintro e w1 ⟨A1, m1, c1, rfl, o, kk, rfl⟩
        rw [H0.out]
        clear o
        go_wp2_with fail
        refine (rright_no _ _ HK.out).mono ?_; rintro e w' ⟨rfl, rfl⟩
        go_wp2
        go_ret2
        exact rgtold2_no HZ.out (by decide) _
    · have hz := getE_sum hl (by rw [h0]; decide) k
      rw [h0] at hz
      have HZ := Lib.hid hz
      have H0 := Lib.hid h0
      clear ho hl h0 hz
      go_enter Tryz.func147, Tryz.ntmps147
      go_wp2_with fail
      refine (ropen_any _ _ _ ys _ (by omega) hc HO.out).mono ?_; rintro e w1 ⟨A1, m1, c1, rfl, o, kk, rfl⟩
      rw [H0.out]
      clear o
      go_wp2
      go_ret2
      exact rgtold2_no HZ.out (by decide) _
  · have hz := getE_short (ys := ys) (by omega) k
    have HZ := Lib.hid hz
    clear ho hl hz
    go_enter Tryz.func147, Tryz.ntmps147
    go_wp2
    go_ret2
    exact rgtold2_no HZ.out (by decide) 0

end Go.Proofs.YtgdgehfapfgdfaaGreatDoor.W

/-! The contract of the reference's Get. No conditions. -/
namespace Go.Proofs.YtgdgehfapfgdfaaGreatDoor.W
set_option maxRecDepth 100000
open Go.RowKit Oc
set_option linter.unusedVariables false

theorem of2 (A : Option Addr) (c : Nat) (xs : List UInt8) (w : World) (ho : Oct w A 2 xs) (u : Nat) (hu : num xs = u) : Calls Tryz.prog 148 #[.slice A 2 c] w fun e w' => e = .returned (.int .u64 (u : Int)) ∧ w = w' := of_any A 2 c xs w (by omega) ho u hu
theorem of8 (A : Option Addr) (c : Nat) (xs : List UInt8) (w : World) (ho : Oct w A 8 xs) (u : Nat) (hu : num xs = u) : Calls Tryz.prog 148 #[.slice A 8 c] w fun e w' => e = .returned (.int .u64 (u : Int)) ∧ w = w' := of_any A 8 c xs w (by omega) ho u hu
theorem below_drewN {B : Nat} {a w : World} (h : Below B a w) (n : Nat) : Below B a (w.drewN n) := ⟨h.os, h.tape, h.output, h.size, h.block⟩
theorem oct_sub {w : World} {b off n : Nat} {xs : List UInt8} (h : Oct w (some ⟨b, off, none⟩) n xs) {i k o : Nat} (hk : i + k ≤ n) (ho : o = off + i) : Oct w (some ⟨b, o, none⟩) k ((xs.drop i).take k) := by
  subst ho
  have h2 := h.sub (i := i) (k := k) hk
  rw [show Option.map (fun x => x.add i) (some (⟨b, off, none⟩ : Addr)) = some ⟨b, off + i, none⟩ by simp [Go.WideShapes.add_plain]] at h2
  exact h2
theorem wrap_le {x : Nat} (h : x ≤ 1000000000) : IntKind.i64.wrap (x : Int) = (x : Int) := by
  unfold IntKind.wrap
  simp [IntKind.signed, IntKind.bits]
  omega
theorem gp_new2 {w w1 : World} {o : Obj} {k : Nat} {cs : Array Value} {T : TypeId} (h : w1 = (w.alloc (.cells cs T)).drewN k) : w1.heap[w.heap.size]? = some (.cells cs T (0, 0)) := by rw [h]; exact heap_alloc_new w _

/-- the zero page's value -/
def zv : Value := .agg #[.int .i64 0, .int .u64 0, .int .u64 0, .int .u64 0, .int .u64 0, .int .u64 0, .int .u64 0, .int .u64 0]
set_option maxHeartbeats 4000000 in
theorem rgget_dec (A : Option Addr) (n c : Nat) (ys : List UInt8) (no : Int) (d : Gp) (w : World) (hn : n ≤ 1000000) (hc : n ≤ c) (ho : Oct w A n ys) (h1 : getE ys 1 = 0) (hd : d = dec (getL ys 1)) (bb : Bool) (hb : bb = true ↔ MayBe d) (x : Value) (E : Int) (hx : (bb = true ∧ d.no = no ∧ x = (.agg #[.int .i64 d.no, .int .u64 (d.v : Int), .int .u64 (d.g 0 : Int), .int .u64 (d.g 1 : Int), .int .u64 (d.g 2 : Int), .int .u64 (d.g 3 : Int), .int .u64 (d.g 4 : Int), .int .u64 (d.g 5 : Int)]) ∧ E = 0) ∨ (bb = true ∧ ¬ d.no = no ∧ x = zv ∧ E = 31) ∨ (bb = false ∧ x = zv ∧ E = 31)) :
    Calls Tryz.prog 125 #[.slice A n c, .int .i64 no] w fun e w' => e = .returned (.tuple #[x, .int .i64 E]) ∧ Below w.heap.size w w' := by
  have HO := Lib.hid ho
  have H1 := Lib.hid h1
  have HD := Lib.hid hd
  obtain ⟨ps, hps⟩ : ∃ ps, getL ys 1 = ps := ⟨_, rfl⟩
  have hpl : ps.length = 58 := by rw [← hps]; exact get58 h1
  obtain ⟨N, hN⟩ : ∃ N, num (ps.take 2) = N := ⟨_, rfl⟩
  obtain ⟨V, hV⟩ : ∃ V, num ((ps.drop 2).take 8) = V := ⟨_, rfl⟩
  obtain ⟨G, hG⟩ : ∃ G, (dec ps).g = G := ⟨_, rfl⟩
  have hN2 : N < 65536 := by
    rw [← hN]
    have := num_lt (ps.take 2)
    rw [List.length_take, hpl] at this
    simpa using this
  have hdv : ((.agg #[.int .i64 d.no, .int .u64 (d.v : Int), .int .u64 (d.g 0 : Int), .int .u64 (d.g 1 : Int), .int .u64 (d.g 2 : Int), .int .u64 (d.g 3 : Int), .int .u64 (d.g 4 : Int), .int .u64 (d.g 5 : Int)]) : Value) = .agg #[.int .i64 (N : Int), .int .u64 (V : Int), .int .u64 (G 0 : Int), .int .u64 (G 1 : Int), .int .u64 (G 2 : Int), .int .u64 (G 3 : Int), .int .u64 (G 4 : Int), .int .u64 (G 5 : Int)] := by
    rw [hd, hps, ← hN, ← hV, ← hG]; rfl
  have HDV := Lib.hid hdv
  have HPS := Lib.hid hps
  have HPL := Lib.hid hpl
  have EN := Lib.hid hN
  have EV := Lib.hid hV
  have EG := Lib.hid hG
  have HM := Lib.hid hb
  have HX := Lib.hid hx
  have HNO : Hid (d.no = (N : Int)) := by show _ = _; rw [hd, hps, ← hN]; rfl
  clear ho h1 hd hps hpl hN hV hG hdv hb hx
  go_enter Tryz.func125, Tryz.ntmps125
  go_wp2_with fail
  refine (rget2_any _ _ _ ys _ _ hn hc (HO.out.alloc _)).mono ?_; rintro e w1 ⟨A1, m1, c1, hmc, rfl, o, kk, hw⟩
  rw [H1.out]
  rw [HPS.out] at o
  have hm1 : m1 = 58 := by rw [← o.len]; exact HPL.out
  subst hm1
  have S1 : Hid (Oct w1 A1 58 ps) := by show Oct _ _ _ _; rw [hw]; exact o.drewN kk
  have Y1 := Lib.hid (gp_new2 (o := .cells #[] 0) hw)
  have B1 : Hid (Below w.heap.size w w1) := by show Below _ _ _; rw [hw]; exact below_drewN (balloc _ _) kk
  clear o hw
  obtain ⟨b, off, hA1, _⟩ := S1.out.2 (by omega)
  subst hA1
  have hwr : IntKind.i64.wrap (N : Int) = (N : Int) := wrap_le (by omega)
  go_upto_region 4 with fail
  go_cut [8] from 19 to 26 (fun s wc => s = .pointer (some ⟨w1.heap.size, 0, none⟩) ∧ wc = (w1.alloc (.cells #[.int .i64 (N : Int), .int .u64 (V : Int), .int .u64 0, .int .u64 0, .int .u64 0, .int .u64 0, .int .u64 0, .int .u64 0] 33)).drew)
  case first =>
    go_region_held (fun _ => True) (exact trivial) (first
      | (go_at_call 148; (with_reducible refine (of2 (some ⟨b, off, none⟩) c1 (ps.take 2) w1.drew (S1.out.drew.take (by omega)) N EN.out).mono ?_); rintro e w2 ⟨rfl, rfl⟩)
      | (go_at_call 148; (with_reducible refine (of8 (some ⟨b, off + 2, none⟩) (c1 - 2) ((ps.drop 2).take 8) w1.drew (oct_sub S1.out.drew (by omega) rfl) V EV.out).mono ?_); rintro e w2 ⟨rfl, rfl⟩)
      | (go_at_call 148; (with_reducible refine (of2 (some ⟨b, off, none⟩) c1 (ps.take 2) (w1.alloc (.cells #[.int .i64 0, .int .u64 0, .int .u64 0, .int .u64 0, .int .u64 0, .int .u64 0, .int .u64 0, .int .u64 0] 33)).drew ((S1.out.alloc _).drew.take (by omega)) N EN.out).mono ?_); rintro e w2 ⟨rfl, rfl⟩)
      | (go_at_call 148; (with_reducible refine (of8 (some ⟨b, off + 2, none⟩) (c1 - 2) ((ps.drop 2).take 8) (w1.alloc (.cells #[.int .i64 0, .int .u64 0, .int .u64 0, .int .u64 0, .int .u64 0, .int .u64 0, .int .u64 0, .int .u64 0] 33)).drew (oct_sub (S1.out.alloc _).drew (by omega) rfl) V EV.out).mono ?_); rintro e w2 ⟨rfl, rfl⟩))
    all_goals (go_wp2_with fail; go_meet; first | exact ⟨rfl, rfl⟩ | (rw [hwr]; exact ⟨rfl, rfl⟩))
  case rest =>
    obtain ⟨rfl, hwc⟩ := hcut
    obtain ⟨B, hB⟩ : ∃ B, B = w1.heap.size := ⟨_, rfl⟩
    have XB : Hid (wc.heap[B]? = some (.cells (gc N V (upto G 0)) 33 (0, 0))) := by show _ = _; rw [hwc, hB]; exact heap_alloc_new w1 _
    have YB : Hid (wc.heap[w.heap.size]? = some (.cells (gc 0 0 fun _ => 0) 33 (0, 0))) := by show _ = _; rw [hwc]; exact kept_below Y1.out (balloc w1 _).drew
    have SB : Hid (Oct wc (some ⟨b, off, none⟩) 58 ps) := by show Oct _ _ _ _; rw [hwc]; exact (S1.out.alloc _).drew
    have BB : Hid (Below w.heap.size w wc) := by show Below _ _ _; rw [hwc]; exact bthen B1.out (balloc w1 _).drew
    have hwB : w.heap.size < B := by rw [hB]; exact (Array.getElem?_eq_some_iff.1 Y1.out).1
    have EB := Lib.hid hB
    rw [← hB]
    clear hwc hB
    go_wp2
    go_loopw [9] (fun q wr => ∃ j : Nat, j ≤ 6 ∧ q = .int .i64 j ∧ Hid (wr.heap[B]? = some (.cells (gc N V (upto G j)) 33 (0, 0))) ∧ Hid (wr.heap[w.heap.size]? = some (.cells (gc 0 0 fun _ => 0) 33 (0, 0))) ∧ Hid (Oct wr (some ⟨b, off, none⟩) 58 ps) ∧ Hid (Below w.heap.size w wr)) (fun q _ => 6 - (intOf q).toNat)
    case atStart => exact ⟨0, by omega, rfl, XB, YB, SB, BB⟩
    case round =>
      obtain ⟨j, hj, rfl, HG, HC, SJ, BJ⟩ := hrel
      by_cases hlt : j < 6
      · obtain ⟨k1, f1⟩ := gc_cell HG.out hlt
        have hlen : 18 + 8 * j - (10 + 8 * j) = 8 := by omega
        have HLN := Lib.hid hlen
        clear hlen
        go_wp2_with fail
        rw [HLN.out]
        refine (of8 _ _ ((ps.drop (10 + 8 * j)).take 8) _ (oct_sub SJ.out (by omega) rfl) (G j) (by rw [gen_drop, EG.out])).mono ?_; rintro e w' ⟨rfl, rfl⟩
        go_wp2
        go_roundw
        case rel =>
          refine ⟨j + 1, by omega, rfl, ?_, kept_by HC.out (grown_set _ _ _ _) (by omega), SJ.out.grown (grown_set _ _ _ _) (Oct.gc SJ.out HG.out), below_up BJ.out (grown_set _ _ _ _) (by omega)⟩
          show _ = _
          rw [← gc_upto]
          exact gc_set HG.out hlt (G j)
        case measure => simp [intOf]; omega
      · have h6 : j = 6 := by omega
        have hg : wr.heap[B]? = some (.cells #[.int .i64 (N : Int), .int .u64 (V : Int), .int .u64 (G 0 : Int), .int .u64 (G 1 : Int), .int .u64 (G 2 : Int), .int .u64 (G 3 : Int), .int .u64 (G 4 : Int), .int .u64 (G 5 : Int)] 33 (0, 0)) := by rw [HG.out, h6, gc_all]; rfl
        have X7 := Lib.hid hg
        clear hg h6
        go_wp2_with ((with_reducible apply L_loadGp); exact rfl; exact X7.out; exact rfl)
        rw [← HDV.out]
        refine (rmay_any d bb _ HM.out).mono ?_; rintro e w8 ⟨rfl, b8⟩
        have Y8 := Lib.hid (kept_below HC.out b8)
        have X8 := Lib.hid (kept_below X7.out b8)
        have B8 : Hid (Below w.heap.size w w8) := bthen BJ.out b8
        clear b8
        have hx0 : w8.cell? ⟨B, 0, none⟩ = some (.int .i64 (N : Int)) := by rw [cell_of_row _ _ _ _ _ _ X8.out]; rfl
        rcases HX.out with ⟨rfl, h2, rfl, rfl⟩ | ⟨rfl, h2, rfl, rfl⟩ | ⟨rfl, rfl, rfl⟩
        · rw [HNO.out] at h2
          subst h2
          go_wp2_with (first
            | ((with_reducible apply L_loadGp); exact rfl; exact X8.out; exact rfl)
            | ((with_reducible apply L_storeRow (N := 8) info_gp); exact rfl; exact rfl; exact Y8.out; exact rfl; exact rfl; (simp [Value.oneCell']); intro w4 h4 g4; have H4 := Lib.hid h4; have G4 := Lib.hid g4; clear h4 g4))
          refine bodyPost_ret (results_cell_tmp_row rfl _ _ _ _ rfl (run_loadVar_row _ _ _ _ _ _ _ H4.out Tryz.underlying33 rfl info_gp)) rfl ?_
          exact ⟨by rw [HDV.out]; rfl, below_up B8.out G4.out (Nat.le_refl _)⟩
        · rw [HNO.out] at h2
          go_wp2_with ((with_reducible apply L_storeRow (N := 8) info_gp); exact rfl; exact rfl; exact Y8.out; exact rfl; exact rfl; (simp [Value.oneCell']); intro w4 h4 g4; have H4 := Lib.hid h4; have G4 := Lib.hid g4; clear h4 g4)
          refine bodyPost_ret (results_cell_tmp_row rfl _ _ _ _ rfl (run_loadVar_row _ _ _ _ _ _ _ H4.out Tryz.underlying33 rfl info_gp)) rfl ?_
          exact ⟨rfl, below_up B8.out G4.out (Nat.le_refl _)⟩
        · go_wp2_with ((with_reducible apply L_storeRow (N := 8) info_gp); exact rfl; exact rfl; exact Y8.out; exact rfl; exact rfl; (simp [Value.oneCell']); intro w4 h4 g4; have H4 := Lib.hid h4; have G4 := Lib.hid g4; clear h4 g4)
          refine bodyPost_ret (results_cell_tmp_row rfl _ _ _ _ rfl (run_loadVar_row _ _ _ _ _ _ _ H4.out Tryz.underlying33 rfl info_gp)) rfl ?_
          exact ⟨rfl, below_up B8.out G4.out (Nat.le_refl _)⟩
end Go.Proofs.YtgdgehfapfgdfaaGreatDoor.W

/-! Contracts of the reference's Get and Newer, by what they tell. No conditions. -/
namespace Go.Proofs.YtgdgehfapfgdfaaGreatDoor.W
set_option maxRecDepth 100000
open Go.RowKit Oc
set_option linter.unusedVariables false

theorem Like.symm {p d : Gp} (h : Like p d) : Like d p := ⟨h.1.symm, h.2.1.symm, fun i hi => (h.2.2 i hi).symm⟩
set_option maxHeartbeats 2000000 in
theorem rgget_any (A : Option Addr) (n c : Nat) (ys : List UInt8) (no : Int) (p : Gp) (E : Int) (w : World) (hn : n ≤ 1000000) (hc : n ≤ c) (ho : Oct w A n ys) (hW : GWay ys no p E) :
    Calls Tryz.prog 125 #[.slice A n c, .int .i64 no] w fun e w' => e = .returned (.tuple #[(.agg #[.int .i64 p.no, .int .u64 (p.v : Int), .int .u64 (p.g 0 : Int), .int .u64 (p.g 1 : Int), .int .u64 (p.g 2 : Int), .int .u64 (p.g 3 : Int), .int .u64 (p.g 4 : Int), .int .u64 (p.g 5 : Int)]), .int .i64 E]) ∧ Below w.heap.size w w' := by
  rcases hW with ⟨h1, h2, h3⟩ | ⟨h1, h2, h3, h4⟩ | ⟨h1, h2, h3, h4, h5⟩
  · subst h3
    have HO := Lib.hid ho
    have hE0 : ¬ E = 0 := by rw [h2]; exact h1
    have H2 := Lib.hid h2.symm
    clear h1 h2 ho
    go_enter Tryz.func125, Tryz.ntmps125
    go_wp2_with fail
    refine (rget2_any _ _ _ ys _ _ hn hc (HO.out.alloc _)).mono ?_; rintro e w1 ⟨A1, m1, c1, hmc, rfl, o, kk, hw⟩
    rw [H2.out]
    have Y1 := Lib.hid (gp_new2 (o := .cells #[] 0) hw)
    have B1 : Hid (Below w.heap.size w w1) := by show Below _ _ _; rw [hw]; exact below_drewN (balloc _ _) kk
    clear o hw
    go_wp2_with ((with_reducible apply L_storeRow (N := 8) info_gp); exact rfl; exact rfl; exact Y1.out; exact rfl; exact rfl; (simp [Value.oneCell']); intro w3 h3 g3; have H3 := Lib.hid h3; have G3 := Lib.hid g3; clear h3 g3)
    refine bodyPost_ret (results_cell_tmp_row rfl _ _ _ _ rfl (run_loadVar_row _ _ _ _ _ _ _ H3.out Tryz.underlying33 rfl info_gp)) rfl ?_
    exact ⟨rfl, below_up B1.out G3.out (Nat.le_refl _)⟩
  · subst h3 h2
    obtain ⟨d, hd⟩ : ∃ d, d = dec (getL ys 1) := ⟨_, rfl⟩
    rw [← hd] at h4
    by_cases hm : MayBe d
    · exact rgget_dec A n c ys no d w hn hc ho h1 hd true ⟨fun _ => hm, fun _ => rfl⟩ _ 31 (.inr (.inl ⟨rfl, fun h => h4 ⟨hm, h⟩, rfl, rfl⟩))
    · exact rgget_dec A n c ys no d w hn hc ho h1 hd false ⟨fun h => (by cases h), fun h => absurd h hm⟩ _ 31 (.inr (.inr ⟨rfl, rfl, rfl⟩))
  · subst h2 h5
    obtain ⟨d, hd⟩ : ∃ d, d = dec (getL ys 1) := ⟨_, rfl⟩
    rw [← hd] at h3
    exact rgget_dec A n c ys p.no d w hn hc ho h1 hd true ⟨fun _ => h3.symm.may h4, fun _ => rfl⟩ _ 0 (.inl ⟨rfl, h3.1.symm, like_val h3, rfl⟩)

set_option maxHeartbeats 2000000 in
theorem rnewer1 (A1 A2 : Option Addr) (n1 c1 n2 c2 : Nat) (ys zs : List UInt8) (no : Int) (p q : Gp) (E F : Int) (w : World) (hn1 : n1 ≤ 1000000) (hc1 : n1 ≤ c1) (hn2 : n2 ≤ 1000000) (hc2 : n2 ≤ c2) (ho1 : Oct w A1 n1 ys) (ho2 : Oct w A2 n2 zs) (h1 : GWay ys no p E) (h2 : GWay zs no q F) (hE : E = 0) (hF : ¬ F = 0) :
    Calls Tryz.prog 102 #[.slice A1 n1 c1, .slice A2 n2 c2, .int .i64 no] w fun e w' => e = .returned (.tuple #[(.agg #[.int .i64 p.no, .int .u64 (p.v : Int), .int .u64 (p.g 0 : Int), .int .u64 (p.g 1 : Int), .int .u64 (p.g 2 : Int), .int .u64 (p.g 3 : Int), .int .u64 (p.g 4 : Int), .int .u64 (p.g 5 : Int)]), .int .i64 0, .bool true]) ∧ Below w.heap.size w w' := by
  have O1 := Lib.hid ho1
  have O2 := Lib.hid ho2
  have H1 := Lib.hid h1
  have H2 := Lib.hid h2
  clear ho1 ho2 h1 h2
  subst hE
  go_enter Tryz.func102, Tryz.ntmps102
  go_wp2_with fail
  refine (rgget_any _ _ _ ys _ p _ _ hn1 hc1 (O1.out.alloc _) H1.out).mono ?_; rintro e w1 ⟨rfl, b1⟩
  have Y1 := Lib.hid (kept_below (gp_new w) b1)
  have B1 : Hid (Below w.heap.size w w1) := bthen (balloc _ _) b1
  clear b1
  go_wp2_with fail
  refine (rgget_any _ _ _ zs _ q _ _ hn2 hc2 ((O2.out.below B1.out).alloc _) H2.out).mono ?_; rintro e w2 ⟨rfl, b2⟩
  have Y2 := Lib.hid (kept_below (kept_below Y1.out (balloc w1 (.cells #[.int .i64 p.no, .int .u64 (p.v : Int), .int .u64 (p.g 0 : Int), .int .u64 (p.g 1 : Int), .int .u64 (p.g 2 : Int), .int .u64 (p.g 3 : Int), .int .u64 (p.g 4 : Int), .int .u64 (p.g 5 : Int)] 33))) b2)
  have X2 := Lib.hid (kept_below (heap_alloc_new w1 (.cells #[.int .i64 p.no, .int .u64 (p.v : Int), .int .u64 (p.g 0 : Int), .int .u64 (p.g 1 : Int), .int .u64 (p.g 2 : Int), .int .u64 (p.g 3 : Int), .int .u64 (p.g 4 : Int), .int .u64 (p.g 5 : Int)] 33)) b2)
  have B2 : Hid (Below w.heap.size w w2) := bthen (bthen B1.out (balloc w1 (.cells #[.int .i64 p.no, .int .u64 (p.v : Int), .int .u64 (p.g 0 : Int), .int .u64 (p.g 1 : Int), .int .u64 (p.g 2 : Int), .int .u64 (p.g 3 : Int), .int .u64 (p.g 4 : Int), .int .u64 (p.g 5 : Int)] 33))) b2
  have hne : w1.heap.size ≠ w2.heap.size := by have := (Array.getElem?_eq_some_iff.1 X2.out).1; omega
  clear b2
  have Y3 := Lib.hid (kept_below Y2.out (balloc w2 (.cells #[.int .i64 q.no, .int .u64 (q.v : Int), .int .u64 (q.g 0 : Int), .int .u64 (q.g 1 : Int), .int .u64 (q.g 2 : Int), .int .u64 (q.g 3 : Int), .int .u64 (q.g 4 : Int), .int .u64 (q.g 5 : Int)] 33)))
  have B3 : Hid (Below w.heap.size w (w2.alloc (.cells #[.int .i64 q.no, .int .u64 (q.v : Int), .int .u64 (q.g 0 : Int), .int .u64 (q.g 1 : Int), .int .u64 (q.g 2 : Int), .int .u64 (q.g 3 : Int), .int .u64 (q.g 4 : Int), .int .u64 (q.g 5 : Int)] 33))) := bthen B2.out (balloc w2 (.cells #[.int .i64 q.no, .int .u64 (q.v : Int), .int .u64 (q.g 0 : Int), .int .u64 (q.g 1 : Int), .int .u64 (q.g 2 : Int), .int .u64 (q.g 3 : Int), .int .u64 (q.g 4 : Int), .int .u64 (q.g 5 : Int)] 33))
  have X3 := Lib.hid (kept_below X2.out (balloc w2 (.cells #[.int .i64 q.no, .int .u64 (q.v : Int), .int .u64 (q.g 0 : Int), .int .u64 (q.g 1 : Int), .int .u64 (q.g 2 : Int), .int .u64 (q.g 3 : Int), .int .u64 (q.g 4 : Int), .int .u64 (q.g 5 : Int)] 33)))
  obtain ⟨x0, x1, x2, x3, x4, x5, x6, x7⟩ := gp_cells X3.out
  go_wp2_with (first
    | ((with_reducible apply L_loadGp); exact rfl; exact X3.out; exact rfl)
    | ((with_reducible apply L_storeRow (N := 8) info_gp); exact rfl; exact rfl; exact Y3.out; exact rfl; exact rfl; (simp [Value.oneCell']); intro w4 h4 g4; have H4 := Lib.hid h4; have G4 := Lib.hid g4; clear h4 g4))
  refine bodyPost_ret (results_cell_tmp2_row rfl _ _ _ _ rfl (run_loadVar_row _ _ _ _ _ _ _ H4.out Tryz.underlying33 rfl info_gp)) rfl ?_
  exact ⟨rfl, below_up B3.out G4.out (Nat.le_refl _)⟩

set_option maxHeartbeats 2000000 in
theorem rnewer2 (A1 A2 : Option Addr) (n1 c1 n2 c2 : Nat) (ys zs : List UInt8) (no : Int) (p q : Gp) (E F : Int) (w : World) (hn1 : n1 ≤ 1000000) (hc1 : n1 ≤ c1) (hn2 : n2 ≤ 1000000) (hc2 : n2 ≤ c2) (ho1 : Oct w A1 n1 ys) (ho2 : Oct w A2 n2 zs) (h1 : GWay ys no p E) (h2 : GWay zs no q F) (hE : E = 0) (hF : F = 0) (hle : q.v ≤ p.v) :
    Calls Tryz.prog 102 #[.slice A1 n1 c1, .slice A2 n2 c2, .int .i64 no] w fun e w' => e = .returned (.tuple #[(.agg #[.int .i64 p.no, .int .u64 (p.v : Int), .int .u64 (p.g 0 : Int), .int .u64 (p.g 1 : Int), .int .u64 (p.g 2 : Int), .int .u64 (p.g 3 : Int), .int .u64 (p.g 4 : Int), .int .u64 (p.g 5 : Int)]), .int .i64 0, .bool true]) ∧ Below w.heap.size w w' := by
  have O1 := Lib.hid ho1
  have O2 := Lib.hid ho2
  have H1 := Lib.hid h1
  have H2 := Lib.hid h2
  clear ho1 ho2 h1 h2
  subst hE
  subst hF
  go_enter Tryz.func102, Tryz.ntmps102
  go_wp2_with fail
  refine (rgget_any _ _ _ ys _ p _ _ hn1 hc1 (O1.out.alloc _) H1.out).mono ?_; rintro e w1 ⟨rfl, b1⟩
  have Y1 := Lib.hid (kept_below (gp_new w) b1)
  have B1 : Hid (Below w.heap.size w w1) := bthen (balloc _ _) b1
  clear b1
  go_wp2_with fail
  refine (rgget_any _ _ _ zs _ q _ _ hn2 hc2 ((O2.out.below B1.out).alloc _) H2.out).mono ?_; rintro e w2 ⟨rfl, b2⟩
  have Y2 := Lib.hid (kept_below (kept_below Y1.out (balloc w1 (.cells #[.int .i64 p.no, .int .u64 (p.v : Int), .int .u64 (p.g 0 : Int), .int .u64 (p.g 1 : Int), .int .u64 (p.g 2 : Int), .int .u64 (p.g 3 : Int), .int .u64 (p.g 4 : Int), .int .u64 (p.g 5 : Int)] 33))) b2)
  have X2 := Lib.hid (kept_below (heap_alloc_new w1 (.cells #[.int .i64 p.no, .int .u64 (p.v : Int), .int .u64 (p.g 0 : Int), .int .u64 (p.g 1 : Int), .int .u64 (p.g 2 : Int), .int .u64 (p.g 3 : Int), .int .u64 (p.g 4 : Int), .int .u64 (p.g 5 : Int)] 33)) b2)
  have B2 : Hid (Below w.heap.size w w2) := bthen (bthen B1.out (balloc w1 (.cells #[.int .i64 p.no, .int .u64 (p.v : Int), .int .u64 (p.g 0 : Int), .int .u64 (p.g 1 : Int), .int .u64 (p.g 2 : Int), .int .u64 (p.g 3 : Int), .int .u64 (p.g 4 : Int), .int .u64 (p.g 5 : Int)] 33))) b2
  have hne : w1.heap.size ≠ w2.heap.size := by have := (Array.getElem?_eq_some_iff.1 X2.out).1; omega
  clear b2
  have Y3 := Lib.hid (kept_below Y2.out (balloc w2 (.cells #[.int .i64 q.no, .int .u64 (q.v : Int), .int .u64 (q.g 0 : Int), .int .u64 (q.g 1 : Int), .int .u64 (q.g 2 : Int), .int .u64 (q.g 3 : Int), .int .u64 (q.g 4 : Int), .int .u64 (q.g 5 : Int)] 33)))
  have B3 : Hid (Below w.heap.size w (w2.alloc (.cells #[.int .i64 q.no, .int .u64 (q.v : Int), .int .u64 (q.g 0 : Int), .int .u64 (q.g 1 : Int), .int .u64 (q.g 2 : Int), .int .u64 (q.g 3 : Int), .int .u64 (q.g 4 : Int), .int .u64 (q.g 5 : Int)] 33))) := bthen B2.out (balloc w2 (.cells #[.int .i64 q.no, .int .u64 (q.v : Int), .int .u64 (q.g 0 : Int), .int .u64 (q.g 1 : Int), .int .u64 (q.g 2 : Int), .int .u64 (q.g 3 : Int), .int .u64 (q.g 4 : Int), .int .u64 (q.g 5 : Int)] 33))
  have X3 := Lib.hid (kept_below X2.out (balloc w2 (.cells #[.int .i64 q.no, .int .u64 (q.v : Int), .int .u64 (q.g 0 : Int), .int .u64 (q.g 1 : Int), .int .u64 (q.g 2 : Int), .int .u64 (q.g 3 : Int), .int .u64 (q.g 4 : Int), .int .u64 (q.g 5 : Int)] 33)))
  obtain ⟨x0, x1, x2, x3, x4, x5, x6, x7⟩ := gp_cells X3.out
  go_wp2_with (first
    | ((with_reducible apply L_loadGp); exact rfl; exact X3.out; exact rfl)
    | ((with_reducible apply L_storeRow (N := 8) info_gp); exact rfl; exact rfl; exact Y3.out; exact rfl; exact rfl; (simp [Value.oneCell']); intro w4 h4 g4; have H4 := Lib.hid h4; have G4 := Lib.hid g4; clear h4 g4))
  refine bodyPost_ret (results_cell_tmp2_row rfl _ _ _ _ rfl (run_loadVar_row _ _ _ _ _ _ _ H4.out Tryz.underlying33 rfl info_gp)) rfl ?_
  exact ⟨rfl, below_up B3.out G4.out (Nat.le_refl _)⟩

set_option maxHeartbeats 2000000 in
theorem rnewer3 (A1 A2 : Option Addr) (n1 c1 n2 c2 : Nat) (ys zs : List UInt8) (no : Int) (p q : Gp) (E F : Int) (w : World) (hn1 : n1 ≤ 1000000) (hc1 : n1 ≤ c1) (hn2 : n2 ≤ 1000000) (hc2 : n2 ≤ c2) (ho1 : Oct w A1 n1 ys) (ho2 : Oct w A2 n2 zs) (h1 : GWay ys no p E) (h2 : GWay zs no q F) (hE : E = 0) (hF : F = 0) (hlt : p.v < q.v) :
    Calls Tryz.prog 102 #[.slice A1 n1 c1, .slice A2 n2 c2, .int .i64 no] w fun e w' => e = .returned (.tuple #[(.agg #[.int .i64 q.no, .int .u64 (q.v : Int), .int .u64 (q.g 0 : Int), .int .u64 (q.g 1 : Int), .int .u64 (q.g 2 : Int), .int .u64 (q.g 3 : Int), .int .u64 (q.g 4 : Int), .int .u64 (q.g 5 : Int)]), .int .i64 1, .bool true]) ∧ Below w.heap.size w w' := by
  have O1 := Lib.hid ho1
  have O2 := Lib.hid ho2
  have H1 := Lib.hid h1
  have H2 := Lib.hid h2
  clear ho1 ho2 h1 h2
  subst hE
  subst hF
  go_enter Tryz.func102, Tryz.ntmps102
  go_wp2_with fail
  refine (rgget_any _ _ _ ys _ p _ _ hn1 hc1 (O1.out.alloc _) H1.out).mono ?_; rintro e w1 ⟨rfl, b1⟩
  have Y1 := Lib.hid (kept_below (gp_new w) b1)
  have B1 : Hid (Below w.heap.size w w1) := bthen (balloc _ _) b1
  clear b1
  go_wp2_with fail
  refine (rgget_any _ _ _ zs _ q _ _ hn2 hc2 ((O2.out.below B1.out).alloc _) H2.out).mono ?_; rintro e w2 ⟨rfl, b2⟩
  have Y2 := Lib.hid (kept_below (kept_below Y1.out (balloc w1 (.cells #[.int .i64 p.no, .int .u64 (p.v : Int), .int .u64 (p.g 0 : Int), .int .u64 (p.g 1 : Int), .int .u64 (p.g 2 : Int), .int .u64 (p.g 3 : Int), .int .u64 (p.g 4 : Int), .int .u64 (p.g 5 : Int)] 33))) b2)
  have X2 := Lib.hid (kept_below (heap_alloc_new w1 (.cells #[.int .i64 p.no, .int .u64 (p.v : Int), .int .u64 (p.g 0 : Int), .int .u64 (p.g 1 : Int), .int .u64 (p.g 2 : Int), .int .u64 (p.g 3 : Int), .int .u64 (p.g 4 : Int), .int .u64 (p.g 5 : Int)] 33)) b2)
  have B2 : Hid (Below w.heap.size w w2) := bthen (bthen B1.out (balloc w1 (.cells #[.int .i64 p.no, .int .u64 (p.v : Int), .int .u64 (p.g 0 : Int), .int .u64 (p.g 1 : Int), .int .u64 (p.g 2 : Int), .int .u64 (p.g 3 : Int), .int .u64 (p.g 4 : Int), .int .u64 (p.g 5 : Int)] 33))) b2
  have hne : w1.heap.size ≠ w2.heap.size := by have := (Array.getElem?_eq_some_iff.1 X2.out).1; omega
  clear b2
  have Y3 := Lib.hid (kept_below Y2.out (balloc w2 (.cells #[.int .i64 q.no, .int .u64 (q.v : Int), .int .u64 (q.g 0 : Int), .int .u64 (q.g 1 : Int), .int .u64 (q.g 2 : Int), .int .u64 (q.g 3 : Int), .int .u64 (q.g 4 : Int), .int .u64 (q.g 5 : Int)] 33)))
  have B3 : Hid (Below w.heap.size w (w2.alloc (.cells #[.int .i64 q.no, .int .u64 (q.v : Int), .int .u64 (q.g 0 : Int), .int .u64 (q.g 1 : Int), .int .u64 (q.g 2 : Int), .int .u64 (q.g 3 : Int), .int .u64 (q.g 4 : Int), .int .u64 (q.g 5 : Int)] 33))) := bthen B2.out (balloc w2 (.cells #[.int .i64 q.no, .int .u64 (q.v : Int), .int .u64 (q.g 0 : Int), .int .u64 (q.g 1 : Int), .int .u64 (q.g 2 : Int), .int .u64 (q.g 3 : Int), .int .u64 (q.g 4 : Int), .int .u64 (q.g 5 : Int)] 33))
  have X3 := Lib.hid (kept_below X2.out (balloc w2 (.cells #[.int .i64 q.no, .int .u64 (q.v : Int), .int .u64 (q.g 0 : Int), .int .u64 (q.g 1 : Int), .int .u64 (q.g 2 : Int), .int .u64 (q.g 3 : Int), .int .u64 (q.g 4 : Int), .int .u64 (q.g 5 : Int)] 33)))
  obtain ⟨x0, x1, x2, x3, x4, x5, x6, x7⟩ := gp_cells X3.out
  go_wp2_with (first
    | ((with_reducible apply L_loadGp); exact rfl; exact X3.out; exact rfl)
    | ((with_reducible apply L_storeRow (N := 8) info_gp); exact rfl; exact rfl; exact Y3.out; exact rfl; exact rfl; (simp [Value.oneCell']); intro w4 h4 g4; have H4 := Lib.hid h4; have G4 := Lib.hid g4; clear h4 g4))
  refine bodyPost_ret (results_cell_tmp2_row rfl _ _ _ _ rfl (run_loadVar_row _ _ _ _ _ _ _ H4.out Tryz.underlying33 rfl info_gp)) rfl ?_
  exact ⟨rfl, below_up B3.out G4.out (Nat.le_refl _)⟩

set_option maxHeartbeats 2000000 in
theorem rnewer4 (A1 A2 : Option Addr) (n1 c1 n2 c2 : Nat) (ys zs : List UInt8) (no : Int) (p q : Gp) (E F : Int) (w : World) (hn1 : n1 ≤ 1000000) (hc1 : n1 ≤ c1) (hn2 : n2 ≤ 1000000) (hc2 : n2 ≤ c2) (ho1 : Oct w A1 n1 ys) (ho2 : Oct w A2 n2 zs) (h1 : GWay ys no p E) (h2 : GWay zs no q F) (hE : ¬ E = 0) (hF : F = 0) :
    Calls Tryz.prog 102 #[.slice A1 n1 c1, .slice A2 n2 c2, .int .i64 no] w fun e w' => e = .returned (.tuple #[(.agg #[.int .i64 q.no, .int .u64 (q.v : Int), .int .u64 (q.g 0 : Int), .int .u64 (q.g 1 : Int), .int .u64 (q.g 2 : Int), .int .u64 (q.g 3 : Int), .int .u64 (q.g 4 : Int), .int .u64 (q.g 5 : Int)]), .int .i64 1, .bool true]) ∧ Below w.heap.size w w' := by
  have O1 := Lib.hid ho1
  have O2 := Lib.hid ho2
  have H1 := Lib.hid h1
  have H2 := Lib.hid h2
  clear ho1 ho2 h1 h2
  subst hF
  go_enter Tryz.func102, Tryz.ntmps102
  go_wp2_with fail
  refine (rgget_any _ _ _ ys _ p _ _ hn1 hc1 (O1.out.alloc _) H1.out).mono ?_; rintro e w1 ⟨rfl, b1⟩
  have Y1 := Lib.hid (kept_below (gp_new w) b1)
  have B1 : Hid (Below w.heap.size w w1) := bthen (balloc _ _) b1
  clear b1
  go_wp2_with fail
  refine (rgget_any _ _ _ zs _ q _ _ hn2 hc2 ((O2.out.below B1.out).alloc _) H2.out).mono ?_; rintro e w2 ⟨rfl, b2⟩
  have Y2 := Lib.hid (kept_below (kept_below Y1.out (balloc w1 (.cells #[.int .i64 p.no, .int .u64 (p.v : Int), .int .u64 (p.g 0 : Int), .int .u64 (p.g 1 : Int), .int .u64 (p.g 2 : Int), .int .u64 (p.g 3 : Int), .int .u64 (p.g 4 : Int), .int .u64 (p.g 5 : Int)] 33))) b2)
  have X2 := Lib.hid (kept_below (heap_alloc_new w1 (.cells #[.int .i64 p.no, .int .u64 (p.v : Int), .int .u64 (p.g 0 : Int), .int .u64 (p.g 1 : Int), .int .u64 (p.g 2 : Int), .int .u64 (p.g 3 : Int), .int .u64 (p.g 4 : Int), .int .u64 (p.g 5 : Int)] 33)) b2)
  have B2 : Hid (Below w.heap.size w w2) := bthen (bthen B1.out (balloc w1 (.cells #[.int .i64 p.no, .int .u64 (p.v : Int), .int .u64 (p.g 0 : Int), .int .u64 (p.g 1 : Int), .int .u64 (p.g 2 : Int), .int .u64 (p.g 3 : Int), .int .u64 (p.g 4 : Int), .int .u64 (p.g 5 : Int)] 33))) b2
  have hne : w1.heap.size ≠ w2.heap.size := by have := (Array.getElem?_eq_some_iff.1 X2.out).1; omega
  clear b2
  have Y3 := Lib.hid (kept_below Y2.out (balloc w2 (.cells #[.int .i64 q.no, .int .u64 (q.v : Int), .int .u64 (q.g 0 : Int), .int .u64 (q.g 1 : Int), .int .u64 (q.g 2 : Int), .int .u64 (q.g 3 : Int), .int .u64 (q.g 4 : Int), .int .u64 (q.g 5 : Int)] 33)))
  have B3 : Hid (Below w.heap.size w (w2.alloc (.cells #[.int .i64 q.no, .int .u64 (q.v : Int), .int .u64 (q.g 0 : Int), .int .u64 (q.g 1 : Int), .int .u64 (q.g 2 : Int), .int .u64 (q.g 3 : Int), .int .u64 (q.g 4 : Int), .int .u64 (q.g 5 : Int)] 33))) := bthen B2.out (balloc w2 (.cells #[.int .i64 q.no, .int .u64 (q.v : Int), .int .u64 (q.g 0 : Int), .int .u64 (q.g 1 : Int), .int .u64 (q.g 2 : Int), .int .u64 (q.g 3 : Int), .int .u64 (q.g 4 : Int), .int .u64 (q.g 5 : Int)] 33))
  have X3 := Lib.hid (kept_below X2.out (balloc w2 (.cells #[.int .i64 q.no, .int .u64 (q.v : Int), .int .u64 (q.g 0 : Int), .int .u64 (q.g 1 : Int), .int .u64 (q.g 2 : Int), .int .u64 (q.g 3 : Int), .int .u64 (q.g 4 : Int), .int .u64 (q.g 5 : Int)] 33)))
  obtain ⟨x0, x1, x2, x3, x4, x5, x6, x7⟩ := gp_cells X3.out
  go_wp2_with (first
    | ((with_reducible apply L_loadGp); exact rfl; exact X3.out; exact rfl)
    | ((with_reducible apply L_storeRow (N := 8) info_gp); exact rfl; exact rfl; exact Y3.out; exact rfl; exact rfl; (simp [Value.oneCell']); intro w4 h4 g4; have H4 := Lib.hid h4; have G4 := Lib.hid g4; clear h4 g4))
  refine bodyPost_ret (results_cell_tmp2_row rfl _ _ _ _ rfl (run_loadVar_row _ _ _ _ _ _ _ H4.out Tryz.underlying33 rfl info_gp)) rfl ?_
  exact ⟨rfl, below_up B3.out G4.out (Nat.le_refl _)⟩

set_option maxHeartbeats 2000000 in
theorem rnewer5 (A1 A2 : Option Addr) (n1 c1 n2 c2 : Nat) (ys zs : List UInt8) (no : Int) (p q : Gp) (E F : Int) (w : World) (hn1 : n1 ≤ 1000000) (hc1 : n1 ≤ c1) (hn2 : n2 ≤ 1000000) (hc2 : n2 ≤ c2) (ho1 : Oct w A1 n1 ys) (ho2 : Oct w A2 n2 zs) (h1 : GWay ys no p E) (h2 : GWay zs no q F) (hE : ¬ E = 0) (hF : ¬ F = 0) :
    Calls Tryz.prog 102 #[.slice A1 n1 c1, .slice A2 n2 c2, .int .i64 no] w fun e w' => e = .returned (.tuple #[(.agg #[.int .i64 zp.no, .int .u64 (zp.v : Int), .int .u64 (zp.g 0 : Int), .int .u64 (zp.g 1 : Int), .int .u64 (zp.g 2 : Int), .int .u64 (zp.g 3 : Int), .int .u64 (zp.g 4 : Int), .int .u64 (zp.g 5 : Int)]), .int .i64 0, .bool false]) ∧ Below w.heap.size w w' := by
  have O1 := Lib.hid ho1
  have O2 := Lib.hid ho2
  have H1 := Lib.hid h1
  have H2 := Lib.hid h2
  clear ho1 ho2 h1 h2
  go_enter Tryz.func102, Tryz.ntmps102
  go_wp2_with fail
  refine (rgget_any _ _ _ ys _ p _ _ hn1 hc1 (O1.out.alloc _) H1.out).mono ?_; rintro e w1 ⟨rfl, b1⟩
  have Y1 := Lib.hid (kept_below (gp_new w) b1)
  have B1 : Hid (Below w.heap.size w w1) := bthen (balloc _ _) b1
  clear b1
  go_wp2_with fail
  refine (rgget_any _ _ _ zs _ q _ _ hn2 hc2 ((O2.out.below B1.out).alloc _) H2.out).mono ?_; rintro e w2 ⟨rfl, b2⟩
  have Y2 := Lib.hid (kept_below (kept_below Y1.out (balloc w1 (.cells #[.int .i64 p.no, .int .u64 (p.v : Int), .int .u64 (p.g 0 : Int), .int .u64 (p.g 1 : Int), .int .u64 (p.g 2 : Int), .int .u64 (p.g 3 : Int), .int .u64 (p.g 4 : Int), .int .u64 (p.g 5 : Int)] 33))) b2)
  have X2 := Lib.hid (kept_below (heap_alloc_new w1 (.cells #[.int .i64 p.no, .int .u64 (p.v : Int), .int .u64 (p.g 0 : Int), .int .u64 (p.g 1 : Int), .int .u64 (p.g 2 : Int), .int .u64 (p.g 3 : Int), .int .u64 (p.g 4 : Int), .int .u64 (p.g 5 : Int)] 33)) b2)
  have B2 : Hid (Below w.heap.size w w2) := bthen (bthen B1.out (balloc w1 (.cells #[.int .i64 p.no, .int .u64 (p.v : Int), .int .u64 (p.g 0 : Int), .int .u64 (p.g 1 : Int), .int .u64 (p.g 2 : Int), .int .u64 (p.g 3 : Int), .int .u64 (p.g 4 : Int), .int .u64 (p.g 5 : Int)] 33))) b2
  have hne : w1.heap.size ≠ w2.heap.size := by have := (Array.getElem?_eq_some_iff.1 X2.out).1; omega
  clear b2
  have Y3 := Lib.hid (kept_below Y2.out (balloc w2 (.cells #[.int .i64 q.no, .int .u64 (q.v : Int), .int .u64 (q.g 0 : Int), .int .u64 (q.g 1 : Int), .int .u64 (q.g 2 : Int), .int .u64 (q.g 3 : Int), .int .u64 (q.g 4 : Int), .int .u64 (q.g 5 : Int)] 33)))
  have B3 : Hid (Below w.heap.size w (w2.alloc (.cells #[.int .i64 q.no, .int .u64 (q.v : Int), .int .u64 (q.g 0 : Int), .int .u64 (q.g 1 : Int), .int .u64 (q.g 2 : Int), .int .u64 (q.g 3 : Int), .int .u64 (q.g 4 : Int), .int .u64 (q.g 5 : Int)] 33))) := bthen B2.out (balloc w2 (.cells #[.int .i64 q.no, .int .u64 (q.v : Int), .int .u64 (q.g 0 : Int), .int .u64 (q.g 1 : Int), .int .u64 (q.g 2 : Int), .int .u64 (q.g 3 : Int), .int .u64 (q.g 4 : Int), .int .u64 (q.g 5 : Int)] 33))
  have X3 := Lib.hid (kept_below X2.out (balloc w2 (.cells #[.int .i64 q.no, .int .u64 (q.v : Int), .int .u64 (q.g 0 : Int), .int .u64 (q.g 1 : Int), .int .u64 (q.g 2 : Int), .int .u64 (q.g 3 : Int), .int .u64 (q.g 4 : Int), .int .u64 (q.g 5 : Int)] 33)))
  obtain ⟨x0, x1, x2, x3, x4, x5, x6, x7⟩ := gp_cells X3.out
  go_wp2_with (first
    | ((with_reducible apply L_loadGp); exact rfl; exact X3.out; exact rfl)
    | ((with_reducible apply L_storeRow (N := 8) info_gp); exact rfl; exact rfl; exact Y3.out; exact rfl; exact rfl; (simp [Value.oneCell']); intro w4 h4 g4; have H4 := Lib.hid h4; have G4 := Lib.hid g4; clear h4 g4))
  refine bodyPost_ret (results_cell_tmp2_row rfl _ _ _ _ rfl (run_loadVar_row _ _ _ _ _ _ _ H4.out Tryz.underlying33 rfl info_gp)) rfl ?_
  exact ⟨rfl, below_up B3.out G4.out (Nat.le_refl _)⟩

theorem rnewer_any (A1 A2 : Option Addr) (n1 c1 n2 c2 : Nat) (ys zs : List UInt8) (no : Int) (p q : Gp) (E F : Int) (x : Gp) (k : Int) (ok : Bool) (w : World) (hn1 : n1 ≤ 1000000) (hc1 : n1 ≤ c1) (hn2 : n2 ≤ 1000000) (hc2 : n2 ≤ c2) (ho1 : Oct w A1 n1 ys) (ho2 : Oct w A2 n2 zs) (h1 : GWay ys no p E) (h2 : GWay zs no q F) (hN : NWay p E q F x k ok) :
    Calls Tryz.prog 102 #[.slice A1 n1 c1, .slice A2 n2 c2, .int .i64 no] w fun e w' => e = .returned (.tuple #[(.agg #[.int .i64 x.no, .int .u64 (x.v : Int), .int .u64 (x.g 0 : Int), .int .u64 (x.g 1 : Int), .int .u64 (x.g 2 : Int), .int .u64 (x.g 3 : Int), .int .u64 (x.g 4 : Int), .int .u64 (x.g 5 : Int)]), .int .i64 k, .bool ok]) ∧ Below w.heap.size w w' := by
  rcases hN with ⟨a, b, h3, h4, rfl, rfl, rfl⟩ | ⟨a, b, h3, h4, rfl, rfl, rfl⟩ | ⟨a, b, h3, rfl, rfl, rfl⟩ | ⟨a, b, h3, h4, rfl, rfl, rfl⟩ | ⟨a, b, h3, h4, rfl, rfl, rfl⟩
  · exact rnewer1 A1 A2 n1 c1 n2 c2 ys zs no x q E F w hn1 hc1 hn2 hc2 ho1 ho2 h1 h2 a b
  · exact rnewer2 A1 A2 n1 c1 n2 c2 ys zs no x q E F w hn1 hc1 hn2 hc2 ho1 ho2 h1 h2 a b h4
  · exact rnewer3 A1 A2 n1 c1 n2 c2 ys zs no p x E F w hn1 hc1 hn2 hc2 ho1 ho2 h1 h2 a b h3
  · exact rnewer4 A1 A2 n1 c1 n2 c2 ys zs no p x E F w hn1 hc1 hn2 hc2 ho1 ho2 h1 h2 a b
  · exact rnewer5 A1 A2 n1 c1 n2 c2 ys zs no p q E F w hn1 hc1 hn2 hc2 ho1 ho2 h1 h2 a b
end Go.Proofs.YtgdgehfapfgdfaaGreatDoor.W
