/-
  The contract of the reference's Put. No conditions.
-/
import Derived.Test.YthclgehifomkhaaDoorGpPut
import Derived.Test.YthclgehifomkhaaDoorRowMem
namespace Go.Proofs.YthclgehifomkhaaDoor.W
open Go.RowKit Oc Rw
set_option linter.unusedVariables false

theorem bst : ElTy Tryd.prog 47 26 (.slice none 0 0) 24 := ⟨Tryd.underlying47, by kernel_rfl, rfl, by decide⟩
/-- a part as a value -/
def pv (q : Part) : Value := .slice q.A q.n q.c
/-- parts that stand in rows of the call's own -/
def Pcs (w : World) (B : Nat) (L : List Part) : Prop := ∀ q ∈ L, Own w 5 B (pv q) q.xs ∧ q.n ≤ 8 ∧ q.xs.length = q.n
theorem Pcs.below {w w' : World} {B : Nat} {L : List Part} (h : Pcs w B L) (hb : Below w.heap.size w w') : Pcs w' B L := fun q hq => ⟨(h q hq).1.below hb, (h q hq).2⟩
theorem Pcs.add {w : World} {B : Nat} {L : List Part} (h : Pcs w B L) {q : Part} (h1 : Own w 5 B (pv q) q.xs) (h2 : q.n ≤ 8) (h3 : q.xs.length = q.n) : Pcs w B (L ++ [q]) := fun r hr => by
  rcases List.mem_append.1 hr with hr | hr
  · exact h r hr
  · simp at hr
    subst hr
    exact ⟨h1, h2, h3⟩
/-- what grows the row of parts leaves the parts -/
theorem Pcs.far {w w' : World} {B B2 : Nat} {v : Value} {xs : List Value} {L : List Part} (h : Pcs w B L) (h2 : OwnV w 26 B2 v xs) (hg : w.grownBy w' v.ownBlock) : Pcs w' B L := fun q hq => by
  obtain ⟨h3, h4⟩ := h q hq
  refine ⟨h3.keep fun k hk => hg.block k (h3.ge k hk).2 fun e' => ?_, h4⟩
  rcases h2.2 with ⟨rfl, _⟩ | ⟨g, cap, cur, rfl, _, hh, _⟩
  · cases e'
  · rcases h3.2 with ⟨e, _⟩ | ⟨g2, cap2, cur2, e, _, hh2, _⟩
    · rw [e] at hk; cases hk
    · rw [e] at hk
      simp [Value.ownBlock] at e' hk
      subst e'
      subst hk
      rw [hh] at hh2
      injection hh2 with hh2
      injection hh2 with _ h5
      exact absurd h5 (by decide)
/-- append of one part onto the row -/
theorem wpList_append_part {wr : World} {ops : Array Oper} {rest : List Oper} {o : Oper} {a : Act} {Q : Exit → Act → World → Prop} (hgd : o.guard = none) (s x : Operand) (t : TypeId)
    (ho : o.op = .call { callee := .builtin .append, args := #[s, x], argTypes := #[t, t] }) {e e' : TypeId} {z : Value} {bytes : Nat} (hT : ElTy Tryd.prog t e z bytes) {w0 : World} {v : Value} {xs : List Value} (hs : a.eval s = v) (hown : OwnV wr e w0.heap.size v xs) (hb : Below w0.heap.size w0 wr)
    (c : Nat) {u : Value} (hx : a.eval x = .slice (some ⟨wr.heap.size, 0, none⟩) 1 c) (h1 : u.oneCell' = true) (hl : xs.length + 1 ≤ 1000000000000)
    (h : ∀ v' w', OwnV w' e w0.heap.size v' (xs ++ [u]) → (wr.alloc (.cells #[u] e')).grownBy w' v.ownBlock → Below w0.heap.size w0 w' → wpList Tryd.prog ops Q rest (a.put o.dst v') w') : wpList Tryd.prog ops Q (o :: rest) a (wr.alloc (.cells #[u] e')) := by
  refine wpList_plain hgd fun K hK => ?_
  have hb1 : Below w0.heap.size w0 (wr.alloc (.cells #[u] e')) := hb.alloc hb.size _
  obtain ⟨v', w', hrun, h2, h3, _⟩ := run_append_row (P := Tryd.prog) (ty := o.type) c hT (hown.alloc _) (Sl.one wr e' u) (by intro y hy; simp at hy; subst hy; exact h1) hl hb1.size
  unfold Oper.wp execOp
  simp only [ho, resolve, invoke, builtin, Sem.run_bind, Sem.run_pure, Result.andThen_ok, List.map_toArray, List.map_cons, List.map_nil, hs, hx, hrun]
  exact hK _ _ (h v' w' h2 h3 (hb1.grown h3 hb1.size fun g hg => (hown.ge g hg).1))
/-- the row of parts as far as the generation j -/
def Row (w0 wr : World) (v : Value) (p : Gp) (j : Nat) : Prop := ∃ L : List Part, L.length = 2 + j ∧ joined L = pay p j ∧ Pcs wr w0.heap.size L ∧ OwnV wr 26 w0.heap.size v (L.map pv)
theorem row_new {w0 w : World} {A1 A2 : Option Addr} {c1 c2 N : Nat} {p : Gp} (hN : p.no.toNat = N) (h1 : Own w 5 w0.heap.size (.slice A1 2 c1) (octs N 2)) (h2 : Own w 5 w0.heap.size (.slice A2 8 c2) (octs p.v 8)) (hB : w0.heap.size ≤ w.heap.size) :
    Row w0 (w.alloc (.cells #[.slice A1 2 c1, .slice A2 8 c2] 26)) (.slice (some ⟨w.heap.size, 0, none⟩) 2 2) p 0 := by
  refine ⟨[⟨A1, 2, c1, octs N 2⟩, ⟨A2, 8, c2, octs p.v 8⟩], rfl, ?_, ?_, ?_⟩
  · simp [joined, pay, gens, hN]
  · intro q hq
    simp at hq
    rcases hq with rfl | rfl
    · exact ⟨h1.alloc _, by show 2 ≤ 8; omega, octs_length _ _⟩
    · exact ⟨h2.alloc _, by show 8 ≤ 8; omega, octs_length _ _⟩
  · exact World.ownsRow_lit (base := w0.heap.size) (e := 26) (size := 1) w #[.slice A1 2 c1, .slice A2 8 c2] 2 hB (by decide) rfl
theorem Row.below {w0 w w' : World} {v : Value} {p : Gp} {j : Nat} (h : Row w0 w v p j) (hb : Below w.heap.size w w') : Row w0 w' v p j := by
  obtain ⟨L, h1, h2, h3, h4⟩ := h
  exact ⟨L, h1, h2, h3.below hb, h4.below hb⟩
theorem row_more {w0 wr w' : World} {v v' : Value} {p : Gp} {j : Nat} {L : List Part} {A : Option Addr} {c : Nat} {e' : TypeId} (h1 : L.length = 2 + j) (h2 : joined L = pay p j) (h3 : Pcs wr w0.heap.size L) (h4 : OwnV wr 26 w0.heap.size v (L.map pv))
    (ho : Own wr 5 w0.heap.size (.slice A 8 c) (octs (p.g j) 8)) (h5 : OwnV w' 26 w0.heap.size v' (L.map pv ++ [.slice A 8 c])) (hg : (wr.alloc (.cells #[.slice A 8 c] e')).grownBy w' v.ownBlock) : Row w0 w' v' p (j + 1) := by
  refine ⟨L ++ [⟨A, 8, c, octs (p.g j) 8⟩], by simp; omega, ?_, ?_, ?_⟩
  · rw [joined_append, h2, pay_succ]
    simp [joined]
  · have h6 := (h3.add (q := ⟨A, 8, c, octs (p.g j) 8⟩) ho (by show 8 ≤ 8; omega) (octs_length _ _)).below (balloc wr (.cells #[.slice A 8 c] e'))
    exact h6.far (h4.alloc _) hg
  · rw [List.map_append]
    exact h5
theorem row_join {w : World} {B g cap : Nat} {L : List Part} (h1 : L.length = 2 + 6) (h3 : Pcs w B L) (h4 : OwnV w 26 B (.slice (some ⟨g, 0, none⟩) 8 cap) (L.map pv)) :
    Calls Tryd.prog 22 #[.slice (some ⟨g, 0, none⟩) 8 cap] w (Made w (joined L)) := by
  have hg : g < w.heap.size := (h4.ge g rfl).2
  refine join_any L g 8 cap w hg h1 (by omega) fun j q hq => ?_
  obtain ⟨h5, h6, h7⟩ := h3 q (List.mem_of_getElem? hq)
  obtain ⟨A, c, e, _, ho⟩ := h5.slice
  refine ⟨?_, ?_, by omega⟩
  · exact (h4.cell (by rw [List.length_map, h1]) (by rw [List.getElem?_map, hq]; rfl)).1
  · rw [h7] at e ho
    unfold pv at e
    injection e with e1 e2 e3
    rw [e1]
    exact ho
theorem ret_two {k : IntKind} {a b : Int} {v : Value} (h : a = b) : Ending.returned (.tuple #[v, .int k a]) = .returned (.tuple #[v, .int k b]) := by rw [h]

theorem num2 (N : Nat) (w : World) (hN : N < 18446744073709551616) : Calls Tryd.prog 20 #[.int .u64 (N : Int), .int .i64 2] w (Made w (octs N 2)) := num_yes N 2 w hN (by omega)
theorem num8 (N : Nat) (w : World) (hN : N < 18446744073709551616) : Calls Tryd.prog 20 #[.int .u64 (N : Int), .int .i64 8] w (Made w (octs N 8)) := num_yes N 8 w hN (by omega)

set_option maxHeartbeats 2000000 in
theorem rgput_no (p : Gp) (w : World) (h : ¬ MayBe p) : Calls Tryd.prog 7 #[(.agg #[.int .i64 p.no, .int .u64 (p.v : Int), .int .u64 (p.g 0 : Int), .int .u64 (p.g 1 : Int), .int .u64 (p.g 2 : Int), .int .u64 (p.g 3 : Int), .int .u64 (p.g 4 : Int), .int .u64 (p.g 5 : Int)])] w fun e w' => e = .returned (.tuple #[.slice none 0 0, .int .i64 1]) ∧ Below w.heap.size w w' := by
  have H := Lib.hid h
  clear h
  go_enter Tryd.func7, Tryd.ntmps7
  go_wp2_with fail
  refine (rmay_any p false _ ⟨fun h => (by cases h), fun h => absurd h H.out⟩).mono ?_; rintro e w1 ⟨rfl, b1⟩
  have B1 : Hid (Below w.heap.size w w1) := bthen (balloc _ _) b1
  clear b1
  go_wp2
  go_ret2
  exact ⟨rfl, B1.out⟩

set_option maxHeartbeats 4000000 in
theorem rgput_ok (p : Gp) (w : World) (h : MayBe p) : Calls Tryd.prog 7 #[(.agg #[.int .i64 p.no, .int .u64 (p.v : Int), .int .u64 (p.g 0 : Int), .int .u64 (p.g 1 : Int), .int .u64 (p.g 2 : Int), .int .u64 (p.g 3 : Int), .int .u64 (p.g 4 : Int), .int .u64 (p.g 5 : Int)])] w fun e w' => ∃ v, e = .returned (.tuple #[v, .int .i64 0]) ∧ Own w' 5 w.heap.size v (sect p) ∧ Below w.heap.size w w' := by
  have H := Lib.hid h
  obtain ⟨N, hN, hN2⟩ : ∃ N : Nat, p.no = (N : Int) ∧ N < 65536 := ⟨p.no.toNat, by have := h.1; omega, by have := h.1; omega⟩
  have HN := Lib.hid hN
  have HT : Hid (p.no.toNat = N) := by show _ = _; omega
  have HV := Lib.hid h.2.1
  have HG := Lib.hid h.2.2
  obtain ⟨w0, hw0⟩ : ∃ w0, w0 = w.alloc (.cells #[.int .i64 p.no, .int .u64 (p.v : Int), .int .u64 (p.g 0 : Int), .int .u64 (p.g 1 : Int), .int .u64 (p.g 2 : Int), .int .u64 (p.g 3 : Int), .int .u64 (p.g 4 : Int), .int .u64 (p.g 5 : Int)] 25) := ⟨_, rfl⟩
  have W0 := Lib.hid hw0
  have X0 : Hid (w0.heap[w.heap.size]? = some (.cells (gc p.no p.v p.g) 25 (0, 0))) := by show _ = _; rw [hw0]; exact heap_alloc_new w _
  have B0 : Hid (Below w.heap.size w w0) := by show Below _ _ _; rw [hw0]; exact balloc _ _
  clear h hN hw0
  go_enter Tryd.func7, Tryd.ntmps7
  go_wp2_with fail
  refine (rmay_any p true _ ⟨fun _ => H.out, fun _ => rfl⟩).mono ?_; rintro e w1 ⟨rfl, b1⟩
  rw [← W0.out] at b1
  have X1 := Lib.hid (kept_below X0.out b1)
  have B1 := Lib.hid b1
  clear b1
  have hwr : IntKind.u64.wrap (N : Int) = (N : Int) := wrap_in (by omega)
  have y0 : w1.cell? ⟨w.heap.size, 0, none⟩ = some (.int .i64 (N : Int)) := by rw [← HN.out]; exact (gp_cells (p := p) X1.out).1
  have y1 : w1.cell? ⟨w.heap.size, 1, none⟩ = some (.int .u64 (p.v : Int)) := (gp_cells (p := p) X1.out).2.1
  go_wp2_with fail
  go_region_held (fun w' => w'.cell? ⟨w.heap.size, 0, none⟩ = some (.int .i64 (N : Int)) ∧ w'.cell? ⟨w.heap.size, 1, none⟩ = some (.int .u64 (p.v : Int))) (first | go_keep | exact ⟨C3.out.1, C3.out.2⟩ | exact ⟨C2.out.1, C2.out.2⟩) (first
    | (go_at_call 20; (with_reducible refine (num8 p.v w2 (isG64 HV.out)).mono ?_); rintro e w3 ⟨v3, rfl, o3, b3⟩; obtain ⟨A3, c3, rfl, l3, s3⟩ := o3.form (octs_length p.v 8); have O3 := Lib.hid (o3.more B2.out.size); have O2b := Lib.hid (O2.out.below b3); have B3 : Hid (Below w0.heap.size w0 w3) := bthen B2.out b3; have C3 : Hid (w3.cell? ⟨w.heap.size, 0, none⟩ = some (.int .i64 (N : Int)) ∧ w3.cell? ⟨w.heap.size, 1, none⟩ = some (.int .u64 (p.v : Int))) := ⟨by rw [← HN.out]; exact (gp_cells (p := p) (kept_below X2.out b3)).1, (gp_cells (p := p) (kept_below X2.out b3)).2.1⟩; clear o3 b3 s3 l3)
    | (go_at_call 20; (with_reducible refine (num2 N w1.drew (by omega)).mono ?_); rintro e w2 ⟨v2, rfl, o2, b2⟩; obtain ⟨A2, c2, rfl, l2, s2⟩ := o2.form (octs_length N 2); have X2 := Lib.hid (kept_below X1.out (below_of_drew b2)); have O2 := Lib.hid (o2.more (B' := w0.heap.size) B1.out.size); have B2 : Hid (Below w0.heap.size w0 w2) := bthen B1.out (below_of_drew b2); have C2 : Hid (w2.cell? ⟨w.heap.size, 0, none⟩ = some (.int .i64 (N : Int)) ∧ w2.cell? ⟨w.heap.size, 1, none⟩ = some (.int .u64 (p.v : Int))) := ⟨by rw [← HN.out]; exact (gp_cells (p := p) X2.out).1, (gp_cells (p := p) X2.out).2.1⟩; clear o2 b2 s2 l2))
  all_goals go_wp2
  have R3 := Lib.hid (row_new (w0 := w0) HT.out O2b.out O3.out B3.out.size)
  have B4 : Hid (Below w0.heap.size w0 (w3.alloc (.cells #[.slice A2 2 c2, .slice A3 8 c3] 26))) := bthen B3.out (balloc _ _)
  go_loopw [4, 5] (fun v q wr => ∃ j : Nat, j ≤ 6 ∧ q = .int .i64 j ∧ Hid (Row w0 wr v p j) ∧ Hid (Below w0.heap.size w0 wr)) (fun _ q _ => 6 - (intOf q).toNat)
  case atStart => exact ⟨0, by omega, rfl, R3, B4⟩
  case round =>
    obtain ⟨j, hj, rfl, RJ, BJ⟩ := hrel
    by_cases hlt : j < 6
    · have XJ := Lib.hid (kept_below X0.out BJ.out)
      obtain ⟨z1, _⟩ := gc_cell XJ.out hlt
      go_wp2_with fail
      refine (num8 (p.g j) _ (isG64 (HG.out j hlt))).mono ?_; rintro e w5 ⟨v5, rfl, o5, b5⟩
      obtain ⟨A5, c5, rfl, l5, s5⟩ := o5.form (octs_length (p.g j) 8)
      have O5 := Lib.hid (o5.more BJ.out.size)
      have B5 : Hid (Below w0.heap.size w0 w5) := bthen BJ.out b5
      obtain ⟨L, hL1, hL2, hL3, hL4⟩ := RJ.out.below b5
      have L1 := Lib.hid hL1
      have L2 := Lib.hid hL2
      have L3 := Lib.hid hL3
      have L4 := Lib.hid hL4
      clear o5 b5 s5 l5 hL1 hL2 hL3 hL4
      go_wp2_with (at_builtin; refine wpList_append_part rfl _ _ 47 rfl bst rfl L4.out B5.out _ rfl rfl (by rw [List.length_map, L1.out]; omega) ?_; intro v6 w6 o6 g6 b6; have O6 := Lib.hid o6; have G6 := Lib.hid g6; have B6 := Lib.hid b6; clear o6 g6 b6)
      go_roundw
      case rel => exact ⟨j + 1, by omega, rfl, row_more L1.out L2.out L3.out L4.out O5.out O6.out G6.out, B6⟩
      case measure => simp [intOf]; omega
    · have h6 : j = 6 := by omega
      obtain ⟨L, hL1, hL2, hL3, hL4⟩ := RJ.out
      rw [h6] at hL1 hL2
      obtain ⟨g, cap, rfl, hg, hcap⟩ := hL4.here (n := 8) (by rw [List.length_map, hL1]) (by omega)
      have hjn := row_join hL1 hL3 hL4
      rw [hL2] at hjn
      have HJ := Lib.hid hjn
      clear hjn h6 hL1 hL2 hL3 hL4 hg hcap
      go_wp2_with fail
      refine HJ.out.mono ?_; rintro e w7 ⟨v7, rfl, o7, b7⟩
      obtain ⟨A7, c7, rfl, l7, s7⟩ := o7.form (n := 58) (pay58 p)
      have S7 := Lib.hid s7
      have B7 : Hid (Below w.heap.size w w7) := bthen (bthen B0.out BJ.out) b7
      clear o7 b7 s7
      go_wp2_with fail
      refine (rput_any A7 58 c7 (pay p 6) 1 _ (by omega) S7.out).mono ?_; rintro e w8 ⟨v8, rfl, o8, b8⟩
      rw [putE_pay]
      rw [putL_pay] at o8
      have O8 := Lib.hid (o8.more B7.out.size)
      have B8 : Hid (Below w.heap.size w w8) := bthen B7.out b8
      clear o8 b8
      go_wp2
      go_ret2
      exact ⟨v8, rfl, O8.out, B8.out⟩
theorem rgput_any (p : Gp) (w : World) : Calls Tryd.prog 7 #[(.agg #[.int .i64 p.no, .int .u64 (p.v : Int), .int .u64 (p.g 0 : Int), .int .u64 (p.g 1 : Int), .int .u64 (p.g 2 : Int), .int .u64 (p.g 3 : Int), .int .u64 (p.g 4 : Int), .int .u64 (p.g 5 : Int)])] w (GPut w p) := by
  by_cases h : MayBe p
  · exact (rgput_ok p w h).mono fun e w' h2 => .inl ⟨h, h2⟩
  · exact (rgput_no p w h).mono fun e w' h2 => .inr ⟨h, h2⟩
end Go.Proofs.YthclgehifomkhaaDoor.W
