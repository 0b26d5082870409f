/-
  A device with a log, without the document's: what calls leave of it; rows and boxes beside it. No conditions.
-/
import Derived.Test.YtikbbikcacoobaaGreatDoorIvSdOps
namespace Go.Proofs.YtikbbikcacoobaaGreatDoor.Pd.Iv
open Go.RowKit Oc Dm W Dw Sr Gt
set_option linter.unusedVariables false
set_option maxRecDepth 100000

/-- what a call leaves: some blocks of the device are new, nothing else turned -/
def Lf (w0 : World) (P : Nat) (p : Pn.Pl) (n N pw D q E t : Nat) (U : Option Addr) (m : Vs) (g : Lg) (w : World) (F : Nat → Prop) (w' : World) : Prop := ∃ F', Sd w0 P p n N pw D q E t U F' m g w' ∧ Kp w (Zs F pw t) w' (Zs F' pw t)
/-- records in a row of the law's own -/
structure Row (w : World) (B : Nat) (Z : Nat → Prop) (v : Value) (all : List Rc) : Prop where
  own : OwnS w 31 5 B v (all.map rcs)
  off : ∀ b, v.ownBlock = some b → ¬ Z b
/-- a box of the law's own -/
structure Bo (w : World) (Z : Nat → Prop) (b : Nat) (cs : Array Value) (ty : TypeId) : Prop where
  hb : w.heap[b]? = some (.cells cs ty (0, 0))
  off : ¬ Z b
section
variable {w0 w w' : World} {P n N N' pw D q E t T la lg f ep B b : Nat} {p : Pn.Pl} {U A : Option Addr} {F G Z Z' : Nat → Prop} {m m' : Vs} {g g' : Lg} {L all : List Rc} {c : Int} {v : Value} {cs : Array Value} {ty : TypeId}
theorem Row.kp (h : Row w B Z v all) (k : Kp w Z w' Z') : Row w' B Z' v all := ⟨h.own.keep (fun g hg => (k.at_ g (h.own.ge g hg).2 (h.off g hg)).1), fun b hb => (k.at_ b (h.own.ge b hb).2 (h.off b hb)).2⟩
theorem Row.below (h : Row w B Z v all) (hb : Below w.heap.size w w') : Row w' B Z v all := ⟨h.own.below hb, h.off⟩
theorem Bo.kp (h : Bo w Z b cs ty) (k : Kp w Z w' Z') : Bo w' Z' b cs ty := ⟨(k.at_ b (lt_of_heap h.hb) h.off).1.trans h.hb, (k.at_ b (lt_of_heap h.hb) h.off).2⟩
theorem Bo.below (h : Bo w Z b cs ty) (hb : Below w.heap.size w w') : Bo w' Z b cs ty := ⟨kept_below h.hb hb, h.off⟩
theorem Bo.cell (h : Bo w Z b cs ty) (j : Nat) {u : Value} (hu : cs[j]? = some u) : w.cell? ⟨b, j, none⟩ = some u := (cell_of_row _ _ _ _ _ _ h.hb).trans hu
theorem Lf.keep (h : Sd w0 P p n N pw D q E t U F m g w) : Lf w0 P p n N pw D q E t U m g w F w := ⟨F, h, Kp.refl _ _⟩
theorem Sd.log (h : Sd w0 P p n N pw D q E t U F m g w) (hl : LgAt w' 101 t D p g') (hg : w.grownBy w' (some t)) : Lf w0 P p n N pw D q E t U m g' w F w' := by
  have hc : Chg (fun b => b = t) w w' := Chg.of_grown hg (fun k e _ => by injection e with e; exact e.symm)
  refine ⟨F, ⟨h.pd.kept hc (fun k x e => h.nt (e ▸ x)), hl, h.hd.of (hc.block P (h.bound P (.inr rfl)) h.ne), h.nP, h.nt, h.ne, h.lo, h.bel.trans (hc.below h.bel.size (fun b hb x => by have := h.lo b (.inl (.inr x)); omega))⟩, Kp.of_chg hc (fun b x => .inr x) (fun b x => .inl x)⟩
theorem Sd.append (h : Sd w0 P p n N pw D q E t U F m g w) (he : Env w0) (hp : Pln p la lg n) (hg : GOk B lg g) (hN : N + 1 ≤ 1000000) (x : Int) (gn : Nat) (mk : UInt8) (R : Int × Lg × Vs) (hR : app la lg ⟨g.nx, g.ep, x, gn, mk⟩ g m = R) :
    Calls Tryz.prog 13 #[.pointer (some ⟨t, 0, none⟩), .int .i64 x, .int .u64 (gn : Int), .int .u8 (mk.toNat : Int)] w fun e w' => e = .returned (.int .i64 R.1) ∧ Lf w0 P p n (N + 1) pw D q E t U R.2.2 R.2.1 w F w' := by
  obtain ⟨he1, he2⟩ := h.env he
  exact (append_any h.pd h.lg h.nt he1 hp hg hN x gn mk R hR).mono fun e w' ⟨e1, e2, e3, e4⟩ => ⟨e1, _, h.turn e2 e3 e4⟩
theorem Sd.cut (h : Sd w0 P p n N pw D q E t U F m g w) (tt : Nat) (ht : tt < 18446744073709551616) :
    Calls Tryz.prog 14 #[.pointer (some ⟨t, 0, none⟩), .int .u64 (tt : Int)] w fun e w' => e = .returned (.bool (cutB tt g)) ∧ Lf w0 P p n N pw D q E t U m (cutG tt g) w F w' := by
  unfold cutB cutG
  by_cases hc : g.f ≤ tt ∧ tt ≤ g.nx
  · rw [if_pos hc, decide_eq_true hc]
    exact (cut_yes h.lg tt ht hc).mono fun e w' ⟨e1, e2, e3⟩ => ⟨e1, h.log e2 e3⟩
  · rw [if_neg hc, decide_eq_false hc]
    exact (cut_no h.lg tt hc).mono fun e w' ⟨e1, e2⟩ => by subst e2; exact ⟨e1, Lf.keep h⟩
theorem Sd.beg (h : Sd w0 P p n N pw D q E t U F m g w) (tt : Nat) :
    Calls Tryz.prog 16 #[.pointer (some ⟨t, 0, none⟩), .int .u64 (tt : Int)] w fun e w' => e = .returned (.bool (begB tt g)) ∧ Lf w0 P p n N pw D q E t U m (begG tt g) w F w' := by
  unfold begB begG
  by_cases hc : g.ep ≤ tt ∧ tt ≤ most
  · rw [if_pos hc, decide_eq_true hc]
    exact (beg_yes h.lg tt hc).mono fun e w' ⟨e1, e2, e3⟩ => ⟨e1, h.log e2 e3⟩
  · rw [if_neg hc, decide_eq_false hc]
    exact (beg_no h.lg tt hc).mono fun e w' ⟨e1, e2⟩ => by subst e2; exact ⟨e1, Lf.keep h⟩
theorem Sd.flush (h : Sd w0 P p n N pw D q E t U F m g w) (hN : N + 1 ≤ 1000000) :
    Calls Tryz.prog 17 #[.pointer (some ⟨D, 0, none⟩)] w fun e w' => e = .returned (.int .i64 (fl1 m).1) ∧ Lf w0 P p n (N + 1) pw D q E t U (fl1 m).2 g w F w' :=
  (h.pd.flush hN).mono fun e w' ⟨e1, e2, e3⟩ => ⟨e1, _, h.turn0 e2 e3⟩
theorem Sd.fuse (h : Sd w0 P p n N pw D q E t U F m g w) (z : Int) :
    Calls Tryz.prog 10 #[.pointer (some ⟨pw, 0, none⟩), .int .i64 z] w fun e w' => e = .returned (.int .i64 (PS.fuseE m.s z)) ∧ Lf w0 P p n N pw D q E t U { m with s := PS.fuseS m.s z } g w F w' :=
  (fuse_any h.pd.pw z).mono fun e w' ⟨e1, e2, e3, e4⟩ => by
    obtain ⟨k1, k2⟩ := h.pd.pow e2 e3 (Nat.le_refl _) h.pd.hN (by rw [fuseS_done]; exact h.pd.hs)
    exact ⟨e1, _, h.turn0 k1 k2⟩
/-- a row of the law's own, with one record more -/
theorem L_appendRow {ops : Array Oper} {rest : List Oper} {o : Oper} {a : Act} {Q : Exit → Act → World → Prop} (hgd : o.guard = none) (s x : Operand) (ho : o.op = .call { callee := .builtin .append, args := #[s, x], argTypes := #[53, 53] })
    (hs : a.eval s = v) (h : Row w B Z v all) (hZ : ∀ b, Z b → b < w.heap.size) (hB : B ≤ w.heap.size) (cp : Nat) {cs : Array Value} {T : TypeId} (hx : a.eval x = .slice (some ⟨w.heap.size, 0, none⟩) 1 cp) (r : Rc) (hcs : cs.toList = rcs r) (hl : all.length + 1 ≤ 1000000)
    (hK : ∀ v' w', Row w' B Z v' (all ++ [r]) → w.grownBy w' v.ownBlock → wpList Tryz.prog ops Q rest (a.put o.dst v') w') : wpList Tryz.prog ops Q (o :: rest) a (w.alloc (.cells cs T)) := by
  refine wpList_plain hgd fun K hK' => ?_
  obtain ⟨v', w', hrun, h2, h3, h4⟩ := run_append_S (P := Tryz.prog) (w := w.alloc (.cells cs T)) (ty := o.type) (us := [rcs r]) (m := 1) (ad := ⟨w.heap.size, 0, none⟩) cp rc_elk (h.own.alloc _) (Fits.one rfl (rcs_one r)) rfl (fun j u hu => by
    rw [Go.WideShapes.add_plain, Nat.zero_add, cell_of_row _ _ _ _ _ _ (heap_alloc_new w (.cells cs T))]
    rw [List.flatten_cons, List.flatten_nil, List.append_nil, ← hcs] at hu
    simpa using hu) (by rw [List.length_map]; exact hl) (Nat.le_trans hB (by simp))
  unfold Oper.wp execOp
  simp only [ho, resolve, invoke, builtin, Sem.run_bind, Sem.run_pure, Result.andThen_ok, List.map_toArray, List.map_cons, List.map_nil, hs, hx, hrun]
  have g0 : w.grownBy (w.alloc (.cells cs T)) v.ownBlock := World.grownBy_alloc w _ _
  refine hK' _ _ (hK v' w' ⟨by rw [List.map_append]; exact h2, fun b hb y => ?_⟩ (g0.trans h3))
  rcases h4 with e | e
  · exact h.off b (e ▸ hb) y
  · rw [e] at hb
    injection hb with hb
    have := hZ b y
    rw [World.size_alloc] at hb
    omega
/-- what turned is none of the device's blocks -/
theorem Sd.row (h : Sd w0 P p n N pw D q E t U F m g w) (hr : Row w w0.heap.size (fun b => Zs F pw t b ∨ b = P) v all) (hg : w.grownBy w' v.ownBlock) : Sd w0 P p n N pw D q E t U F m g w' := by
  have hc : Chg (fun b => v.ownBlock = some b) w w' := Chg.of_grown hg (fun k e _ => e)
  exact ⟨h.pd.kept hc (fun k x e => hr.off k e (.inl (.inl x))), h.lg.kept hc (fun e => hr.off t e (.inl (.inr rfl))), h.hd.of (hc.block P (h.bound P (.inr rfl)) (fun e => hr.off P e (.inr rfl))), h.nP, h.nt, h.ne, h.lo, h.bel.trans (hc.below h.bel.size (fun b hb x => by have := (hr.own.ge b x).1; omega))⟩
theorem and3 (z : Int) : ∃ t : Nat, bits .and .i64 z 3 = (t : Int) ∧ t ≤ 3 := by
  have h0 : (BitVec.ofInt 64 3).toNat = 2 ^ 2 - 1 := by decide
  have key : (BitVec.ofInt 64 z &&& BitVec.ofInt 64 3).toNat = (z % ((2 ^ 64 : Nat) : Int)).toNat % 2 ^ 2 := by
    rw [BitVec.toNat_and, BitVec.toNat_ofInt, h0, Nat.and_two_pow_sub_one_eq_mod]
  have e : bits .and .i64 z 3 = IntKind.i64.wrap ((BitVec.ofInt 64 z &&& BitVec.ofInt 64 3).toNat : Nat) := rfl
  rw [key] at e
  refine ⟨(z % ((2 ^ 64 : Nat) : Int)).toNat % 2 ^ 2, ?_, by omega⟩
  rw [e, IntKind.wrap_i64]
  omega
theorem cutG_no {tt : Nat} (h : cutB tt g = false) : cutG tt g = g := by
  unfold cutB at h
  unfold cutG
  rw [if_neg (of_decide_eq_false h)]
theorem wrap_nat (z : Int) : ∃ zz : Nat, IntKind.u64.wrap z = (zz : Int) ∧ zz < 18446744073709551616 := ⟨(IntKind.u64.wrap z).toNat, by rw [IntKind.wrap_u64]; omega, by rw [IntKind.wrap_u64]; omega⟩
/-- bounds of a log whose records are known -/
theorem Keeps.gok {la lg f0 fl B : Nat} {S : Nat → Sec} {g : Lg} (h : Keeps la lg f0 S g all fl) (hB : f0 + all.length ≤ B) (hB2 : B ≤ 1000000000) (hep : g.ep ≤ most) : GOk B lg g := ⟨h.le, h.win, by rw [h.len]; exact hB, hep, hB2⟩
theorem begG_ep (tt : Nat) (h : g.ep ≤ most) : (begG tt g).ep ≤ most := by
  unfold begG
  split
  · rename_i x; exact x.2
  · exact h
theorem cutG_ep (tt : Nat) : (cutG tt g).ep = g.ep := by unfold cutG; split <;> rfl
theorem app_ep (x : Rc) : (app la lg x g m).2.1.ep = g.ep := by
  unfold app
  split
  · rfl
  · split
    · rfl
    · dsimp only; split <;> rfl
theorem app_f (x : Rc) : (app la lg x g m).2.1.f = g.f := by
  unfold app
  split
  · rfl
  · split
    · rfl
    · dsimp only; split <;> rfl
theorem begG_f (tt : Nat) : (begG tt g).f = g.f := by unfold begG; split <;> rfl
end
end Go.Proofs.YtikbbikcacoobaaGreatDoor.Pd.Iv
