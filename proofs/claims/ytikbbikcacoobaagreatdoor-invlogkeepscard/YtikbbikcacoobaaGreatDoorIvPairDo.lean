/-
  What a pair is asked to do: appends, cuts, epochs, failures, fuses, writes, flushes, turned bits, and logs opened. No conditions.
-/
import Derived.Test.YtikbbikcacoobaaGreatDoorIvPair
namespace Go.Proofs.YtikbbikcacoobaaGreatDoor.Pd.Iv
open Go.RowKit Oc Dm W Dw Sr
set_option linter.unusedVariables false
set_option maxRecDepth 100000
section
variable {w0 w w' : World} {P n N N' pw D q E la lg B : Nat} {p : Pn.Pl} {T U : Option Addr} {F G H1 H2 : Nat → Prop} {m m1 m2 : Vs} {t1 t2 : Option Lg} {g : Lg} {k c : Nat} {A : Option Addr} {xs : List UInt8} {R : Option Nat}
theorem Pr.env (h : Pr w0 P p n N pw D q E T U F G H1 H2 m1 m2 t1 t2 w) (he : Env w0) : Env w ∧ ∀ b, Al F pw b → 0 < b := by
  refine ⟨he.below h.bel, fun b x => ?_⟩
  obtain ⟨t, fr, hh⟩ := he
  have := lt_of_heap hh
  have := (h.ap.lo b (.inl x)).1
  omega
theorem pd_same (h : Pr w0 P p n N pw D q E T U F G H1 H2 m1 m2 t1 t2 w) (hg : w.grownBy w' R) (hR : ∀ b, R = some b → ¬ Al F pw b) : PD w' (Ext F w w') D pw n N m1 := by
  have hk := h.pd.kept (G := fun k => some k = R) (Chg.of_grown hg (fun k e _ => e.symm)) (fun k x e => hR k e.symm x)
  exact hk.wide (fun _ x => .inl x) (ext_bound (fun k x => h.pd.bound k (.inl x)) hg.size) (ext_np (w1 := w) h.pd rfl)
theorem rd_same (h : Pr w0 P p n N pw D q E T U F G H1 H2 m1 m2 t1 t2 w) (hg : w.grownBy w' R) (hR : ∀ b, R = some b → ¬ Al G q b) : RD w' (Ext G w w') E q n N m2 := by
  have hk := h.rd.kept (F := fun k => some k = R) (Chg.of_grown hg (fun k e _ => e.symm)) (fun k x e => hR k e.symm x)
  exact hk.wide (fun _ x => .inl x) (ext_bound (fun k x => h.rd.bound k (.inl x)) hg.size) h.rd.enq
theorem Pr.append (h : Pr w0 P p n N pw D q E T U F G H1 H2 m1 m2 (some g) t2 w) (he : Env w0) (hp : Pln p la lg n) (hg : GOk B lg g) (hN : N + 1 ≤ 1000000) (x : Int) (gn : Nat) (mk : UInt8) (R : Int × Lg × Vs) (hR : app la lg ⟨g.nx, g.ep, x, gn, mk⟩ g m1 = R) :
    Calls Tryz.prog 13 #[.pointer T, .int .i64 x, .int .u64 (gn : Int), .int .u8 (mk.toNat : Int)] w fun e w' => e = .returned (.int .i64 R.1) ∧ Pr w0 P p n (N + 1) pw D q E T U (Ext F w w') G H1 H2 R.2.2 m2 (some R.2.1) t2 w' ∧ w'.heap[P]? = w.heap[P]? ∧ Kp w (Us F pw G q H1 H2) w' (Us (Ext F w w') pw G q H1 H2) := by
  obtain ⟨t, rfl, ht, hl⟩ := h.tb1
  obtain ⟨he1, he2⟩ := h.env he
  exact (append_any h.pd hl (fun x => h.ap.d13 x ht) he1 hp hg hN x gn mk R hR).mono fun e w' ⟨e1, e2, e3, e4⟩ =>
    ⟨e1, h.prog (Nat.le_succ _) hN e2 ⟨t, rfl, ht, e3⟩ (e4.mono (fun b _ x => x.elim .inl (fun (e : b = t) => .inr (by rw [e]; exact ht))))⟩
theorem Pr.rappend (h : Pr w0 P p n N pw D q E T U F G H1 H2 m1 m2 t1 (some g) w) (hp : Pln p la lg n) (hg : GOk B lg g) (hN : N + 1 ≤ 1000000) (x : Int) (gn : Nat) (mk : UInt8) (R : Int × Lg × Vs) (hR : app la lg ⟨g.nx, g.ep, x, gn, mk⟩ g m2 = R) :
    Calls Tryz.prog 32 #[.pointer U, .int .i64 x, .int .u64 (gn : Int), .int .u8 (mk.toNat : Int)] w fun e w' => e = .returned (.int .i64 R.1) ∧ Pr w0 P p n (N + 1) pw D q E T U F (Ext G w w') H1 H2 m1 R.2.2 t1 (some R.2.1) w' ∧ w'.heap[P]? = w.heap[P]? ∧ Kp w (Us F pw G q H1 H2) w' (Us F pw (Ext G w w') q H1 H2) := by
  obtain ⟨t, rfl, ht, hl⟩ := h.tb2
  exact (rappend_any h.rd hl (fun x => h.ap.d24 x ht) hp hg hN x gn mk R hR).mono fun e w' ⟨e1, e2, e3, e4⟩ =>
    ⟨e1, h.doc_t (Nat.le_succ _) hN e2 ⟨t, rfl, ht, e3⟩ (e4.mono (fun b _ x => x.elim .inl (fun (e : b = t) => .inr (by rw [e]; exact ht))))⟩
theorem turn1 (h : Pr w0 P p n N pw D q E T U F G H1 H2 m1 m2 t1 t2 w) {t : Nat} (ht : H1 t) (hg : w.grownBy w' (some t)) {t1' : Option Lg} (ht2 : Tab w' H1 101 T D p t1') :
    Pr w0 P p n N pw D q E T U (Ext F w w') G H1 H2 m1 m2 t1' t2 w' ∧ w'.heap[P]? = w.heap[P]? ∧ Kp w (Us F pw G q H1 H2) w' (Us (Ext F w w') pw G q H1 H2) :=
  h.prog (Nat.le_refl _) h.pd.hN (pd_same h hg (fun b e x => by injection e with e; subst e; exact h.ap.d13 x ht)) ht2 (Chg.of_grown hg (fun k e _ => by injection e with e; subst e; exact .inr ht))
theorem turn2 (h : Pr w0 P p n N pw D q E T U F G H1 H2 m1 m2 t1 t2 w) {t : Nat} (ht : H2 t) (hg : w.grownBy w' (some t)) {t2' : Option Lg} (ht2 : Tab w' H2 83 U E p t2') :
    Pr w0 P p n N pw D q E T U F (Ext G w w') H1 H2 m1 m2 t1 t2' w' ∧ w'.heap[P]? = w.heap[P]? ∧ Kp w (Us F pw G q H1 H2) w' (Us F pw (Ext G w w') q H1 H2) :=
  h.doc_t (Nat.le_refl _) h.pd.hN (rd_same h hg (fun b e x => by injection e with e; subst e; exact h.ap.d24 x ht)) ht2 (Chg.of_grown hg (fun k e _ => by injection e with e; subst e; exact .inr ht))
/-- nothing turned -/
theorem same1 (h : Pr w0 P p n N pw D q E T U F G H1 H2 m1 m2 t1 t2 w) : Pr w0 P p n N pw D q E T U (Ext F w w) G H1 H2 m1 m2 t1 t2 w ∧ w.heap[P]? = w.heap[P]? ∧ Kp w (Us F pw G q H1 H2) w (Us (Ext F w w) pw G q H1 H2) :=
  h.prog0 (Nat.le_refl _) h.pd.hN (pd_same h (World.grownBy.refl w none) (fun b e => by cases e)) (Chg.refl _ _)
theorem same2 (h : Pr w0 P p n N pw D q E T U F G H1 H2 m1 m2 t1 t2 w) : Pr w0 P p n N pw D q E T U F (Ext G w w) H1 H2 m1 m2 t1 t2 w ∧ w.heap[P]? = w.heap[P]? ∧ Kp w (Us F pw G q H1 H2) w (Us F pw (Ext G w w) q H1 H2) :=
  h.doc (Nat.le_refl _) h.pd.hN (rd_same h (World.grownBy.refl w none) (fun b e => by cases e)) (Chg.refl _ _)
theorem Pr.cut (h : Pr w0 P p n N pw D q E T U F G H1 H2 m1 m2 (some g) t2 w) (t : Nat) (ht : t < 18446744073709551616) :
    Calls Tryz.prog 14 #[.pointer T, .int .u64 (t : Int)] w fun e w' => e = .returned (.bool (cutB t g)) ∧ Pr w0 P p n N pw D q E T U (Ext F w w') G H1 H2 m1 m2 (some (cutG t g)) t2 w' ∧ w'.heap[P]? = w.heap[P]? ∧ Kp w (Us F pw G q H1 H2) w' (Us (Ext F w w') pw G q H1 H2) := by
  obtain ⟨a, rfl, ha, hl⟩ := h.tb1
  unfold cutB cutG
  by_cases hc : g.f ≤ t ∧ t ≤ g.nx
  · rw [if_pos hc, decide_eq_true hc]
    exact (cut_yes hl t ht hc).mono fun e w' ⟨e1, e2, e3⟩ => ⟨e1, turn1 h ha e3 ⟨a, rfl, ha, e2⟩⟩
  · rw [if_neg hc, decide_eq_false hc]
    exact (cut_no hl t hc).mono fun e w' ⟨e1, e2⟩ => by subst e2; exact ⟨e1, same1 h⟩
theorem Pr.rcut (h : Pr w0 P p n N pw D q E T U F G H1 H2 m1 m2 t1 (some g) w) (t : Nat) (ht : t < 18446744073709551616) :
    Calls Tryz.prog 33 #[.pointer U, .int .u64 (t : Int)] w fun e w' => e = .returned (.bool (cutB t g)) ∧ Pr w0 P p n N pw D q E T U F (Ext G w w') H1 H2 m1 m2 t1 (some (cutG t g)) w' ∧ w'.heap[P]? = w.heap[P]? ∧ Kp w (Us F pw G q H1 H2) w' (Us F pw (Ext G w w') q H1 H2) := by
  obtain ⟨a, rfl, ha, hl⟩ := h.tb2
  unfold cutB cutG
  by_cases hc : g.f ≤ t ∧ t ≤ g.nx
  · rw [if_pos hc, decide_eq_true hc]
    exact (rcut_yes hl t ht hc).mono fun e w' ⟨e1, e2, e3⟩ => ⟨e1, turn2 h ha e3 ⟨a, rfl, ha, e2⟩⟩
  · rw [if_neg hc, decide_eq_false hc]
    exact (rcut_no hl t hc).mono fun e w' ⟨e1, e2⟩ => by subst e2; exact ⟨e1, same2 h⟩
theorem Pr.beg (h : Pr w0 P p n N pw D q E T U F G H1 H2 m1 m2 (some g) t2 w) (t : Nat) :
    Calls Tryz.prog 16 #[.pointer T, .int .u64 (t : Int)] w fun e w' => e = .returned (.bool (begB t g)) ∧ Pr w0 P p n N pw D q E T U (Ext F w w') G H1 H2 m1 m2 (some (begG t g)) t2 w' ∧ w'.heap[P]? = w.heap[P]? ∧ Kp w (Us F pw G q H1 H2) w' (Us (Ext F w w') pw G q H1 H2) := by
  obtain ⟨a, rfl, ha, hl⟩ := h.tb1
  unfold begB begG
  by_cases hc : g.ep ≤ t ∧ t ≤ most
  · rw [if_pos hc, decide_eq_true hc]
    exact (beg_yes hl t hc).mono fun e w' ⟨e1, e2, e3⟩ => ⟨e1, turn1 h ha e3 ⟨a, rfl, ha, e2⟩⟩
  · rw [if_neg hc, decide_eq_false hc]
    exact (beg_no hl t hc).mono fun e w' ⟨e1, e2⟩ => by subst e2; exact ⟨e1, same1 h⟩
theorem Pr.rbeg (h : Pr w0 P p n N pw D q E T U F G H1 H2 m1 m2 t1 (some g) w) (t : Nat) :
    Calls Tryz.prog 34 #[.pointer U, .int .u64 (t : Int)] w fun e w' => e = .returned (.bool (begB t g)) ∧ Pr w0 P p n N pw D q E T U F (Ext G w w') H1 H2 m1 m2 t1 (some (begG t g)) w' ∧ w'.heap[P]? = w.heap[P]? ∧ Kp w (Us F pw G q H1 H2) w' (Us F pw (Ext G w w') q H1 H2) := by
  obtain ⟨a, rfl, ha, hl⟩ := h.tb2
  unfold begB begG
  by_cases hc : g.ep ≤ t ∧ t ≤ most
  · rw [if_pos hc, decide_eq_true hc]
    exact (rbeg_yes hl t hc).mono fun e w' ⟨e1, e2, e3⟩ => ⟨e1, turn2 h ha e3 ⟨a, rfl, ha, e2⟩⟩
  · rw [if_neg hc, decide_eq_false hc]
    exact (rbeg_no hl t hc).mono fun e w' ⟨e1, e2⟩ => by subst e2; exact ⟨e1, same2 h⟩
theorem Pr.fail (h : Pr w0 P p n N pw D q E T U F G H1 H2 m1 m2 t1 t2 w) (u v : Nat) (hu : u < 18446744073709551616) (hv : v < 18446744073709551616) :
    Calls Tryz.prog 24 #[.pointer (some ⟨D, 0, none⟩), .int .u64 (u : Int), .int .u64 (v : Int)] w fun e w' => e = .returned (.tuple #[]) ∧ Pr w0 P p n N pw D q E T U (Ext F w w') G H1 H2 { m1 with rd := u, wr := v } m2 t1 t2 w' ∧ w'.heap[P]? = w.heap[P]? ∧ Kp w (Us F pw G q H1 H2) w' (Us (Ext F w w') pw G q H1 H2) := by
  obtain ⟨fx, a, b, g, x⟩ := h.pd.dv
  refine (fail_any x u v hu hv).mono fun e w' ⟨e1, e2, e3⟩ => ⟨e1, h.prog0 (Nat.le_refl _) h.pd.hN ?_ (e3.mono (fun _ _ y => .inl y))⟩
  exact ⟨h.pd.pw.heap (e3.block pw h.pd.pw.lt h.pd.np), e2, ext_np (w1 := w) h.pd rfl, h.pd.hs, h.pd.hN⟩
theorem Pr.rfail (h : Pr w0 P p n N pw D q E T U F G H1 H2 m1 m2 t1 t2 w) (u v : Nat) (hu : u < 18446744073709551616) (hv : v < 18446744073709551616) :
    ∃ G', Pr w0 P p n N pw D q E T U F G' H1 H2 m1 { m2 with rd := u, wr := v } t1 t2 ((w.setCell ⟨E, 2, none⟩ (.int .u64 (u : Int))).setCell ⟨E, 3, none⟩ (.int .u64 (v : Int))) ∧ ((w.setCell ⟨E, 2, none⟩ (.int .u64 (u : Int))).setCell ⟨E, 3, none⟩ (.int .u64 (v : Int))).heap[P]? = w.heap[P]? ∧ Kp w (Us F pw G q H1 H2) ((w.setCell ⟨E, 2, none⟩ (.int .u64 (u : Int))).setCell ⟨E, 3, none⟩ (.int .u64 (v : Int))) (Us F pw G' q H1 H2) := by
  obtain ⟨gs, vs, x⟩ := h.rd.rv
  have c1 : Chg G w (w.setCell ⟨E, 2, none⟩ (.int .u64 (u : Int))) := Chg.of_grown (grown_set w E 2 _) (fun k e _ => by injection e with e; subst e; exact x.inG.1)
  have c2 : Chg G (w.setCell ⟨E, 2, none⟩ (.int .u64 (u : Int))) ((w.setCell ⟨E, 2, none⟩ (.int .u64 (u : Int))).setCell ⟨E, 3, none⟩ (.int .u64 (v : Int))) := Chg.of_grown (grown_set _ E 3 _) (fun k e _ => by injection e with e; subst e; exact x.inG.1)
  have c3 := c1.trans c2 (fun _ _ y => y)
  have x2 := (x.set2 u hu).set3 v hv
  have r : RD ((w.setCell ⟨E, 2, none⟩ (.int .u64 (u : Int))).setCell ⟨E, 3, none⟩ (.int .u64 (v : Int))) G E q n N { m2 with rd := u, wr := v } :=
    ⟨h.rd.qw.heap (c3.block q h.rd.qw.lt h.rd.nq), ⟨gs, vs, x2⟩, h.rd.nq, h.rd.hf, h.rd.hs, h.rd.hl, h.rd.hN⟩
  exact ⟨_, h.doc (Nat.le_refl _) h.rd.hN (r.up h.rd.qw.lt c3.size) (c3.mono (fun _ _ y => .inl y))⟩
theorem Pr.fuse (h : Pr w0 P p n N pw D q E T U F G H1 H2 m1 m2 t1 t2 w) (z : Int) :
    Calls Tryz.prog 10 #[.pointer (some ⟨pw, 0, none⟩), .int .i64 z] w fun e w' => e = .returned (.int .i64 (PS.fuseE m1.s z)) ∧ Pr w0 P p n N pw D q E T U (Ext F w w') G H1 H2 { m1 with s := PS.fuseS m1.s z } m2 t1 t2 w' ∧ w'.heap[P]? = w.heap[P]? ∧ Kp w (Us F pw G q H1 H2) w' (Us (Ext F w w') pw G q H1 H2) :=
  (fuse_any h.pd.pw z).mono fun e w' ⟨e1, e2, e3, e4⟩ => by
    obtain ⟨k1, k2⟩ := h.pd.pow e2 e3 (Nat.le_refl _) h.pd.hN (by rw [fuseS_done]; exact h.pd.hs)
    exact ⟨e1, h.prog0 (Nat.le_refl _) h.pd.hN k1 k2⟩
theorem Pr.rfuse (h : Pr w0 P p n N pw D q E T U F G H1 H2 m1 m2 t1 t2 w) (z : Int) :
    Calls Tryz.prog 36 #[.pointer (some ⟨q, 0, none⟩), .int .i64 z] w fun e w' => e = .returned (.int .i64 (PS.fuseE m2.s z)) ∧ Pr w0 P p n N pw D q E T U F (Ext G w w') H1 H2 m1 { m2 with s := PS.fuseS m2.s z } t1 t2 w' ∧ w'.heap[P]? = w.heap[P]? ∧ Kp w (Us F pw G q H1 H2) w' (Us F pw (Ext G w w') q H1 H2) :=
  (rfuse_any h.rd.qw z).mono fun e w' ⟨e1, e2, e3, e4⟩ => by
    obtain ⟨k1, k2⟩ := h.rd.pow e2 e3 (Nat.le_refl _) h.rd.hN (by rw [fuseS_done]; exact h.rd.hs) (fuseS_le z h.rd.hf)
    exact ⟨e1, h.doc (Nat.le_refl _) h.rd.hN k1 k2⟩
theorem Pr.flush (h : Pr w0 P p n N pw D q E T U F G H1 H2 m1 m2 t1 t2 w) (hN : N + 1 ≤ 1000000) :
    Calls Tryz.prog 17 #[.pointer (some ⟨D, 0, none⟩)] w fun e w' => e = .returned (.int .i64 (fl1 m1).1) ∧ Pr w0 P p n (N + 1) pw D q E T U (Ext F w w') G H1 H2 (fl1 m1).2 m2 t1 t2 w' ∧ w'.heap[P]? = w.heap[P]? ∧ Kp w (Us F pw G q H1 H2) w' (Us (Ext F w w') pw G q H1 H2) :=
  (h.pd.flush hN).mono fun e w' ⟨e1, e2, e3⟩ => ⟨e1, h.prog0 (Nat.le_succ _) hN e2 e3⟩
theorem Pr.rflush (h : Pr w0 P p n N pw D q E T U F G H1 H2 m1 m2 t1 t2 w) (hN : N + 1 ≤ 1000000) :
    Calls Tryz.prog 35 #[.pointer (some ⟨E, 0, none⟩)] w fun e w' => e = .returned (.int .i64 (fl1 m2).1) ∧ Pr w0 P p n (N + 1) pw D q E T U F (Ext G w w') H1 H2 m1 (fl1 m2).2 t1 t2 w' ∧ w'.heap[P]? = w.heap[P]? ∧ Kp w (Us F pw G q H1 H2) w' (Us F pw (Ext G w w') q H1 H2) := by
  exact (h.rd.flush hN).mono fun e w' ⟨e1, e2, e3⟩ => ⟨e1, h.doc (Nat.le_succ _) hN e2 e3⟩
theorem Pr.write (h : Pr w0 P p n N pw D q E T U F G H1 H2 m1 m2 t1 t2 w) (hN : N + 1 ≤ 1000000) (z : Int) (hx : Oct w A 64 xs) (hA : ∀ b off, A = some ⟨b, off, none⟩ → ¬ Al F pw b) :
    Calls Tryz.prog 39 #[.pointer (some ⟨D, 0, none⟩), .int .i64 z, .slice A 64 c] w fun e w' => e = .returned (.int .i64 (wrz n m1 z xs).1) ∧ Pr w0 P p n (N + 1) pw D q E T U (Ext F w w') G H1 H2 (wrz n m1 z xs).2 m2 t1 t2 w' ∧ w'.heap[P]? = w.heap[P]? ∧ Kp w (Us F pw G q H1 H2) w' (Us (Ext F w w') pw G q H1 H2) :=
  (h.pd.writez hN z hx hA).mono fun e w' ⟨e1, e2, e3⟩ => ⟨e1, h.prog0 (Nat.le_succ _) hN e2 e3⟩
theorem Pr.rwrite {B : ByteArray} (h : Pr w0 P p n N pw D q E T U F G H1 H2 m1 m2 t1 t2 w) (hN : N + 1 ≤ 1000000) (z : Int) (hB : tx xs = .string B) (hl : xs.length = 64) :
    Calls Tryz.prog 41 #[.pointer (some ⟨E, 0, none⟩), .int .i64 z, .string B] w fun e w' => e = .returned (.int .i64 (wrz n m2 z xs).1) ∧ Pr w0 P p n (N + 1) pw D q E T U F (Ext G w w') H1 H2 m1 (wrz n m2 z xs).2 t1 t2 w' ∧ w'.heap[P]? = w.heap[P]? ∧ Kp w (Us F pw G q H1 H2) w' (Us F pw (Ext G w w') q H1 H2) :=
  (h.rd.writez hN z hB hl).mono fun e w' ⟨e1, e2, e3⟩ => ⟨e1, h.doc (Nat.le_succ _) hN e2 e3⟩
theorem Pr.rot (h : Pr w0 P p n N pw D q E T U F G H1 H2 m1 m2 t1 t2 w) (hN : N + 1 ≤ 1000000) (z bit : Int) (Tn : Nat) (hT : Tn < 4294967296) :
    Calls Tryz.prog 42 #[.pointer (some ⟨D, 0, none⟩), .int .i64 z, .int .i64 bit, .int .u32 (Tn : Int)] w fun e w' => e = .returned (.int .i64 (rt1 n m1 z bit Tn).1) ∧ Pr w0 P p n (N + 1) pw D q E T U (Ext F w w') G H1 H2 (rt1 n m1 z bit Tn).2 m2 t1 t2 w' ∧ w'.heap[P]? = w.heap[P]? ∧ Kp w (Us F pw G q H1 H2) w' (Us (Ext F w w') pw G q H1 H2) :=
  (h.pd.rot hN z bit Tn hT).mono fun e w' ⟨e1, e2, e3⟩ => ⟨e1, h.prog0 (Nat.le_succ _) hN e2 e3⟩
theorem Pr.rrot (h : Pr w0 P p n N pw D q E T U F G H1 H2 m1 m2 t1 t2 w) (z bit : Int) (Tn : Nat) (hT : Tn < 4294967296) (hfl : ∀ i, i < n → (m2.S i).fixed.length = 64) :
    Calls Tryz.prog 43 #[.pointer (some ⟨E, 0, none⟩), .int .i64 z, .int .i64 bit, .int .u32 (Tn : Int)] w fun e w' => e = .returned (.int .i64 (rt1 n m2 z bit Tn).1) ∧ Pr w0 P p n N pw D q E T U F (Ext G w w') H1 H2 m1 (rt1 n m2 z bit Tn).2 t1 t2 w' ∧ w'.heap[P]? = w.heap[P]? ∧ Kp w (Us F pw G q H1 H2) w' (Us F pw (Ext G w w') q H1 H2) :=
  (h.rd.rot z bit Tn hT hfl).mono fun e w' ⟨e1, e2, e3⟩ => ⟨e1, h.doc (Nat.le_refl _) h.rd.hN e2 e3⟩
/-- a log of the program's, opened anew -/
theorem Pr.open_ (h : Pr w0 P p n N pw D q E T U F G H1 H2 m1 m2 t1 t2 w) (he : Env w0) (hp : Pln p la lg n) (ho : m1.s.off = false) {f ep : Nat} (hf : f ≤ most) (hep : ep ≤ most) (R : List Rc × Vs) (hR : rdl la lg ep lg f 0 m1 = R) :
    Calls Tryz.prog 22 #[.pointer (some ⟨D, 0, none⟩), (.agg #[.int .i64 p.a0, .int .i64 p.a1, .int .i64 p.a2, .int .i64 p.a3, .int .i64 p.a4, .int .i64 p.a5, .int .i64 p.a6, .int .i64 p.a7, .int .i64 p.a8, .int .i64 p.a9, .int .i64 p.a10, .int .i64 p.a11, .int .i64 p.a12]), .int .u64 (f : Int), .int .u64 (ep : Int)] w fun e w' => ∃ T' A c, e = .returned (.tuple #[.pointer (some ⟨T', 0, none⟩), .slice A R.1.length c, .int .i64 0]) ∧ OwnS w' 31 5 w.heap.size (.slice A R.1.length c) (R.1.map rcs) ∧ (∀ b, Value.ownBlock (.slice A R.1.length c) = some b → b ≠ T') ∧ Pr w0 P p n N pw D q E (some ⟨T', 0, none⟩) U F G (fun b => b = T') H2 R.2 m2 (some ⟨f, f + R.1.length, ep⟩) t2 w' ∧ w'.heap[P]? = w.heap[P]? ∧ Kp w (Us F pw G q H1 H2) w' (Us F pw G q (fun b => b = T') H2) := by
  obtain ⟨he1, he2⟩ := h.env he
  refine (open_yes h.pd he1 (fun k x => he2 k (.inl x)) hp ho hp.h12.symm hf hep R hR).mono fun e w' ⟨A, c, e1, e2, e3, e4, e5⟩ => ?_
  have hb := e5.block P h.lt.1 (fun x => h.ap.p1 (.inl x))
  have hlt := e2.lt
  refine ⟨_, A, c, e1, e3.more (by omega), fun b eb e => by have := (e3.ge b eb).1; omega, ⟨e4, h.rd.kept e5 (fun b x y => h.ap.d12 (.inl y) x), ⟨_, rfl, rfl, e2⟩, h.tb2.kept e5 (fun b x y => h.ap.d14 (.inl y) x), ?_, h.bel_of e5 (fun b x => .inl (.inl x))⟩, hb, Kp.of_chg e5 (fun b x => .inl (.inl x)) (fun b x => x.elim (fun y => .inl (.inl y)) (fun x => x.elim (fun y => .inl (.inr (.inl y))) (fun x => x.elim (fun y => .inr (by omega)) (fun y => .inl (.inr (.inr (.inr y)))))))⟩
  exact h.ap.turn (fun _ => 3) e5.size h.bel.size _ _ _ _ (fun b x => .inl x) (fun b x => .inl x) (fun b x => .inr ⟨rfl, by omega, by omega⟩) (fun b x => .inl x)
theorem Pr.ropen (h : Pr w0 P p n N pw D q E T U F G H1 H2 m1 m2 t1 t2 w) (hz : ∀ i, i < n → (m2.S i).stands.length = 64) (hp : Pln p la lg n) (ho : m2.s.off = false) {f ep : Nat} (hf : f ≤ most) (hep : ep ≤ most) (R : List Rc × Vs) (hR : rdl la lg ep lg f 0 m2 = R) :
    Calls Tryz.prog 63 #[.pointer (some ⟨E, 0, none⟩), (.agg #[.int .i64 p.a0, .int .i64 p.a1, .int .i64 p.a2, .int .i64 p.a3, .int .i64 p.a4, .int .i64 p.a5, .int .i64 p.a6, .int .i64 p.a7, .int .i64 p.a8, .int .i64 p.a9, .int .i64 p.a10, .int .i64 p.a11, .int .i64 p.a12]), .int .u64 (f : Int), .int .u64 (ep : Int)] w fun e w' => ∃ U' A c, e = .returned (.tuple #[.pointer (some ⟨U', 0, none⟩), .slice A R.1.length c, .int .i64 0]) ∧ OwnS w' 31 5 w.heap.size (.slice A R.1.length c) (R.1.map rcs) ∧ Pr w0 P p n N pw D q E T (some ⟨U', 0, none⟩) F G H1 (fun b => b = U') m1 R.2 t1 (some ⟨f, f + R.1.length, ep⟩) w' ∧ w'.heap[P]? = w.heap[P]? ∧ Kp w (Us F pw G q H1 H2) w' (Us F pw G q H1 (fun b => b = U')) := by
  refine (ropen_yes h.rd hp hz ho hf hep R hR).mono fun e w' ⟨U', A, c, e1, e6, e2, e3, e4, e5⟩ => ?_
  have hb := e5.block P h.lt.1 (fun x => h.ap.p2 (.inl x))
  have hlt := e2.lt
  refine ⟨U', A, c, e1, e3, ⟨h.pd.kept e5 (fun b x y => h.ap.d12 x (.inl y)), e4, h.tb1.kept e5 (fun b x y => h.ap.d23 (.inl y) x), ⟨_, rfl, rfl, e2⟩, ?_, h.bel_of e5 (fun b x => .inr (.inl (.inl x)))⟩, hb, Kp.of_chg e5 (fun b x => .inr (.inl (.inl x))) (fun b x => x.elim (fun y => .inl (.inl y)) (fun x => x.elim (fun y => .inl (.inr (.inl y))) (fun x => x.elim (fun y => .inl (.inr (.inr (.inl y)))) (fun y => .inr (by omega)))))⟩
  exact h.ap.turn (fun _ => 4) e5.size h.bel.size _ _ _ _ (fun b x => .inl x) (fun b x => .inl x) (fun b x => .inl x) (fun b x => .inr ⟨rfl, by omega, by omega⟩)
end
end Go.Proofs.YtikbbikcacoobaaGreatDoor.Pd.Iv
