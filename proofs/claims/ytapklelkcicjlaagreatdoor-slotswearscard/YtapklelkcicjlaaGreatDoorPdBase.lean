/-
  Devices on the way of a call: what frames them, loads and texts beside them. No conditions.
-/
import Derived.Test.YtapklelkcicjlaaGreatDoorPdDev
import Derived.Test.YtapklelkcicjlaaGreatDoorKPage
import Derived.Lib.ConvBytes
namespace Go.Proofs.YtapklelkcicjlaaGreatDoor.Pd
open Go.RowKit Oc Dm W Dw
set_option linter.unusedVariables false
set_option maxRecDepth 100000

theorem heap_at_next (w : World) (a b : Obj) : ((w.alloc a).alloc b).heap[w.heap.size + 1]? = some b := by
  have h := heap_alloc_new (w.alloc a) b
  rwa [show (w.alloc a).heap.size = w.heap.size + 1 by simp] at h
theorem bdrew (w : World) : Below w.heap.size w w.drew := ⟨rfl, rfl, rfl, Nat.le_refl _, fun _ _ => rfl⟩
section
variable {w w' w1 : World} {F G : Nat → Prop} {D q n N N' : Nat} {m m' : Vs}
theorem PD.wide (h : PD w F D q n N m) (hF : ∀ k, F k → G k) (hb : ∀ k, G k → k < w.heap.size) (hq : ¬ G q) : PD w G D q n N m := ⟨h.pw, h.dv.frame hF hb (fun _ _ => rfl), hq, h.hs, h.hN⟩
theorem RD.wide (h : RD w F D q n N m) (hF : ∀ k, F k → G k) (hb : ∀ k, G k → k < w.heap.size) (hq : ¬ G q) : RD w G D q n N m := ⟨h.qw, by obtain ⟨gs, vs, x⟩ := h.rv; exact ⟨gs, vs, x.frame hF hb (fun _ _ => rfl)⟩, hq, h.hf, h.hs, h.hl, h.hN⟩
theorem ext_bound (h : ∀ k, F k → k < w.heap.size) (hs : w.heap.size ≤ w'.heap.size) : ∀ k, Ext F w w' k → k < w'.heap.size := fun k x => x.elim (fun y => Nat.lt_of_lt_of_le (h k y) hs) (fun y => y.2)
/-- what came between -/
theorem PD.from_ (h : PD w F D q n N m) (hs : w.heap.size ≤ w1.heap.size) (hs2 : w1.heap.size ≤ w'.heap.size) (h1 : PD w' (Ext F w1 w') D q n N' m') : PD w' (Ext F w w') D q n N' m' :=
  h1.wide (fun k x => x.imp id (fun y => ⟨Nat.le_trans hs y.1, y.2⟩)) (ext_bound (fun k x => h.bound k (.inl x)) (Nat.le_trans hs hs2)) (fun x => x.elim h.np (fun y => by have := h.pw.lt; omega))
theorem PD.trans (h : PD w F D q n N m) (hs : w.heap.size ≤ w1.heap.size) (hs2 : w1.heap.size ≤ w'.heap.size) (h1 : PD w' (Ext (Ext F w w1) w1 w') D q n N' m') : PD w' (Ext F w w') D q n N' m' :=
  h1.wide (fun k x => x.elim (fun y => y.imp id (fun z => ⟨z.1, Nat.lt_of_lt_of_le z.2 hs2⟩)) (fun y => .inr ⟨Nat.le_trans hs y.1, y.2⟩)) (ext_bound (fun k x => h.bound k (.inl x)) (Nat.le_trans hs hs2)) (fun x => x.elim h.np (fun y => by have := h.pw.lt; omega))
theorem RD.from_ (h : RD w F D q n N m) (hs : w.heap.size ≤ w1.heap.size) (hs2 : w1.heap.size ≤ w'.heap.size) (h1 : RD w' (Ext F w1 w') D q n N' m') : RD w' (Ext F w w') D q n N' m' :=
  h1.wide (fun k x => x.imp id (fun y => ⟨Nat.le_trans hs y.1, y.2⟩)) (ext_bound (fun k x => h.bound k (.inl x)) (Nat.le_trans hs hs2)) (fun x => x.elim h.nq (fun y => by have := h.qw.lt; omega))
theorem RD.trans (h : RD w F D q n N m) (hs : w.heap.size ≤ w1.heap.size) (hs2 : w1.heap.size ≤ w'.heap.size) (h1 : RD w' (Ext (Ext F w w1) w1 w') D q n N' m') : RD w' (Ext F w w') D q n N' m' :=
  h1.wide (fun k x => x.elim (fun y => y.imp id (fun z => ⟨z.1, Nat.lt_of_lt_of_le z.2 hs2⟩)) (fun y => .inr ⟨Nat.le_trans hs y.1, y.2⟩)) (ext_bound (fun k x => h.bound k (.inl x)) (Nat.le_trans hs hs2)) (fun x => x.elim h.nq (fun y => by have := h.qw.lt; omega))
/-- changes of a device that grew on the way -/
theorem chg_trans (hb : ∀ k, Al F q k → k < w.heap.size) (h1 : Chg (Al F q) w w1) (h2 : Chg (Al (Ext F w w1) q) w1 w') : Chg (Al F q) w w' :=
  h1.trans h2 (fun k hk x => x.elim (fun y => y.elim .inl (fun z => absurd z.1 (by omega))) .inr)
/-- the table of four halvings stands below B -/
def EB (B : Nat) (w : World) : Prop := Env w ∧ 1 < B
theorem EB.base {B : Nat} (h : EB B w) (hb : Below B w w') : EB B w' := by
  obtain ⟨⟨t, fr, hh⟩, h2⟩ := h
  exact ⟨⟨t, fr, (hb.block _ h2).trans hh⟩, h2⟩
theorem EB.chg {B : Nat} (h : EB B w) (hc : Chg F w w') (hF : ∀ k, F k → B ≤ k) : EB B w' := by
  obtain ⟨⟨t, fr, hh⟩, h2⟩ := h
  exact ⟨⟨t, fr, (hc.block _ (Array.getElem?_eq_some_iff.1 hh).1 (fun x => by have := hF _ x; omega)).trans hh⟩, h2⟩
end
section
variable {w w' : World} {F : Nat → Prop}
theorem keep_new {w1 w2 : World} {b : Nat} {o : Obj} (hF : ∀ k, F k → k < w.heap.size) (h : w1.heap[b]? = some o) (hc : Chg F w1 w2) (hb : w.heap.size ≤ b) : w2.heap[b]? = some o :=
  (hc.block b (lt_of_heap h) (fun x => by have := hF b x; omega)).trans h
theorem oct_new {w1 w2 : World} {A : Option Addr} {l : Nat} {xs : List UInt8} (hF : ∀ k, F k → k < w.heap.size) (h : Oct w1 A l xs) (hc : Chg F w1 w2) (hb : ∀ b off, 0 < l → A = some ⟨b, off, none⟩ → w.heap.size ≤ b) : Oct w2 A l xs :=
  h.heap fun b off hl e => hc.block b (h.lt hl e) (fun x => by have := hF b x; have := hb b off hl e; omega)
theorem env_chg {w1 w2 : World} (h : Env w1) (hc : Chg F w1 w2) (hE : ∀ k, F k → 1 < k) : Env w2 := by
  obtain ⟨t, fr, hh⟩ := h
  exact ⟨t, fr, (hc.block _ (Array.getElem?_eq_some_iff.1 hh).1 (fun x => by have := hE _ x; omega)).trans hh⟩
end
theorem chg_new {F : Nat → Prop} {w w1 w2 : World} {b : Nat} (h : Chg F w w1) (hg : w1.grownBy w2 (some b)) (hb : w.heap.size ≤ b) : Chg F w w2 :=
  h.trans (G := fun k => k = b) (Chg.of_grown hg (fun k e _ => by injection e with e; exact e.symm)) (fun k hk e => by omega)
theorem pd_new {F : Nat → Prop} {w w1 w2 : World} {b D q n N : Nat} {m : Vs} (hF : ∀ k, F k → k < w.heap.size) (hq : q < w.heap.size) (h : PD w1 F D q n N m) (hg : w1.grownBy w2 (some b)) (hb : w.heap.size ≤ b) : PD w2 F D q n N m :=
  h.kept (G := fun k => k = b) (Chg.of_grown hg (fun k e _ => by injection e with e; exact e.symm)) (fun k x e => x.elim (fun y => by have := hF k y; omega) (fun y => by omega))
theorem chg_row {F : Nat → Prop} {w w1 w2 : World} {R : Option Nat} (h : Chg F w w1) (hg : w1.grownBy w2 R) (hb : ∀ b, R = some b → w.heap.size ≤ b) : Chg F w w2 :=
  h.trans (G := fun k => some k = R) (Chg.of_grown hg (fun k e _ => e.symm)) (fun k hk e => by have := hb k e.symm; omega)
theorem pd_row {F : Nat → Prop} {w w1 w2 : World} {R : Option Nat} {D q n N : Nat} {m : Vs} (hF : ∀ k, F k → k < w.heap.size) (hq : q < w.heap.size) (h : PD w1 F D q n N m) (hg : w1.grownBy w2 R) (hb : ∀ b, R = some b → w.heap.size ≤ b) : PD w2 F D q n N m :=
  h.kept (G := fun k => some k = R) (Chg.of_grown hg (fun k e _ => e.symm)) (fun k x e => by have := hb k e.symm; exact x.elim (fun y => by have := hF k y; omega) (fun y => by omega))
theorem exec_ld {P : Program} {o : Oper} {ev : Operand → Value} {ty : TypeId} {x : Operand} {p r : Value} {w : World} (ho : o.op = .load ty x) (hx : ev x = p) (hrun : (Instr.loadAt ty p).run P w = .ok r w) : (execOp ev o).run P w = .ok (.value r) w := by
  unfold execOp
  simp only [ho, hx, Sem.run_bind, hrun, Result.andThen_ok, Sem.run_pure]
theorem rd1_S (m : Vs) (i : Nat) : (rd1 m i).2.2.S = m.S := by
  unfold rd1
  split
  · rfl
  · split <;> rfl
theorem rd1_len {m : Vs} {i : Nat} (h : (m.S i).stands.length = 64) (h0 : (rd1 m i).1 = 0) : (rd1 m i).2.1.length = 64 := by
  unfold rd1 at h0 ⊢
  split at h0
  · cases h0
  · split at h0
    · cases h0
    · rename_i h1 h2
      rw [if_neg h1, if_neg h2]
      exact h
theorem PD.stand {w : World} {F : Nat → Prop} {D p n N : Nat} {m : Vs} (h : PD w F D p n N m) {i : Nat} (hi : i < n) : (m.S i).stands.length = 64 := by
  obtain ⟨fx, a, b, g, x⟩ := h.dv
  exact (x.sec hi).2.2
theorem undrew {w w' : World} {R : Option Nat} (h : w.drew.grownBy w' R) : w.grownBy w' R := ⟨h.os, h.tape, h.output, h.size, h.block⟩
theorem rd_row {F : Nat → Prop} {w w1 w2 : World} {R : Option Nat} {D q n N : Nat} {m : Vs} (hF : ∀ k, F k → k < w.heap.size) (hq : q < w.heap.size) (h : RD w1 F D q n N m) (hg : w1.grownBy w2 R) (hb : ∀ b, R = some b → w.heap.size ≤ b) : RD w2 F D q n N m :=
  h.kept (F := fun k => some k = R) (Chg.of_grown hg (fun k e _ => e.symm)) (fun k x e => by have := hb k e.symm; exact x.elim (fun y => by have := hF k y; omega) (fun y => by omega))
/-- a text of 64 octets as a slice -/
theorem bytes_of (w : World) (xs : List UInt8) (B : ByteArray) (hB : tx xs = .string B) (hx : xs.length = 64) : ∃ c w', (convert 9 57 (.string B)).run Tryz.prog w = .ok (.slice (some ⟨w.heap.size, 0, none⟩) 64 c) w' ∧ 64 ≤ c ∧ Oct w' (some ⟨w.heap.size, 0, none⟩) 64 xs ∧ Below w.heap.size w w' := by
  have e : B = bstr xs := by unfold tx at hB; injection hB with hB; exact hB.symm
  subst e
  have hs : (bstr xs).size = 64 := hx
  have hrun := Lib.run_convert_string_bytes (P := Tryz.prog) w 9 57 5 (bstr xs) Tryz.underlying9 Dm.bt.sl Dm.bt.u8
  rw [hs] at hrun
  refine ⟨_, _, hrun, grownCap_ge w 64 0 _, ⟨hx, fun _ => ⟨_, 0, rfl, fun j x hj => ?_⟩⟩, ⟨?_, ?_, ?_, ?_, fun k hk => Lib.bytesWorld_at_old w _ _ k hk⟩⟩
  · have hjl : j < xs.length := (List.getElem?_eq_some_iff.1 hj).1
    rw [Nat.zero_add, Lib.bytesWorld_cell w _ _ j (by rw [hs]; omega)]
    have : (bstr xs).data.toList = xs := by simp [bstr]
    rw [this]
    simp [List.getD, hj, ov]
  · simp [Lib.bytesWorld, World.freeze, World.alloc, World.drew, -World.alloc_eq, -World.drew_eq]
  · simp [Lib.bytesWorld, World.freeze, World.alloc, World.drew, -World.alloc_eq, -World.drew_eq]
  · simp [Lib.bytesWorld, World.freeze, World.alloc, World.drew, -World.alloc_eq, -World.drew_eq]
  · rw [Lib.bytesWorld_size]; omega
section
variable {w w' w1 w0 : World} {G : Nat → Prop} {E q n N N' : Nat} {m m' : Vs}
/-- a device of the document's on the way, from w0 on -/
structure RDJ (w0 : World) (G : Nat → Prop) (E q n N : Nat) (m : Vs) (w : World) : Prop where
  rd : RD w (Ext G w0 w) E q n N m
  chg : Chg (Al G q) w0 w
  base : (∀ k, Al G q k → k < w0.heap.size) ∧ ¬ G q
theorem RDJ.start (h : RD w G E q n N m) : RDJ w G E q n N m w :=
  ⟨h.wide (fun _ x => .inl x) (ext_bound (fun k x => h.bound k (.inl x)) (Nat.le_refl _)) (fun x => x.elim h.nq (fun y => by omega)), Chg.refl _ _, h.bound, h.nq⟩
theorem RDJ.then (h : RDJ w0 G E q n N m w) (h1 : RD w' (Ext (Ext G w0 w) w w') E q n N' m') (hc : Chg (Al (Ext G w0 w) q) w w') : RDJ w0 G E q n N' m' w' := by
  have z1 := h.chg.size
  have z2 := hc.size
  refine ⟨h1.wide (fun k x => x.elim (fun y => y.imp id (fun z => ⟨z.1, Nat.lt_of_lt_of_le z.2 z2⟩)) (fun y => .inr ⟨Nat.le_trans z1 y.1, y.2⟩)) (ext_bound (fun k x => h.base.1 k (.inl x)) (Nat.le_trans z1 z2)) (fun x => x.elim h.base.2 (fun y => by have := h.base.1 q (.inr rfl); omega)), ?_, h.base⟩
  exact h.chg.trans hc (fun k hk x => x.elim (fun y => y.elim .inl (fun z => absurd z.1 (by omega))) .inr)
theorem RDJ.below (h : RDJ w0 G E q n N m w) (hb : Below w.heap.size w w') : RDJ w0 G E q n N m w' :=
  ⟨(h.rd.below hb).wide (fun k x => x.imp id (fun y => ⟨y.1, Nat.lt_of_lt_of_le y.2 hb.size⟩)) (ext_bound (fun k x => h.base.1 k (.inl x)) (Nat.le_trans h.chg.size hb.size)) (fun x => x.elim h.base.2 (fun y => by have := h.base.1 q (.inr rfl); omega)), h.chg.trans (Chg.of_below (F := Al G q) hb) (fun _ _ x => x), h.base⟩
theorem RDJ.more (h : RDJ w0 G E q n N m w) (hN : N ≤ N') (hb : N' ≤ 1000000) : RDJ w0 G E q n N' m w := ⟨h.rd.more hN hb, h.chg, h.base⟩
theorem RDJ.flush (h : RDJ w0 G E q n N m w) (hN : N + 1 ≤ 1000000) :
    Calls Tryz.prog 45 #[.pointer (some ⟨E, 0, none⟩)] w fun e w' => e = .returned (.int .i64 (fl1 m).1) ∧ RDJ w0 G E q n (N + 1) (fl1 m).2 w' :=
  (h.rd.flush hN).mono fun e w' ⟨h1, h2, h3⟩ => ⟨h1, h.then h2 h3⟩
theorem RDJ.end_ {wa : World} {m0 : Vs} {N0 : Nat} (h : RDJ w0 G E q n N m w) (ha : RD wa G E q n N0 m0) (hb : Below wa.heap.size wa w0) : RD w (Ext G wa w) E q n N m ∧ Chg (Al G q) wa w :=
  ⟨ha.from_ hb.size h.chg.size h.rd, (Chg.of_below (F := Al G q) hb).trans h.chg (fun _ _ x => x)⟩
end
theorem RD.up {w w' : World} {G : Nat → Prop} {E q n N : Nat} {m : Vs} (h : RD w' G E q n N m) (hq : q < w.heap.size) (hs : w.heap.size ≤ w'.heap.size) : RD w' (Ext G w w') E q n N m := by
  obtain ⟨gs, vs, x⟩ := h.rv
  refine ⟨h.qw, ⟨gs, vs, x.frame (fun _ y => .inl y) (fun k y => y.elim (fun z => h.bound k (.inl z)) (fun z => z.2)) (fun _ _ => rfl)⟩, fun y => y.elim h.nq (fun z => by omega), h.hf, h.hs, h.hl, h.hN⟩

section
variable {w w' w1 : World} {F G : Nat → Prop} {D E p q n N N' : Nat} {m : Vs} {A : Option Addr} {c : Nat} {xs : List UInt8}
/-- to read what there is not -/
theorem PD.noread2 (h : PD w F D p n N m) (z : Int) (hz : z < 0 ∨ (n : Int) ≤ z) : Calls Tryz.prog 118 #[.pointer (some ⟨D, 0, none⟩), .int .i64 z] w fun e w' => e = .returned (.tuple #[.slice none 0 0, .int .i64 (if m.s.off = true then 80 else 3)]) ∧ w = w' := by
  obtain ⟨fx, a, b, g, x⟩ := h.dv
  cases ho : m.s.off
  · exact (read_no x h.pw ho z hz).mono fun e w' ⟨h1, h2⟩ => ⟨h1, h2⟩
  · exact (read_off x h.pw ho z).mono fun e w' ⟨h1, h2⟩ => ⟨h1, h2⟩
theorem PD.fail (h : PD w F D p n N m) (u v : Nat) (hu : u < 18446744073709551616) (hv : v < 18446744073709551616) :
    Calls Tryz.prog 46 #[.pointer (some ⟨D, 0, none⟩), .int .u64 (u : Int), .int .u64 (v : Int)] w fun e w' => e = .returned (.tuple #[]) ∧ PD w' (Ext F w w') D p n N { m with rd := u, wr := v } ∧ Chg F w w' := by
  obtain ⟨fx, a, b, g, x⟩ := h.dv
  refine (fail_any x u v hu hv).mono fun e w' ⟨e1, e2, e3⟩ => ⟨e1, ?_, e3⟩
  exact ⟨h.pw.heap (e3.block p h.pw.lt h.np), e2, ext_np (w1 := w) h rfl, h.hs, h.hN⟩
theorem PD.fuse (h : PD w F D p n N m) (z : Int) :
    Calls Tryz.prog 11 #[.pointer (some ⟨p, 0, none⟩), .int .i64 z] w fun e w' => e = .returned (.int .i64 (PS.fuseE m.s z)) ∧ PD w' (Ext F w w') D p n N { m with s := PS.fuseS m.s z } ∧ Chg (Al F p) w w' :=
  (fuse_any h.pw z).mono fun e w' ⟨e1, e2, e3, e4⟩ => ⟨e1, h.pow e2 e3 (Nat.le_refl _) h.hN (by rw [fuseS_done]; exact h.hs)⟩
theorem RD.fuse (h : RD w G E q n N m) (z : Int) :
    Calls Tryz.prog 47 #[.pointer (some ⟨q, 0, none⟩), .int .i64 z] w fun e w' => e = .returned (.int .i64 (PS.fuseE m.s z)) ∧ RD w' (Ext G w w') E q n N { m with s := PS.fuseS m.s z } ∧ Chg (Al G q) w w' :=
  (rfuse_any h.qw z).mono fun e w' ⟨e1, e2, e3, e4⟩ => ⟨e1, h.pow e2 e3 (Nat.le_refl _) h.hN (by rw [fuseS_done]; exact h.hs) (fuseS_le z h.hf)⟩
theorem PD.writez (h : PD w F D p n N m) (hN : N + 1 ≤ 1000000) (z : Int) (hx : Oct w A 64 xs) (hA : ∀ b off, A = some ⟨b, off, none⟩ → ¬ Al F p b) :
    Calls Tryz.prog 51 #[.pointer (some ⟨D, 0, none⟩), .int .i64 z, .slice A 64 c] w fun e w' => e = .returned (.int .i64 (wrz n m z xs).1) ∧ PD w' (Ext F w w') D p n (N + 1) (wrz n m z xs).2 ∧ Chg (Al F p) w w' := by
  unfold wrz
  by_cases hz : 0 ≤ z ∧ z < (n : Int)
  · obtain ⟨i, rfl⟩ := Int.eq_ofNat_of_zero_le hz.1
    rw [if_pos hz, Int.toNat_natCast]
    exact h.write hN i (by omega) hx hA
  · rw [if_neg hz]
    obtain ⟨fx, a, b, g, x⟩ := h.dv
    cases ho : m.s.off
    · refine (write_no x h.pw ho z _ (by omega)).mono fun e w' ⟨e1, e2⟩ => ?_
      subst e2
      exact ⟨e1, h.ext (Nat.le_succ _) hN⟩
    · refine (write_off x h.pw ho z _).mono fun e w' ⟨e1, e2⟩ => ?_
      subst e2
      exact ⟨e1, h.ext (Nat.le_succ _) hN⟩
theorem RD.writez {B : ByteArray} (h : RD w G E q n N m) (hN : N + 1 ≤ 1000000) (z : Int) (hB : tx xs = .string B) (hl : xs.length = 64) :
    Calls Tryz.prog 52 #[.pointer (some ⟨E, 0, none⟩), .int .i64 z, .string B] w fun e w' => e = .returned (.int .i64 (wrz n m z xs).1) ∧ RD w' (Ext G w w') E q n (N + 1) (wrz n m z xs).2 ∧ Chg (Al G q) w w' := by
  unfold wrz
  by_cases hz : 0 ≤ z ∧ z < (n : Int)
  · obtain ⟨i, rfl⟩ := Int.eq_ofNat_of_zero_le hz.1
    rw [if_pos hz, Int.toNat_natCast]
    exact h.write hN i (by omega) hB hl
  · rw [if_neg hz]
    obtain ⟨gs, vs, x⟩ := h.rv
    cases ho : m.s.off
    · refine (rwrite_no x h.qw ho z _ (by omega)).mono fun e w' ⟨e1, e2⟩ => ?_
      subst e2
      exact ⟨e1, h.ext (Nat.le_succ _) hN⟩
    · refine (rwrite_off x h.qw ho z _).mono fun e w' ⟨e1, e2⟩ => ?_
      subst e2
      exact ⟨e1, h.ext (Nat.le_succ _) hN⟩
/-- turned bits -/
theorem PD.rot (h : PD w F D p n N m) (hN : N + 1 ≤ 1000000) (z bit : Int) (T : Nat) (hT : T < 4294967296) :
    Calls Tryz.prog 22 #[.pointer (some ⟨D, 0, none⟩), .int .i64 z, .int .i64 bit, .int .u32 (T : Int)] w fun e w' => e = .returned (.int .i64 (rt1 n m z bit T).1) ∧ PD w' (Ext F w w') D p n (N + 1) (rt1 n m z bit T).2 ∧ Chg (Al F p) w w' := by
  obtain ⟨fx, a, b, g, x⟩ := h.dv
  have hx := h.ext (Nat.le_succ _) hN
  have up : ∀ {w' : World}, Below w.heap.size w w' → PD w' (Ext F w w') D p n (N + 1) m ∧ Chg (Al F p) w w' := fun {w'} hb =>
    ⟨((h.below hb).more (Nat.le_succ _) hN).wide (fun _ y => .inl y) (ext_bound (fun k y => h.bound k (.inl y)) hb.size) (ext_np (w1 := w) h rfl), Chg.of_below hb⟩
  unfold rt1
  by_cases h1 : z < 0 ∨ (n : Int) ≤ z ∨ bit < 0 ∨ 512 ≤ bit
  · rw [if_pos h1]
    exact (rot_range x z bit _ h1).mono fun e w' ⟨e1, e2⟩ => by subst e2; exact ⟨e1, hx⟩
  · rw [if_neg h1]
    obtain ⟨i, rfl⟩ := Int.eq_ofNat_of_zero_le (show 0 ≤ z by omega)
    rw [Int.toNat_natCast]
    by_cases h2 : (m.S i).rotten = true ∨ (m.S i).loose ≠ []
    · rw [if_pos h2]
      exact (rot_state x i (by omega) bit _ (by omega) h2).mono fun e w' ⟨e1, e2⟩ => ⟨e1, up e2⟩
    · rw [if_neg h2]
      have hr : (m.S i).rotten = false := by
        cases hh : (m.S i).rotten
        · rfl
        · exact absurd (.inl hh) h2
      have hl : (m.S i).loose = [] := Classical.byContradiction fun hh => h2 (.inr hh)
      refine (rot_clean x (by omega) i (by omega) bit T (by omega) hT hr hl).mono fun e w' hh => ?_
      by_cases h3 : rotTo m.S i bit T = (m.S i).fixed
      · rw [if_pos h3]
        rcases hh with ⟨_, e1, e2⟩ | ⟨h4, _⟩
        · exact ⟨e1, up e2⟩
        · exact absurd h3 h4
      · rw [if_neg h3]
        rcases hh with ⟨h4, _⟩ | ⟨_, e1, e2, e3⟩
        · exact absurd h4 h3
        · exact ⟨e1, ⟨h.pw.heap (e3.block p h.pw.lt h.np), e2, ext_np (w1 := w) h rfl, Nat.le_succ_of_le h.hs, hN⟩, e3.mono (fun _ _ y => .inl y)⟩
theorem RD.rot (h : RD w G E q n N m) (z bit : Int) (T : Nat) (hT : T < 4294967296) (hfl : ∀ i, i < n → (m.S i).fixed.length = 64) :
    Calls Tryz.prog 49 #[.pointer (some ⟨E, 0, none⟩), .int .i64 z, .int .i64 bit, .int .u32 (T : Int)] w fun e w' => e = .returned (.int .i64 (rt1 n m z bit T).1) ∧ RD w' (Ext G w w') E q n N (rt1 n m z bit T).2 ∧ Chg (Al G q) w w' := by
  obtain ⟨gs, vs, x⟩ := h.rv
  have hx := h.ext (Nat.le_refl _) h.hN
  have up : ∀ {w' : World}, Below w.heap.size w w' → RD w' (Ext G w w') E q n N m ∧ Chg (Al G q) w w' := fun {w'} hb =>
    ⟨(h.below hb).wide (fun _ y => .inl y) (ext_bound (fun k y => h.bound k (.inl y)) hb.size) h.enq, Chg.of_below hb⟩
  unfold rt1
  by_cases h1 : z < 0 ∨ (n : Int) ≤ z ∨ bit < 0 ∨ 512 ≤ bit
  · rw [if_pos h1]
    exact (rrot_range x z bit _ h1).mono fun e w' ⟨e1, e2⟩ => by subst e2; exact ⟨e1, hx⟩
  · rw [if_neg h1]
    obtain ⟨i, rfl⟩ := Int.eq_ofNat_of_zero_le (show 0 ≤ z by omega)
    rw [Int.toNat_natCast]
    by_cases h2 : (m.S i).rotten = true ∨ (m.S i).loose ≠ []
    · rw [if_pos h2]
      exact (rrot_state x i (by omega) bit _ (by omega) h2).mono fun e w' ⟨e1, e2⟩ => by subst e2; exact ⟨e1, hx⟩
    · rw [if_neg h2]
      have hr : (m.S i).rotten = false := by
        cases hh : (m.S i).rotten
        · rfl
        · exact absurd (.inl hh) h2
      have hl : (m.S i).loose = [] := Classical.byContradiction fun hh => h2 (.inr hh)
      refine (rrot_clean x i (by omega) bit T (by omega) hT hr hl (hfl i (by omega))).mono fun e w' hh => ?_
      by_cases h3 : rotTo m.S i bit T = (m.S i).fixed
      · rw [if_pos h3]
        rcases hh with ⟨_, e1, e2⟩ | ⟨h4, _⟩
        · exact ⟨e1, up e2⟩
        · exact absurd h3 h4
      · rw [if_neg h3]
        rcases hh with ⟨h4, _⟩ | ⟨_, e1, ⟨vs', e2⟩, e3⟩
        · exact absurd h4 h3
        · have e3' : Chg G w w' := e3.mono (fun b _ y => y ▸ x.inG.2)
          refine ⟨e1, ⟨h.qw.heap (e3'.block q h.qw.lt h.nq), ⟨_, _, e2.frame (fun _ y => .inl y) (fun k y => y.elim (fun z => Nat.lt_of_lt_of_le (h.bound k (.inl z)) e3.size) (fun z => z.2)) (fun _ _ => rfl)⟩, h.enq, h.hf, h.hs, fun j hj => ?_, h.hN⟩, e3'.mono (fun _ _ y => .inl y)⟩
          by_cases ej : j = i
          · subst ej; show ((upd m.S j _) j).loose.length ≤ N; rw [Dm.upd_same]; exact Nat.zero_le _
          · show ((upd m.S i _) j).loose.length ≤ N; rw [Dm.upd_other _ _ ej]; exact h.hl j hj
end
end Go.Proofs.YtapklelkcicjlaaGreatDoor.Pd
