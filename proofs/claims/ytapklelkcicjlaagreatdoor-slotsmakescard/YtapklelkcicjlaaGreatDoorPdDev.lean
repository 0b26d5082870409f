/-
  A device of the program and one of the document, each with its power: what reads, writes and flushes answer, and leave. No conditions.
-/
import Derived.Test.YtapklelkcicjlaaGreatDoorPdNum
namespace Go.Proofs.YtapklelkcicjlaaGreatDoor.Pd
open Go.RowKit Oc Dm Dw Gt
set_option linter.unusedVariables false
set_option maxRecDepth 100000

theorem balloc (w : World) (o : Obj) : Below w.heap.size w (w.alloc o) := (Below.refl _ w).alloc (Nat.le_refl _) o
theorem bthen {w a b : World} (h : Below w.heap.size w a) (k : Below a.heap.size a b) : Below w.heap.size w b := h.trans (k.mono h.size)
theorem below_drewN {B : Nat} {a w : World} (h : Below B a w) (n : Nat) : Below B a (w.drewN n) := ⟨h.os, h.tape, h.output, h.size, h.block⟩
theorem below_of_drew {B : Nat} {a b : World} (h : Below B a.drew b) : Below B a b := ⟨h.os, h.tape, h.output, h.size, h.block⟩
theorem ret_int {k : IntKind} {a b : Int} (h : a = b) : Ending.returned (.int k a) = .returned (.int k b) := by rw [h]
/-- blocks of F turned, and what stood below B is as it was -/
theorem Chg.base {F : Nat → Prop} {B : Nat} {w w' : World} (h : Chg F w w') (hB : B ≤ w.heap.size) (hF : ∀ k, F k → B ≤ k) : Below B w w' := h.below hB (fun k hk x => by have := hF k x; omega)
theorem ext_le {F : Nat → Prop} {B : Nat} {w w' : World} (hB : B ≤ w.heap.size) (hF : ∀ k, F k → B ≤ k) : ∀ k, Ext F w w' k → B ≤ k := fun k x => x.elim (hF k) (fun y => Nat.le_trans hB y.1)

/-- A DEVICE OF THE PROGRAM's, with its power -/
structure PD (w : World) (F : Nat → Prop) (D p n N : Nat) (m : Vs) : Prop where
  pw : Pw w p m.s
  dv : Dv w F D p n N m.S m.rd m.wr
  np : ¬ F p
  hs : m.s.done ≤ N
  hN : N ≤ 1000000
/-- all of its blocks -/
def Al (F : Nat → Prop) (p k : Nat) : Prop := F k ∨ k = p
section
variable {w w' w1 : World} {F G : Nat → Prop} {D p n N N' : Nat} {m : Vs}
theorem PD.kept (h : PD w F D p n N m) (hc : Chg G w w') (hG : ∀ k, Al F p k → ¬ G k) : PD w' F D p n N m :=
  ⟨h.pw.heap (hc.block p h.pw.lt (hG p (.inr rfl))), h.dv.kept hc (fun k x => hG k (.inl x)), h.np, h.hs, h.hN⟩
theorem PD.below (h : PD w F D p n N m) (hb : Below w.heap.size w w') : PD w' F D p n N m := h.kept (G := fun _ => False) (Chg.of_below hb) (fun _ _ x => x)
theorem PD.drewN (h : PD w F D p n N m) (k : Nat) : PD (w.drewN k) F D p n N m := h.below ⟨rfl, rfl, rfl, Nat.le_refl _, fun _ _ => rfl⟩
theorem PD.drew (h : PD w F D p n N m) : PD w.drew F D p n N m := h.below ⟨rfl, rfl, rfl, Nat.le_refl _, fun _ _ => rfl⟩
theorem PD.more (h : PD w F D p n N m) (hN : N ≤ N') (hb : N' ≤ 1000000) : PD w F D p n N' m := ⟨h.pw, h.dv.more hN (by omega), h.np, Nat.le_trans h.hs hN, hb⟩
theorem PD.bound (h : PD w F D p n N m) : ∀ k, Al F p k → k < w.heap.size := fun k x => x.elim (fun y => by obtain ⟨fx, a, b, g, z⟩ := h.dv; exact z.bound k y) (fun e => e ▸ h.pw.lt)
theorem PD.secs (h : PD w F D p n N m) : n ≤ 4096 ∧ ∀ i, i < n → (m.S i).loose.length ≤ N ∧ (m.S i).fixed.length = 64 := by
  obtain ⟨fx, a, b, g, x⟩ := h.dv
  exact ⟨x.hn, fun i hi => ⟨x.hl i hi, x.fixd.len hi⟩⟩
theorem PD.size (h : PD w F D p n N m) : Calls Tryz.prog 119 #[.pointer (some ⟨D, 0, none⟩)] w fun e w' => e = .returned (.int .i64 (n : Int)) ∧ w = w' := by
  obtain ⟨fx, a, b, g, x⟩ := h.dv
  exact size_any x
/-- to read what there is not -/
theorem PD.noread (h : PD w F D p n N m) (z : Int) (hz : z < 0 ∨ (n : Int) ≤ z) : Calls Tryz.prog 118 #[.pointer (some ⟨D, 0, none⟩), .int .i64 z] w fun e w' => ∃ v, e = .returned (.tuple #[.slice none 0 0, .int .i64 v]) ∧ v ≠ 2 ∧ w = w' := by
  obtain ⟨fx, a, b, g, x⟩ := h.dv
  cases ho : m.s.off
  · exact (read_no x h.pw ho z hz).mono fun e w' ⟨h1, h2⟩ => ⟨3, h1, by decide, h2⟩
  · exact (read_off x h.pw ho z).mono fun e w' ⟨h1, h2⟩ => ⟨80, h1, by decide, h2⟩
theorem PD.read (h : PD w F D p n N m) (i : Nat) (hi : i < n) : Calls Tryz.prog 118 #[.pointer (some ⟨D, 0, none⟩), .int .i64 (i : Int)] w fun e w' => ∃ A l c, e = .returned (.tuple #[.slice A l c, .int .i64 (rd1 m i).1]) ∧ Oct w' A l (rd1 m i).2.1 ∧ l ≤ c ∧ l ≤ 64 ∧ (∀ b off, 0 < l → A = some ⟨b, off, none⟩ → w.heap.size ≤ b) ∧ PD w' F D p n N (rd1 m i).2.2 ∧ Chg F w w' := by
  obtain ⟨fx, a, b, g, x⟩ := h.dv
  cases ho : m.s.off
  · rcases Nat.mod_two_eq_zero_or_one m.rd with hr | hr
    · have e : rd1 m i = (0, (m.S i).stands, { m with rd := m.rd / 2 }) := by unfold rd1; rw [if_neg (by rw [ho]; decide), if_neg (by omega)]
      rw [e]
      exact (read_yes x h.pw ho i hi hr).mono fun e w' ⟨w1, ⟨b, h1, hb, h5, h6⟩, h2, h3, h4⟩ => by
        subst h1
        have hc : Chg F w w1 := Chg.of_grown h3 (fun b e _ => by injection e with e; subst e; exact x.inF.1)
        have pd : PD w1 F D p n N { m with rd := m.rd / 2 } := ⟨h.pw.heap (hc.block p h.pw.lt h.np), ⟨_, _, _, _, h2⟩, h.np, h.hs, h.hN⟩
        refine ⟨_, _, _, rfl, h5.oct (i := 0) (by decide), by decide, Nat.le_refl _, fun b' off _ e => ?_, pd.below h6, hc.trans (Chg.of_below (F := F) h6) (fun _ _ x => x)⟩
        injection e with e
        injection e with e
        subst e
        omega
    · have e : rd1 m i = (81, [], { m with rd := m.rd / 2 }) := by unfold rd1; rw [if_neg (by rw [ho]; decide), if_pos hr]
      rw [e]
      exact (read_io x h.pw ho i hi hr).mono fun e w' ⟨h1, h2, h3, h4⟩ => by
        subst h1
        have hc : Chg F w w' := Chg.of_grown h3 (fun b e _ => by injection e with e; subst e; exact x.inF.1)
        exact ⟨none, 0, 0, rfl, Oct.nil _ _, Nat.le_refl _, by decide, fun _ _ hl => absurd hl (Nat.lt_irrefl _), ⟨h.pw.heap (hc.block p h.pw.lt h.np), ⟨_, _, _, _, h2⟩, h.np, h.hs, h.hN⟩, hc⟩
  · have e : rd1 m i = (80, [], m) := by unfold rd1; rw [if_pos ho]
    rw [e]
    exact (read_off x h.pw ho i).mono fun e w' ⟨h1, h2⟩ => by subst h1 h2; exact ⟨none, 0, 0, rfl, Oct.nil _ _, Nat.le_refl _, by decide, fun _ _ hl => absurd hl (Nat.lt_irrefl _), h, Chg.refl _ _⟩
theorem ext_np (h : PD w F D p n N m) (hs : w1.heap.size = w1.heap.size) : ¬ Ext F w w' p := fun x => x.elim h.np (fun y => by have := h.pw.lt; omega)
/-- only the power turned -/
theorem PD.pow {s : PS} (h : PD w F D p n N m) (hp : Pw w' p s) (hg : w.grownBy w' (some p)) (hN : N ≤ N') (hb : N' ≤ 1000000) (hd : s.done ≤ N') : PD w' (Ext F w w') D p n N' { m with s := s } ∧ Chg (Al F p) w w' := by
  have hc : Chg (Al F p) w w' := Chg.of_grown hg (fun k e _ => by injection e with e; exact .inr e.symm)
  refine ⟨⟨hp, ?_, ext_np (w1 := w) h rfl, hd, hb⟩, hc⟩
  have hk : Dv w' F D p n N m.S m.rd m.wr := h.dv.kept (G := fun k => k = p) (Chg.of_grown hg (fun k e _ => by injection e with e; exact e.symm)) (fun k x e => h.np (e ▸ x))
  exact (hk.more hN (by omega)).frame (fun _ x => .inl x) (fun k x => x.elim (fun y => Nat.lt_of_lt_of_le (h.bound k (.inl y)) hg.size) (fun y => y.2)) (fun _ _ => rfl)
theorem PD.ext (h : PD w F D p n N m) (hN : N ≤ N') (hb : N' ≤ 1000000) : PD w (Ext F w w) D p n N' m ∧ Chg (Al F p) w w := by
  have := h.pow (s := m.s) h.pw (World.grownBy.refl w _) hN hb (Nat.le_trans h.hs hN)
  exact this
/-- 64 octets, in a block that is not the device's, written to a sector that there is -/
theorem PD.write {A : Option Addr} {c : Nat} {xs : List UInt8} (h : PD w F D p n N m) (hN : N + 1 ≤ 1000000) (i : Nat) (hi : i < n) (hx : Oct w A 64 xs) (hA : ∀ b off, A = some ⟨b, off, none⟩ → ¬ Al F p b) :
    Calls Tryz.prog 51 #[.pointer (some ⟨D, 0, none⟩), .int .i64 (i : Int), .slice A 64 c] w fun e w' => e = .returned (.int .i64 (wr1 m i xs).1) ∧ PD w' (Ext F w w') D p n (N + 1) (wr1 m i xs).2 ∧ Chg (Al F p) w w' := by
  obtain ⟨fx, a, b, g, x⟩ := h.dv
  have hdone : m.s.done < 1000000000000 := by have := h.hs; omega
  have hsp : m.s.spend.done ≤ N + 1 := Nat.le_trans m.s.done_le (by have := h.hs; omega)
  cases ho : m.s.off
  · cases hg : m.s.goes
    · rcases Nat.mod_two_eq_zero_or_one m.wr with hr | hr
      · have e : wr1 m i xs = (0, { m with s := m.s.spend, S := wrote m.S i xs, wr := m.wr / 2 }) := by unfold wr1; rw [if_neg (by rw [ho]; decide), if_neg (by rw [hg]; decide), if_neg (by omega)]
        rw [e]
        obtain ⟨b, off, hA2, _⟩ := hx.2 (by decide)
        have hb := hA b off hA2
        exact (write_ok x (by omega) h.np h.pw hdone ho i hi hg hr hA2 hx (fun e => hb (.inr e)) (fun e => hb (.inl e))).mono fun e w' ⟨h1, h2, h3, h4⟩ => by
          subst h1
          exact ⟨rfl, ⟨h2, h3, ext_np (w1 := w) h rfl, hsp, hN⟩, h4⟩
      · have e : wr1 m i xs = (81, { m with s := m.s.spend, wr := m.wr / 2 }) := by unfold wr1; rw [if_neg (by rw [ho]; decide), if_neg (by rw [hg]; decide), if_pos hr]
        rw [e]
        exact (write_io x h.np h.pw hdone ho i hi hg hr).mono fun e w' ⟨h1, h2, h3, h4⟩ => by
          subst h1
          exact ⟨rfl, ⟨h2, h3.more (Nat.le_succ _) (by omega), ext_np (w1 := w) h rfl, hsp, hN⟩, h4⟩
    · have e : wr1 m i xs = (80, { m with s := m.s.spend }) := by unfold wr1; rw [if_neg (by rw [ho]; decide), if_pos hg]
      rw [e]
      exact (write_goes x h.pw hdone ho i hi hg).mono fun e w' ⟨h1, h2, h3, h4⟩ => by
        subst h1
        exact ⟨rfl, h.pow h2 h3 (Nat.le_succ _) hN hsp⟩
  · have e : wr1 m i xs = (80, m) := by unfold wr1; rw [if_pos ho]
    rw [e]
    exact (write_off x h.pw ho _ _).mono fun e w' ⟨h1, h2⟩ => by subst h1 h2; exact ⟨rfl, h.ext (Nat.le_succ _) hN⟩
theorem PD.flush (h : PD w F D p n N m) (hN : N + 1 ≤ 1000000) :
    Calls Tryz.prog 16 #[.pointer (some ⟨D, 0, none⟩)] w fun e w' => e = .returned (.int .i64 (fl1 m).1) ∧ PD w' (Ext F w w') D p n (N + 1) (fl1 m).2 ∧ Chg (Al F p) w w' := by
  obtain ⟨fx, a, b, g, x⟩ := h.dv
  have hdone : m.s.done < 1000000000000 := by have := h.hs; omega
  have hsp : m.s.spend.done ≤ N + 1 := Nat.le_trans m.s.done_le (by have := h.hs; omega)
  cases ho : m.s.off
  · cases hg : m.s.goes
    · have e : fl1 m = (0, { m with s := m.s.spend, S := flushS m.S }) := by unfold fl1; rw [if_neg (by rw [ho]; decide), if_neg (by rw [hg]; decide)]
      rw [e]
      exact (flush_ok x h.np h.pw hdone ho hg).mono fun e w' ⟨h1, h2, h3, h4⟩ => by
        subst h1
        exact ⟨rfl, ⟨h2, h3.more (Nat.le_succ _) (by omega), ext_np (w1 := w) h rfl, hsp, hN⟩, h4⟩
    · have e : fl1 m = (80, { m with s := m.s.spend }) := by unfold fl1; rw [if_neg (by rw [ho]; decide), if_pos hg]
      rw [e]
      exact (flush_goes x h.pw hdone ho hg).mono fun e w' ⟨h1, h2, h3, h4⟩ => by
        subst h1
        exact ⟨rfl, h.pow h2 h3 (Nat.le_succ _) hN hsp⟩
  · have e : fl1 m = (80, m) := by unfold fl1; rw [if_pos ho]
    rw [e]
    exact (flush_off x h.pw ho).mono fun e w' ⟨h1, h2⟩ => by subst h1 h2; exact ⟨rfl, h.ext (Nat.le_succ _) hN⟩
end

/-- A DEVICE OF THE DOCUMENT's, with its power -/
structure RD (w : World) (G : Nat → Prop) (E q n N : Nat) (m : Vs) : Prop where
  qw : Qw w q m.s
  rv : ∃ gs vs, RvAt w G E q n m.S m.rd m.wr gs vs
  nq : ¬ G q
  hf : ∀ k, m.s.fuse = some k → k ≤ 1048576
  hs : m.s.done ≤ N
  hl : ∀ i, i < n → (m.S i).loose.length ≤ N
  hN : N ≤ 1000000
theorem spend_fuse {s : PS} (hf : ∀ j, s.fuse = some j → j ≤ 1048576) : ∀ j, s.spend.fuse = some j → j ≤ 1048576 := fun j hj => by
  obtain ⟨off, fuse, done⟩ := s
  rcases fuse with _ | _ | m
  · simp [PS.spend] at hj
  · simp [PS.spend] at hj; omega
  · simp [PS.spend] at hj; have := hf (m + 1) rfl; omega
theorem wrote_len {S : Nat → Sec} {i N : Nat} {xs : List UInt8} (h : ∀ j, (S j).loose.length ≤ N ∨ True) (j : Nat) : ((wrote S i xs) j).loose.length ≤ (S j).loose.length + 1 := by
  unfold wrote
  by_cases e : j = i
  · subst e; rw [Dm.upd_same]; simp
  · rw [Dm.upd_other _ _ e]; omega
theorem size_tx {xs : List UInt8} {B : ByteArray} (h : tx xs = .string B) : B.size = xs.length := by
  unfold tx at h
  injection h with h
  subst h
  rfl
section
variable {w w' w1 : World} {F G : Nat → Prop} {E q n N N' : Nat} {m : Vs}
theorem RD.bound (h : RD w G E q n N m) : ∀ k, Al G q k → k < w.heap.size := fun k x => x.elim (fun y => by obtain ⟨gs, vs, z⟩ := h.rv; exact z.bound k y) (fun e => e ▸ h.qw.lt)
theorem RD.kept (h : RD w G E q n N m) (hc : Chg F w w') (hF : ∀ k, Al G q k → ¬ F k) : RD w' G E q n N m :=
  ⟨h.qw.heap (hc.block q h.qw.lt (hF q (.inr rfl))), by obtain ⟨gs, vs, x⟩ := h.rv; exact ⟨gs, vs, x.kept hc (fun k y => hF k (.inl y))⟩, h.nq, h.hf, h.hs, h.hl, h.hN⟩
theorem RD.below (h : RD w G E q n N m) (hb : Below w.heap.size w w') : RD w' G E q n N m := h.kept (F := fun _ => False) (Chg.of_below hb) (fun _ _ x => x)
theorem RD.drewN (h : RD w G E q n N m) (k : Nat) : RD (w.drewN k) G E q n N m := h.below ⟨rfl, rfl, rfl, Nat.le_refl _, fun _ _ => rfl⟩
theorem RD.drew (h : RD w G E q n N m) : RD w.drew G E q n N m := h.below ⟨rfl, rfl, rfl, Nat.le_refl _, fun _ _ => rfl⟩
theorem RD.more (h : RD w G E q n N m) (hN : N ≤ N') (hb : N' ≤ 1000000) : RD w G E q n N' m := ⟨h.qw, h.rv, h.nq, h.hf, Nat.le_trans h.hs hN, fun i hi => Nat.le_trans (h.hl i hi) hN, hb⟩
theorem RD.enq (h : RD w G E q n N m) : ¬ Ext G w w' q := fun x => x.elim h.nq (fun y => by have := h.qw.lt; omega)
theorem RD.pow {s : PS} (h : RD w G E q n N m) (hp : Qw w' q s) (hg : w.grownBy w' (some q)) (hN : N ≤ N') (hb : N' ≤ 1000000) (hd : s.done ≤ N') (hf : ∀ k, s.fuse = some k → k ≤ 1048576) : RD w' (Ext G w w') E q n N' { m with s := s } ∧ Chg (Al G q) w w' := by
  have hc : Chg (Al G q) w w' := Chg.of_grown hg (fun k e _ => by injection e with e; exact .inr e.symm)
  refine ⟨⟨hp, ?_, h.enq, hf, hd, fun i hi => Nat.le_trans (h.hl i hi) hN, hb⟩, hc⟩
  obtain ⟨gs, vs, x⟩ := h.rv
  have hk := x.kept (F := fun k => k = q) (Chg.of_grown hg (fun k e _ => by injection e with e; exact e.symm)) (fun k y e => h.nq (e ▸ y))
  exact ⟨gs, vs, hk.frame (fun _ x => .inl x) (fun k x => x.elim (fun y => Nat.lt_of_lt_of_le (h.bound k (.inl y)) hg.size) (fun y => y.2)) (fun _ _ => rfl)⟩
theorem RD.ext (h : RD w G E q n N m) (hN : N ≤ N') (hb : N' ≤ 1000000) : RD w (Ext G w w) E q n N' m ∧ Chg (Al G q) w w := h.pow (s := m.s) h.qw (World.grownBy.refl w _) hN hb (Nat.le_trans h.hs hN) h.hf
theorem RD.read (h : RD w G E q n N m) (i : Nat) (hi : i < n) : Calls Tryz.prog 94 #[.pointer (some ⟨E, 0, none⟩), .int .i64 (i : Int)] w fun e w' => ∃ B, e = .returned (.tuple #[.string B, .int .i64 (rd1 m i).1]) ∧ tx (rd1 m i).2.1 = .string B ∧ RD w' G E q n N (rd1 m i).2.2 ∧ Chg G w w' := by
  obtain ⟨gs, vs, x⟩ := h.rv
  cases ho : m.s.off
  · rcases Nat.mod_two_eq_zero_or_one m.rd with hr | hr
    · have e : rd1 m i = (0, (m.S i).stands, { m with rd := m.rd / 2 }) := by unfold rd1; rw [if_neg (by rw [ho]; decide), if_neg (by omega)]
      rw [e]
      exact (rread_yes x h.qw ho i hi hr).mono fun e w' ⟨h1, h2, h3, h4⟩ => by
        subst h1
        have hc : Chg G w w' := Chg.of_grown h3 (fun b e _ => by injection e with e; subst e; exact x.inG.1)
        exact ⟨_, rfl, rfl, ⟨h.qw.heap (hc.block q h.qw.lt h.nq), ⟨_, _, h2⟩, h.nq, h.hf, h.hs, h.hl, h.hN⟩, hc⟩
    · have e : rd1 m i = (81, [], { m with rd := m.rd / 2 }) := by unfold rd1; rw [if_neg (by rw [ho]; decide), if_pos hr]
      rw [e]
      exact (rread_io x h.qw ho i hi hr).mono fun e w' ⟨h1, h2, h3, h4⟩ => by
        subst h1
        have hc : Chg G w w' := Chg.of_grown h3 (fun b e _ => by injection e with e; subst e; exact x.inG.1)
        exact ⟨_, rfl, rfl, ⟨h.qw.heap (hc.block q h.qw.lt h.nq), ⟨_, _, h2⟩, h.nq, h.hf, h.hs, h.hl, h.hN⟩, hc⟩
  · have e : rd1 m i = (80, [], m) := by unfold rd1; rw [if_pos ho]
    rw [e]
    exact (rread_off x h.qw ho _).mono fun e w' ⟨h1, h2⟩ => by subst h1 h2; exact ⟨_, rfl, rfl, h, Chg.refl _ _⟩
theorem RD.write {B : ByteArray} {xs : List UInt8} (h : RD w G E q n N m) (hN : N + 1 ≤ 1000000) (i : Nat) (hi : i < n) (hB : tx xs = .string B) (hl : xs.length = 64) :
    Calls Tryz.prog 52 #[.pointer (some ⟨E, 0, none⟩), .int .i64 (i : Int), .string B] w fun e w' => e = .returned (.int .i64 (wr1 m i xs).1) ∧ RD w' (Ext G w w') E q n (N + 1) (wr1 m i xs).2 ∧ Chg (Al G q) w w' := by
  obtain ⟨gs, vs, x⟩ := h.rv
  have hdone : m.s.done < 1000000000000 := by have := h.hs; have := h.hN; omega
  have hsp : m.s.spend.done ≤ N + 1 := Nat.le_trans m.s.done_le (by have := h.hs; omega)
  have hsz := size_tx hB
  have hbd : (m.S i).loose.length ≤ 1000000000 := by have := h.hl i hi; have := h.hN; omega
  cases ho : m.s.off
  · cases hg : m.s.goes
    · rcases Nat.mod_two_eq_zero_or_one m.wr with hr | hr
      · have e : wr1 m i xs = (0, { m with s := m.s.spend, S := wrote m.S i xs, wr := m.wr / 2 }) := by unfold wr1; rw [if_neg (by rw [ho]; decide), if_neg (by rw [hg]; decide), if_neg (by omega)]
        rw [e]
        exact (rwrite_ok x h.nq h.qw h.hf hdone ho i hi hbd xs B hB (by omega) hg hr).mono fun e w' ⟨h1, h2, ⟨vs', h3⟩, h4⟩ => by
          subst h1
          exact ⟨rfl, ⟨h2, ⟨_, _, h3⟩, h.enq, spend_fuse h.hf, hsp, fun j hj => Nat.le_trans (wrote_len (N := 0) (fun _ => .inr trivial) j) (Nat.succ_le_succ (h.hl j hj)), hN⟩, h4⟩
      · have e : wr1 m i xs = (81, { m with s := m.s.spend, wr := m.wr / 2 }) := by unfold wr1; rw [if_neg (by rw [ho]; decide), if_neg (by rw [hg]; decide), if_pos hr]
        rw [e]
        exact (rwrite_io x h.nq h.qw h.hf hdone ho i hi hbd xs B hB (by omega) hg hr).mono fun e w' ⟨h1, h2, ⟨vs', h3⟩, h4⟩ => by
          subst h1
          exact ⟨rfl, ⟨h2, ⟨_, _, h3⟩, h.enq, spend_fuse h.hf, hsp, fun j hj => Nat.le_succ_of_le (h.hl j hj), hN⟩, h4⟩
    · have e : wr1 m i xs = (80, { m with s := m.s.spend }) := by unfold wr1; rw [if_neg (by rw [ho]; decide), if_pos hg]
      rw [e]
      exact (rwrite_goes x h.qw h.hf hdone ho i hi B (by omega) hg).mono fun e w' ⟨h1, h2, h3, h4⟩ => by
        subst h1
        exact ⟨rfl, h.pow h2 h3 (Nat.le_succ _) hN hsp (spend_fuse h.hf)⟩
  · have e : wr1 m i xs = (80, m) := by unfold wr1; rw [if_pos ho]
    rw [e]
    exact (rwrite_off x h.qw ho _ _).mono fun e w' ⟨h1, h2⟩ => by subst h1 h2; exact ⟨rfl, h.ext (Nat.le_succ _) hN⟩
theorem flushS_len (S : Nat → Sec) (j : Nat) : (flushS S j).loose.length = 0 := by rw [flushS_loose]; rfl
theorem RD.flush (h : RD w G E q n N m) (hN : N + 1 ≤ 1000000) :
    Calls Tryz.prog 45 #[.pointer (some ⟨E, 0, none⟩)] w fun e w' => e = .returned (.int .i64 (fl1 m).1) ∧ RD w' (Ext G w w') E q n (N + 1) (fl1 m).2 ∧ Chg (Al G q) w w' := by
  obtain ⟨gs, vs, x⟩ := h.rv
  have hdone : m.s.done < 1000000000000 := by have := h.hs; have := h.hN; omega
  have hsp : m.s.spend.done ≤ N + 1 := Nat.le_trans m.s.done_le (by have := h.hs; omega)
  cases ho : m.s.off
  · cases hg : m.s.goes
    · have e : fl1 m = (0, { m with s := m.s.spend, S := flushS m.S }) := by unfold fl1; rw [if_neg (by rw [ho]; decide), if_neg (by rw [hg]; decide)]
      rw [e]
      exact (rflush_ok x h.nq h.qw h.hf hdone ho hg).mono fun e w' ⟨h1, h2, ⟨vs', h3⟩, h4⟩ => by
        subst h1
        refine ⟨rfl, ⟨h2, ⟨_, _, h3.frame (fun _ x => .inl x) (fun k y => y.elim (fun z => Nat.lt_of_lt_of_le (h.bound k (.inl z)) h4.size) (fun z => z.2)) (fun _ _ => rfl)⟩, h.enq, spend_fuse h.hf, hsp, fun j hj => by rw [flushS_len]; omega, hN⟩, h4.mono (fun b _ e => e.elim .inr (fun e => .inl (e ▸ x.inG.2)))⟩
    · have e : fl1 m = (80, { m with s := m.s.spend }) := by unfold fl1; rw [if_neg (by rw [ho]; decide), if_pos hg]
      rw [e]
      exact (rflush_goes x h.qw h.hf hdone ho hg).mono fun e w' ⟨h1, h2, h3, h4⟩ => by
        subst h1
        exact ⟨rfl, h.pow h2 h3 (Nat.le_succ _) hN hsp (spend_fuse h.hf)⟩
  · have e : fl1 m = (80, m) := by unfold fl1; rw [if_pos ho]
    rw [e]
    exact (rflush_off x h.qw ho).mono fun e w' ⟨h1, h2⟩ => by subst h1 h2; exact ⟨rfl, h.ext (Nat.le_succ _) hN⟩
end
end Go.Proofs.YtapklelkcicjlaaGreatDoor.Pd
