/-
  What stands on a device that bears a table: plain facts. No conditions.
-/
import Derived.Test.YtgdgehfapfgdfaaGreatDoorGbRbump
namespace Go.Proofs.YtgdgehfapfgdfaaGreatDoor.Tb
open Go.RowKit Oc Dm W Dw
set_option linter.unusedVariables false

/-! a copy that tells a page -/
def Reads (x : List UInt8) (p : Gp) : Prop := (gd x p.no).2 = 0 ∧ Like p (gd x p.no).1
theorem reads_sect {p : Gp} (h : MayBe p) : Reads (sect p) p := by
  unfold Reads gd
  rw [if_neg (fun h2 => h2 (sect_get p)), sect_got]
  have hd := dec_pay h
  have h2 : MayBe (dec (pay p 6)) ∧ (dec (pay p 6)).no = p.no := by
    refine ⟨⟨by rw [← hd.1]; exact h.1, by rw [← hd.2.1]; exact h.2.1, fun i hi => by rw [← hd.2.2 i hi]; exact h.2.2 i hi⟩, hd.1.symm⟩
  rw [if_pos h2]
  exact ⟨rfl, hd⟩
set_option maxRecDepth 100000 in
theorem gd_zs (no : Int) : (gd zs no).2 ≠ 0 := by
  unfold gd
  have h : getE zs 1 ≠ 0 := by
    unfold getE
    rw [if_neg (by decide)]
    split
    · assumption
    · rename_i h2
      have h2 := Classical.not_not.1 h2
      rw [if_neg]
      · decide
      · rintro ⟨_, h3⟩
        have e : kindL (openL zs) = 0 := by
          unfold openL
          rw [if_pos h2]
          rfl
        rw [e] at h3
        cases h3
  rw [if_pos h]
  exact h
theorem Like.symm' {p q : Gp} (h : Like p q) : Like q p := ⟨h.1.symm, h.2.1.symm, fun i hi => (h.2.2 i hi).symm⟩
theorem Like.trans' {p q r : Gp} (h : Like p q) (k : Like q r) : Like p r := ⟨h.1.trans k.1, h.2.1.trans k.2.1, fun i hi => (h.2.2 i hi).trans (k.2.2 i hi)⟩
/-- what the other copy may tell -/
def FineB (Nx : Gp → Gp → Prop) (p : Gp) (x : List UInt8) : Prop := (gd x p.no).2 = 0 → ((gd x p.no).1.v < p.v ∨ ((gd x p.no).1.v = p.v + 1 ∧ Nx p (gd x p.no).1))
theorem FineB.mono {Nx Nx' : Gp → Gp → Prop} {p : Gp} {x : List UInt8} (h : FineB Nx p x) (hN : ∀ q, Nx p q → Nx' p q) : FineB Nx' p x := fun h0 => (h h0).imp id (fun y => ⟨y.1, hN _ y.2⟩)
/-- where its other copy stands -/
def oth (ga : Nat) (p : Gp) : Nat := ga + 2 * p.no.toNat + (p.v + 1) % 2
structure Cp (Nx : Gp → Gp → Prop) (ga : Nat) (S : Nat → Sec) (p : Gp) : Prop where
  cl : (S (spot ga p)).loose = []
  cf : Reads (S (spot ga p)).fixed p
  of_ : FineB Nx p (S (oth ga p)).fixed
  ol : ∀ x ∈ (S (oth ga p)).loose, FineB Nx p x
def Inv (Nx : Gp → Gp → Prop) (ga np : Nat) (S : Nat → Sec) (L : List Gp) : Prop := Pages L np ∧ ∀ (j : Nat) (p : Gp), L[j]? = some p → Cp Nx ga S p
theorem Cp.mono {Nx Nx' : Gp → Gp → Prop} {ga : Nat} {S : Nat → Sec} {p : Gp} (h : Cp Nx ga S p) (hN : ∀ q, Nx p q → Nx' p q) : Cp Nx' ga S p := ⟨h.cl, h.cf, h.of_.mono hN, fun x hx => (h.ol x hx).mono hN⟩
theorem Cp.congr {Nx : Gp → Gp → Prop} {ga : Nat} {S S' : Nat → Sec} {p : Gp} (h : Cp Nx ga S p) (e1 : S' (spot ga p) = S (spot ga p)) (e2 : S' (oth ga p) = S (oth ga p)) : Cp Nx ga S' p :=
  ⟨by rw [e1]; exact h.cl, by rw [e1]; exact h.cf, by rw [e2]; exact h.of_, by rw [e2]; exact h.ol⟩
theorem spot_oth (ga : Nat) (p : Gp) : spot ga p ≠ oth ga p := by unfold spot oth; omega
theorem spot_next {ga : Nat} {p q : Gp} (hn : q.no = p.no) (hv : q.v = p.v + 1) : spot ga q = oth ga p ∧ oth ga q = spot ga p := by
  unfold spot oth
  rw [hn, hv]
  constructor
  · rfl
  · omega
theorem spot_far {ga : Nat} {p q : Gp} {i j : Nat} (hp : p.no = (i : Int)) (hq : q.no = (j : Int)) (h : i ≠ j) : spot ga q ≠ spot ga p ∧ spot ga q ≠ oth ga p := by
  unfold spot oth
  rw [hp, hq]
  constructor <;> omega
theorem stands_last {s : Sec} (h : s.loose ≠ []) : s.stands ∈ s.loose := by
  rw [Sec.stands_loose h]
  have : s.loose.length - 1 < s.loose.length := by have := List.length_pos_iff.2 h; omega
  simp [List.getD, this]
theorem flushS_fixed (S : Nat → Sec) (i : Nat) : (flushS S i).fixed = (S i).stands := by
  unfold flushS
  split
  · rename_i h; exact (Sec.stands_fixed h).symm
  · rfl
/-- each copy behind a flush -/
theorem Cp.flush {Nx : Gp → Gp → Prop} {ga : Nat} {S : Nat → Sec} {p : Gp} (h : Cp Nx ga S p) : Cp Nx ga (flushS S) p := by
  refine ⟨flushS_loose _ _, ?_, ?_, fun x hx => by rw [flushS_loose] at hx; cases hx⟩
  · rw [flushS_fixed, Sec.stands_fixed h.cl]; exact h.cf
  · rw [flushS_fixed]
    by_cases hl : (S (oth ga p)).loose = []
    · rw [Sec.stands_fixed hl]; exact h.of_
    · exact h.ol _ (stands_last hl)
theorem wrote_same (S : Nat → Sec) (i : Nat) (x : List UInt8) : wrote S i x i = ⟨(S i).fixed, (S i).loose ++ [x], (S i).rotten⟩ := Dm.upd_same _ _ _
theorem wrote_other (S : Nat → Sec) {i j : Nat} (x : List UInt8) (h : j ≠ i) : wrote S i x j = S j := Dm.upd_other _ _ h
/-- a page of its next version is written -/
theorem Cp.write {Nx : Gp → Gp → Prop} {ga : Nat} {S : Nat → Sec} {p : Gp} (h : Cp Nx ga S p) {i : Nat} {x : List UInt8} (hi : i = oth ga p) (hx : FineB Nx p x) : Cp Nx ga (wrote S i x) p := by
  subst hi
  have e1 := wrote_other S x (spot_oth ga p)
  refine ⟨by rw [e1]; exact h.cl, by rw [e1]; exact h.cf, by rw [wrote_same]; exact h.of_, fun y hy => ?_⟩
  rw [wrote_same] at hy
  rcases List.mem_append.1 hy with hy | hy
  · exact h.ol y hy
  · rw [List.mem_singleton] at hy; subst hy; exact hx
theorem Cp.write_far {Nx : Gp → Gp → Prop} {ga : Nat} {S : Nat → Sec} {p : Gp} (h : Cp Nx ga S p) {i : Nat} (x : List UInt8) (h1 : i ≠ spot ga p) (h2 : i ≠ oth ga p) : Cp Nx ga (wrote S i x) p :=
  h.congr (wrote_other _ _ (Ne.symm h1)) (wrote_other _ _ (Ne.symm h2))
theorem wr1_S (m : Vs) (i : Nat) (x : List UInt8) : ((wr1 m i x).1 = 0 ∧ (wr1 m i x).2.S = wrote m.S i x) ∨ (¬ (wr1 m i x).1 = 0 ∧ (wr1 m i x).2.S = m.S) := by
  unfold wr1
  split
  · exact .inr ⟨(show ¬ (80 : Int) = 0 by decide), rfl⟩
  · split
    · exact .inr ⟨(show ¬ (80 : Int) = 0 by decide), rfl⟩
    · split
      · exact .inr ⟨(show ¬ (81 : Int) = 0 by decide), rfl⟩
      · exact .inl ⟨rfl, rfl⟩
theorem fl1_S (m : Vs) : ((fl1 m).1 = 0 ∧ (fl1 m).2.S = flushS m.S) ∨ (¬ (fl1 m).1 = 0 ∧ (fl1 m).2.S = m.S) := by
  unfold fl1
  split
  · exact .inr ⟨(show ¬ (80 : Int) = 0 by decide), rfl⟩
  · split
    · exact .inr ⟨(show ¬ (80 : Int) = 0 by decide), rfl⟩
    · exact .inl ⟨rfl, rfl⟩
/-! pages that are written, one behind the other: f tells the page of each number -/
def jobsOf (ga : Nat) (f : Nat → Gp) (js : List Nat) : List (Nat × List UInt8) := js.map fun j => job ga (f j)
/-- whatever fails, each page keeps its copy -/
theorem puts_inv {Nx : Gp → Gp → Prop} {ga np : Nat} {L : List Gp} {f : Nat → Gp} : ∀ (js : List Nat) (m : Vs), Inv Nx ga np m.S L → (∀ j ∈ js, ∃ p, L[j]? = some p ∧ (f j).no = p.no ∧ (f j).v = p.v + 1 ∧ FineB Nx p (sect (f j))) → Inv Nx ga np (puts (jobsOf ga f js) m).2.S L
  | [], m, hi, _ => by
    show Inv Nx ga np (fl1 m).2.S L
    rcases fl1_S m with ⟨_, h⟩ | ⟨_, h⟩
    · rw [h]; exact ⟨hi.1, fun j p hp => (hi.2 j p hp).flush⟩
    · rw [h]; exact hi
  | j :: js, m, hi, hj => by
    obtain ⟨p, hp, h1, h2, h3⟩ := hj j (List.mem_cons_self ..)
    have hno := (hi.1.2 j p hp).2
    rcases wr1_S m (spot ga (f j)) (sect (f j)) with ⟨h0, hS⟩ | ⟨h0, hS⟩
    · show Inv Nx ga np (puts ((spot ga (f j), sect (f j)) :: jobsOf ga f js) m).2.S L
      rw [puts_ok h0]
      refine puts_inv js _ ?_ (fun j' hj' => hj j' (List.mem_cons_of_mem _ hj'))
      show Inv Nx ga np (wr1 m (spot ga (f j)) (sect (f j))).2.S L
      rw [hS]
      refine ⟨hi.1, fun i q hq => ?_⟩
      by_cases e : i = j
      · subst e
        rw [hp] at hq
        injection hq with hq
        subst hq
        exact (hi.2 i p hp).write (spot_next h1 h2).1 h3
      · have hq2 := (hi.1.2 i q hq).2
        have := spot_far (ga := ga) (p := q) (q := f j) hq2 (h1.trans hno) e
        exact (hi.2 i q hq).write_far _ this.1 this.2
    · show Inv Nx ga np (puts ((spot ga (f j), sect (f j)) :: jobsOf ga f js) m).2.S L
      rw [puts_no h0]
      show Inv Nx ga np (wr1 m (spot ga (f j)) (sect (f j))).2.S L
      rw [hS]
      exact hi
/-- a page whose next one is written -/
structure Wr (ga : Nat) (S : Nat → Sec) (p q : Gp) : Prop where
  cl : (S (spot ga p)).loose = []
  cf : Reads (S (spot ga p)).fixed p
  nl : (S (spot ga q)).loose ≠ []
  ns : (S (spot ga q)).stands = sect q
theorem stands_wrote (S : Nat → Sec) (i : Nat) (x : List UInt8) : (wrote S i x i).loose ≠ [] ∧ (wrote S i x i).stands = x := by
  rw [wrote_same]
  refine ⟨by simp, ?_⟩
  rw [Sec.stands_loose (by simp)]
  simp
theorem Wr.flush {Nx : Gp → Gp → Prop} {ga : Nat} {S : Nat → Sec} {p q : Gp} (h : Wr ga S p q) (hn : q.no = p.no) (hv : q.v = p.v + 1) (hm : MayBe q) : Cp Nx ga (flushS S) q := by
  obtain ⟨e1, e2⟩ := spot_next (ga := ga) hn hv
  refine ⟨flushS_loose _ _, ?_, ?_, fun x hx => by rw [flushS_loose] at hx; cases hx⟩
  · rw [flushS_fixed, h.ns]; exact reads_sect hm
  · rw [e2, flushS_fixed, Sec.stands_fixed h.cl]
    intro _
    refine .inl ?_
    rw [hn, ← h.cf.2.2.1, hv]
    omega
theorem puts_done {Nx : Gp → Gp → Prop} {ga np : Nat} {L : List Gp} {f : Nat → Gp} (hL : Pages L np) : ∀ (js : List Nat) (m : Vs) (ds : Nat → Prop), js.Nodup → (∀ j ∈ js, ¬ ds j) →
    (∀ (j : Nat) (p : Gp), L[j]? = some p → (ds j → Wr ga m.S p (f j)) ∧ (¬ ds j → Cp Nx ga m.S p)) → (∀ j ∈ js, ∃ p, L[j]? = some p) → (∀ (j : Nat) (p : Gp), L[j]? = some p → (j ∈ js ∨ ds j) → (f j).no = p.no ∧ (f j).v = p.v + 1) →
    (puts (jobsOf ga f js) m).1 = 0 → ∃ S1, (puts (jobsOf ga f js) m).2.S = flushS S1 ∧ ∀ (j : Nat) (p : Gp), L[j]? = some p → ((j ∈ js ∨ ds j) → Wr ga S1 p (f j)) ∧ (¬ (j ∈ js ∨ ds j) → Cp Nx ga S1 p)
  | [], m, ds, _, _, hd, _, _, h0 => by
    rcases fl1_S m with ⟨_, h⟩ | ⟨h, _⟩
    · exact ⟨m.S, h, fun j p hp => ⟨fun x => (hd j p hp).1 (x.elim (fun y => by cases y) id), fun x => (hd j p hp).2 (fun y => x (.inr y))⟩⟩
    · exact absurd h0 h
  | j :: js, m, ds, hn, hx, hd, hp', hf, h0 => by
    have hn2 := List.nodup_cons.1 hn
    obtain ⟨p, hp⟩ := hp' j (List.mem_cons_self ..)
    have hnd := hx j (List.mem_cons_self ..)
    obtain ⟨f1, f2⟩ := hf j p hp (.inl (List.mem_cons_self ..))
    have hno := (hL.2 j p hp).2
    have h0' : (puts ((spot ga (f j), sect (f j)) :: jobsOf ga f js) m).1 = 0 := h0
    have goal : ∃ S1, (puts ((spot ga (f j), sect (f j)) :: jobsOf ga f js) m).2.S = flushS S1 ∧ ∀ (j' : Nat) (p : Gp), L[j']? = some p → ((j' ∈ j :: js ∨ ds j') → Wr ga S1 p (f j')) ∧ (¬ (j' ∈ j :: js ∨ ds j') → Cp Nx ga S1 p) := by
      rcases wr1_S m (spot ga (f j)) (sect (f j)) with ⟨w0, hS⟩ | ⟨w0, hS⟩
      · rw [puts_ok w0] at h0' ⊢
        obtain ⟨S1, e1, e2⟩ := puts_done hL js _ (fun i => ds i ∨ i = j) hn2.2 (fun i hi y => y.elim (hx i (List.mem_cons_of_mem _ hi)) (fun e => hn2.1 (e ▸ hi))) (fun i q hq => by
          show (_ → Wr ga (wr1 m (spot ga (f j)) (sect (f j))).2.S q (f i)) ∧ (_ → Cp Nx ga (wr1 m (spot ga (f j)) (sect (f j))).2.S q)
          rw [hS]
          have hq2 := (hL.2 i q hq).2
          by_cases e : i = j
          · subst e
            rw [hp] at hq
            injection hq with hq
            subst hq
            have hc := (hd i p hp).2 hnd
            obtain ⟨s1, s2⟩ := spot_next (ga := ga) f1 f2
            obtain ⟨t1, t2⟩ := stands_wrote m.S (spot ga (f i)) (sect (f i))
            have o := wrote_other m.S (sect (f i)) (show spot ga p ≠ spot ga (f i) by rw [s1]; exact spot_oth ga p)
            exact ⟨fun _ => ⟨by rw [o]; exact hc.cl, by rw [o]; exact hc.cf, t1, t2⟩, fun x => absurd (.inr rfl) x⟩
          · have far := spot_far (ga := ga) (p := q) (q := f j) hq2 (f1.trans hno) e
            refine ⟨fun x => ?_, fun x => ((hd i q hq).2 (fun y => x (.inl y))).write_far _ far.1 far.2⟩
            have hdi : ds i := x.elim id (fun y => absurd y e)
            have hw := (hd i q hq).1 hdi
            obtain ⟨g1, g2⟩ := hf i q hq (.inr hdi)
            obtain ⟨s1, s2⟩ := spot_next (ga := ga) g1 g2
            have o1 := wrote_other m.S (sect (f j)) (Ne.symm far.1)
            have o2 := wrote_other m.S (sect (f j)) (show spot ga (f i) ≠ spot ga (f j) by rw [s1]; exact Ne.symm far.2)
            exact ⟨by rw [o1]; exact hw.cl, by rw [o1]; exact hw.cf, by rw [o2]; exact hw.nl, by rw [o2]; exact hw.ns⟩) (fun i hi => hp' i (List.mem_cons_of_mem _ hi)) (fun i q hq x => hf i q hq (x.elim (fun y => .inl (List.mem_cons_of_mem _ y)) (fun y => y.elim .inr (fun e => .inl (e ▸ List.mem_cons_self ..))))) h0'
        refine ⟨S1, e1, fun i q hq => ⟨fun x => (e2 i q hq).1 ?_, fun x => (e2 i q hq).2 (fun y => x ?_)⟩⟩
        · rcases x with x | x
          · rcases List.mem_cons.1 x with e | y
            · exact .inr (.inr e)
            · exact .inl y
          · exact .inr (.inl x)
        · rcases y with y | y | y
          · exact .inl (List.mem_cons_of_mem _ y)
          · exact .inr y
          · exact .inl (y ▸ List.mem_cons_self ..)
      · rw [puts_no w0] at h0'
        exact absurd h0' w0
    exact goal
end Go.Proofs.YtgdgehfapfgdfaaGreatDoor.Tb
