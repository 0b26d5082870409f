/-
  Format, Open and Bump where nothing fails, and what they leave: plain facts. No conditions.
-/
import Derived.Test.YtgdgehfapfgdfaaGreatDoorGbInv
namespace Go.Proofs.YtgdgehfapfgdfaaGreatDoor.Tb
open Go.RowKit Oc Dm W Dw
set_option linter.unusedVariables false

structure Quiet (m : Vs) : Prop where
  off : m.s.off = false
  fuse : m.s.fuse = none
  rd : m.rd = 0
  wr : m.wr = 0
theorem Quiet.goes {m : Vs} (h : Quiet m) : m.s.goes = false := by unfold PS.goes; rw [h.fuse]; rfl
theorem Quiet.spend {m : Vs} (h : Quiet m) : m.s.spend = { m.s with done := m.s.done + 1 } := by
  have hf := h.fuse
  obtain ⟨⟨off, fuse, done⟩, S, rd, wr⟩ := m
  dsimp only at hf
  subst hf
  rfl
theorem wr1_quiet {m : Vs} (h : Quiet m) (i : Nat) (x : List UInt8) : (wr1 m i x).1 = 0 ∧ Quiet (wr1 m i x).2 ∧ (wr1 m i x).2.s.done = m.s.done + 1 := by
  have e : wr1 m i x = (0, { m with s := m.s.spend, S := wrote m.S i x, wr := m.wr / 2 }) := by
    unfold wr1
    rw [if_neg (by rw [h.off]; decide), if_neg (by rw [h.goes]; decide), if_neg (by rw [h.wr]; decide)]
  rw [e]
  refine ⟨rfl, ⟨?_, ?_, h.rd, ?_⟩, ?_⟩
  · show m.s.spend.off = false; rw [h.spend]; exact h.off
  · show m.s.spend.fuse = none; rw [h.spend]; exact h.fuse
  · show m.wr / 2 = 0; rw [h.wr]
  · show m.s.spend.done = _; rw [h.spend]
theorem fl1_quiet {m : Vs} (h : Quiet m) : (fl1 m).1 = 0 ∧ Quiet (fl1 m).2 ∧ (fl1 m).2.s.done = m.s.done + 1 := by
  have e : fl1 m = (0, { m with s := m.s.spend, S := flushS m.S }) := by
    unfold fl1
    rw [if_neg (by rw [h.off]; decide), if_neg (by rw [h.goes]; decide)]
  rw [e]
  refine ⟨rfl, ⟨?_, ?_, h.rd, h.wr⟩, ?_⟩
  · show m.s.spend.off = false; rw [h.spend]; exact h.off
  · show m.s.spend.fuse = none; rw [h.spend]; exact h.fuse
  · show m.s.spend.done = _; rw [h.spend]
theorem puts_quiet : ∀ (l : List (Nat × List UInt8)) (m : Vs), Quiet m → (puts l m).1 = 0 ∧ Quiet (puts l m).2 ∧ (puts l m).2.s.done = m.s.done + l.length + 1
  | [], m, h => fl1_quiet h
  | x :: l, m, h => by
    obtain ⟨h1, h2, h3⟩ := wr1_quiet h x.1 x.2
    rw [puts_ok h1]
    obtain ⟨k1, k2, k3⟩ := puts_quiet l _ h2
    exact ⟨k1, k2, by rw [k3, h3, List.length_cons]; omega⟩
def freshL (np : Nat) : List Gp := (List.range np).map fresh
theorem freshL_at {np j : Nat} {p : Gp} (h : (freshL np)[j]? = some p) : j < np ∧ p = fresh j := by
  unfold freshL at h
  rw [List.getElem?_map] at h
  by_cases hj : j < np
  · simp [hj] at h; exact ⟨hj, h.symm⟩
  · simp [hj] at h
theorem freshL_get {np j : Nat} (h : j < np) : (freshL np)[j]? = some (fresh j) := by simp [freshL, h]
theorem freshL_pages {np : Nat} (h : np ≤ 4096) : Pages (freshL np) np := ⟨by simp [freshL], fun i p hp => by
  obtain ⟨h1, rfl⟩ := freshL_at hp
  exact ⟨fresh_may (by omega), rfl⟩⟩
def No2 : Gp → Gp → Prop := fun _ _ => False
theorem spot_fresh (ga j : Nat) : spot ga (fresh j) = ga + 2 * j + 1 ∧ oth ga (fresh j) = ga + 2 * j := by
  unfold spot oth fresh
  constructor
  · show ga + 2 * ((j : Int)).toNat + 1 % 2 = _; omega
  · show ga + 2 * ((j : Int)).toNat + (1 + 1) % 2 = _; omega
theorem fput_done {ga : Nat} : ∀ (js : List Nat) (m : Vs) (ds : Nat → Prop), js.Nodup → (∀ j ∈ js, ¬ ds j) →
    (∀ j, (ds j → (m.S (ga + 2 * j + 1)).loose ≠ [] ∧ (m.S (ga + 2 * j + 1)).stands = sect (fresh j)) ∧ m.S (ga + 2 * j) = sec0) →
    (puts (jobsOf ga fresh js) m).1 = 0 → ∃ S1, (puts (jobsOf ga fresh js) m).2.S = flushS S1 ∧ ∀ j, ((j ∈ js ∨ ds j) → (S1 (ga + 2 * j + 1)).loose ≠ [] ∧ (S1 (ga + 2 * j + 1)).stands = sect (fresh j)) ∧ S1 (ga + 2 * j) = sec0
  | [], m, ds, _, _, hd, h0 => by
    rcases fl1_S m with ⟨_, h⟩ | ⟨h, _⟩
    · exact ⟨m.S, h, fun j => ⟨fun x => (hd j).1 (x.elim (fun y => by cases y) id), (hd j).2⟩⟩
    · exact absurd h0 h
  | j :: js, m, ds, hn, hx, hd, h0 => by
    have hn2 := List.nodup_cons.1 hn
    have hs := (spot_fresh ga j).1
    have h0' : (puts ((spot ga (fresh j), sect (fresh j)) :: jobsOf ga fresh js) m).1 = 0 := h0
    show ∃ S1, (puts ((spot ga (fresh j), sect (fresh j)) :: jobsOf ga fresh js) m).2.S = flushS S1 ∧ _
    rcases wr1_S m (spot ga (fresh j)) (sect (fresh j)) with ⟨w0, hS⟩ | ⟨w0, hS⟩
    · rw [puts_ok w0] at h0' ⊢
      obtain ⟨S1, e1, e2⟩ := fput_done (ga := ga) js _ (fun i => ds i ∨ i = j) hn2.2 (fun i hi y => y.elim (hx i (List.mem_cons_of_mem _ hi)) (fun e => hn2.1 (e ▸ hi))) (fun i => by
        show (_ → ((wr1 m (spot ga (fresh j)) (sect (fresh j))).2.S _).loose ≠ [] ∧ ((wr1 m (spot ga (fresh j)) (sect (fresh j))).2.S _).stands = _) ∧ (wr1 m (spot ga (fresh j)) (sect (fresh j))).2.S _ = _
        rw [hS, hs]
        refine ⟨fun x => ?_, by rw [wrote_other _ _ (by omega)]; exact (hd i).2⟩
        by_cases e : i = j
        · subst e; exact stands_wrote _ _ _
        · rw [wrote_other _ _ (by omega)]
          exact (hd i).1 (x.elim id (fun y => absurd y e))) h0'
      refine ⟨S1, e1, fun i => ⟨fun x => (e2 i).1 ?_, (e2 i).2⟩⟩
      rcases x with x | x
      · rcases List.mem_cons.1 x with e | y
        · exact .inr (.inr e)
        · exact .inl y
      · exact .inr (.inl x)
    · rw [puts_no w0] at h0'
      exact absurd h0' w0
theorem fmt_done {ga np : Nat} {m : Vs} (hn : np ≤ 4096) (hq : Quiet m) (hS : ∀ i, m.S i = sec0) : (fmt ga np m).1 = 0 ∧ Quiet (fmt ga np m).2 ∧ (fmt ga np m).2.s.done = m.s.done + np + 1 ∧ Inv No2 ga np (fmt ga np m).2.S (freshL np) ∧ ∀ i, ((fmt ga np m).2.S i).loose = [] := by
  obtain ⟨h1, h2, h3⟩ := puts_quiet (jobsOf ga fresh (List.range np)) m hq
  obtain ⟨S1, e1, e2⟩ := fput_done (ga := ga) (List.range np) m (fun _ => False) List.nodup_range (fun _ _ h => h) (fun j => ⟨fun h => h.elim, hS _⟩) h1
  refine ⟨h1, h2, ?_, ⟨freshL_pages hn, fun j p hp => ?_⟩, fun i => ?_⟩
  · have : (jobsOf ga fresh (List.range np)).length = np := by simp [jobsOf]
    rw [this] at h3
    exact h3
  · obtain ⟨hj, rfl⟩ := freshL_at hp
    have e1' : (fmt ga np m).2.S = flushS S1 := e1
    rw [e1']
    obtain ⟨s1, s2⟩ := spot_fresh ga j
    obtain ⟨g1, g2⟩ := (e2 j).1 (.inl (List.mem_range.2 hj))
    have g3 := (e2 j).2
    refine ⟨flushS_loose _ _, ?_, ?_, fun x hx => by rw [flushS_loose] at hx; cases hx⟩
    · rw [s1, flushS_fixed, g2]; exact reads_sect (fresh_may (by omega))
    · rw [s2, flushS_fixed, g3]
      intro h
      exact absurd h (gd_zs _)
  · have e1' : (fmt ga np m).2.S = flushS S1 := e1
    rw [e1']
    exact flushS_loose _ _

/-! opening -/
theorem rd1_quiet {m : Vs} (ho : m.s.off = false) (hr : m.rd = 0) (i : Nat) : rd1 m i = (0, (m.S i).stands, m) := by
  unfold rd1
  rw [if_neg (by rw [ho]; decide), if_neg (by rw [hr]; decide)]
  obtain ⟨s, S, rd, wr⟩ := m
  dsimp only at hr
  subst hr
  simp
theorem spot_like {ga : Nat} {p q : Gp} (h : Like p q) : spot ga q = spot ga p ∧ oth ga q = oth ga p := by
  unfold spot oth
  rw [h.1, h.2.1]
  exact ⟨rfl, rfl⟩
theorem pick_even {Nx : Gp → Gp → Prop} {p : Gp} {a b : List UInt8} (ha : Reads a p) (hb : FineB Nx p b) : ∃ k, pk a b p.no = ((if (gd b p.no).2 = 0 ∧ (gd b p.no).1.v = p.v + 1 then (gd b p.no).1 else (gd a p.no).1), k, true) := by
  unfold pk nw
  rw [if_pos ha.1]
  have hv := ha.2.2.1
  by_cases h : (gd b p.no).2 = 0
  · rcases hb h with h2 | ⟨h2, _⟩
    · rw [if_neg (fun x => by have := x.2; omega), if_neg (fun x => by have := x.2; omega)]; exact ⟨_, rfl⟩
    · rw [if_pos ⟨h, by omega⟩, if_pos ⟨h, h2⟩]; exact ⟨_, rfl⟩
  · rw [if_neg (fun x => h x.1), if_neg (fun x => h x.1)]; exact ⟨_, rfl⟩
theorem pick_odd {Nx : Gp → Gp → Prop} {p : Gp} {a b : List UInt8} (hb : Reads b p) (ha : FineB Nx p a) : ∃ k, pk a b p.no = ((if (gd a p.no).2 = 0 ∧ (gd a p.no).1.v = p.v + 1 then (gd a p.no).1 else (gd b p.no).1), k, true) := by
  unfold pk nw
  have hv := hb.2.2.1
  by_cases h : (gd a p.no).2 = 0
  · rw [if_pos h]
    rcases ha h with h2 | ⟨h2, _⟩
    · rw [if_pos ⟨hb.1, by omega⟩, if_neg (fun x => by have := x.2; omega)]; exact ⟨_, rfl⟩
    · rw [if_neg (fun x => by have := x.2; omega), if_pos ⟨h, h2⟩]; exact ⟨_, rfl⟩
  · rw [if_neg h, if_pos hb.1, if_neg (fun x => h x.1)]; exact ⟨_, rfl⟩
def Dry (ga np : Nat) (S : Nat → Sec) : Prop := ∀ j, j < np → (S (ga + 2 * j)).loose = [] ∧ (S (ga + 2 * j + 1)).loose = []
/-- the page that is found where p stood, or its next -/
def Got (Nx : Gp → Gp → Prop) (p q : Gp) : Prop := Like p q ∨ (q.no = p.no ∧ q.v = p.v + 1 ∧ Nx p q)
theorem on1_inv {Nx : Gp → Gp → Prop} {ga np : Nat} {m : Vs} {p : Gp} {j : Nat} (ho : m.s.off = false) (hr : m.rd = 0) (hd : Dry ga np m.S) (hj : j < np) (hno : p.no = (j : Int)) (hc : Cp Nx ga m.S p) :
    ∃ q, on1 ga m j = (0, q, m) ∧ Got Nx p q ∧ Cp No2 ga m.S q ∧ MayBe q ∧ q.no = (j : Int) := by
  obtain ⟨d1, d2⟩ := hd j hj
  have hat : spot ga p = ga + 2 * j + p.v % 2 ∧ oth ga p = ga + 2 * j + (p.v + 1) % 2 := by
    unfold spot oth
    rw [hno]
    exact ⟨rfl, rfl⟩
  -- what is found
  have key : ∃ k, pk (m.S (ga + 2 * j)).stands (m.S (ga + 2 * j + 1)).stands p.no = ((if (gd (m.S (oth ga p)).fixed p.no).2 = 0 ∧ (gd (m.S (oth ga p)).fixed p.no).1.v = p.v + 1 then (gd (m.S (oth ga p)).fixed p.no).1 else (gd (m.S (spot ga p)).fixed p.no).1), k, true) := by
    rw [Sec.stands_fixed d1, Sec.stands_fixed d2]
    rcases Nat.mod_two_eq_zero_or_one p.v with h | h
    · have e1 : spot ga p = ga + 2 * j := by rw [hat.1]; omega
      have e2 : oth ga p = ga + 2 * j + 1 := by rw [hat.2]; omega
      have k := pick_even hc.cf hc.of_
      rw [e1, e2] at k
      rw [e1, e2]
      exact k
    · have e1 : spot ga p = ga + 2 * j + 1 := by rw [hat.1]; omega
      have e2 : oth ga p = ga + 2 * j := by rw [hat.2]; omega
      have k := pick_odd hc.cf hc.of_
      rw [e1, e2] at k
      rw [e1, e2]
      exact k
  obtain ⟨k, key⟩ := key
  have hon : ∀ q, (if (gd (m.S (oth ga p)).fixed p.no).2 = 0 ∧ (gd (m.S (oth ga p)).fixed p.no).1.v = p.v + 1 then (gd (m.S (oth ga p)).fixed p.no).1 else (gd (m.S (spot ga p)).fixed p.no).1) = q → on1 ga m j = (0, q, m) := fun q e => by
    rw [e] at key
    unfold on1
    rw [rd1_quiet ho hr]
    dsimp only
    rw [rd1_quiet ho hr]
    dsimp only
    rw [← hno, key]
    rw [if_neg (fun h => h rfl), if_neg (fun h => h rfl), if_pos rfl]
  have dry : ∀ x, x = ga + 2 * j ∨ x = ga + 2 * j + 1 → (m.S x).loose = [] := fun x h => h.elim (fun e => e ▸ d1) (fun e => e ▸ d2)
  have ds : (m.S (spot ga p)).loose = [] := hc.cl
  have do_ : (m.S (oth ga p)).loose = [] := dry _ (by rw [hat.2]; omega)
  by_cases h : (gd (m.S (oth ga p)).fixed p.no).2 = 0 ∧ (gd (m.S (oth ga p)).fixed p.no).1.v = p.v + 1
  · obtain ⟨g1, g2⟩ := gd_may h.1
    have hN : Nx p (gd (m.S (oth ga p)).fixed p.no).1 := by
      rcases hc.of_ h.1 with h3 | h3
      · have := h.2; omega
      · exact h3.2
    refine ⟨(gd (m.S (oth ga p)).fixed p.no).1, hon _ (if_pos h), .inr ⟨g2, h.2, hN⟩, ?_, g1, g2.trans hno⟩
    obtain ⟨s1, s2⟩ := spot_next (ga := ga) g2 h.2
    refine ⟨by rw [s1]; exact do_, ?_, ?_, fun x hx => by rw [s2, ds] at hx; cases hx⟩
    · rw [s1]
      unfold Reads
      rw [g2]
      exact ⟨h.1, Like.refl _⟩
    · rw [s2]
      intro _
      refine .inl ?_
      rw [g2, ← hc.cf.2.2.1, h.2]
      omega
  · obtain ⟨g1, g2⟩ := gd_may hc.cf.1
    have hl := hc.cf.2
    refine ⟨(gd (m.S (spot ga p)).fixed p.no).1, hon _ (if_neg h), .inl hl, ?_, g1, g2.trans hno⟩
    obtain ⟨s1, s2⟩ := spot_like (ga := ga) hl
    refine ⟨by rw [s1]; exact ds, ?_, ?_, fun x hx => by rw [s2, do_] at hx; cases hx⟩
    · rw [s1]
      unfold Reads
      rw [g2]
      exact ⟨hc.cf.1, Like.refl _⟩
    · rw [s2]
      intro h0
      rw [g2] at h0 ⊢
      refine .inl ?_
      rw [← hl.2.1]
      rcases hc.of_ h0 with h3 | h3
      · exact h3
      · exact absurd ⟨h0, h3.1⟩ h
theorem opn_inv {Nx : Gp → Gp → Prop} {ga np : Nat} {m : Vs} {L : List Gp} (ho : m.s.off = false) (hr : m.rd = 0) (hd : Dry ga np m.S) (hi : Inv Nx ga np m.S L) : ∀ (k i : Nat) (L1 : List Gp), i + k = np → L1.length = i → (∀ (j : Nat) (q : Gp), L1[j]? = some q → ∃ p, L[j]? = some p ∧ Got Nx p q ∧ Cp No2 ga m.S q ∧ MayBe q ∧ q.no = (j : Int)) →
    ∃ L2, opn ga k i m L1 = (0, L2, m) ∧ L2.length = np ∧ ∀ (j : Nat) (q : Gp), L2[j]? = some q → ∃ p, L[j]? = some p ∧ Got Nx p q ∧ Cp No2 ga m.S q ∧ MayBe q ∧ q.no = (j : Int)
  | 0, i, L1, he, hl, h1 => ⟨L1, rfl, by omega, h1⟩
  | k + 1, i, L1, he, hl, h1 => by
    have hin : i < L.length := by rw [hi.1.1]; omega
    have hp : L[i]? = some L[i] := List.getElem?_eq_getElem hin
    obtain ⟨q, e1, e2, e3, e4, e5⟩ := on1_inv ho hr hd (show i < np by omega) (hi.1.2 i _ hp).2 (hi.2 i _ hp)
    rw [opn_ok (by rw [e1]), e1]
    refine opn_inv ho hr hd hi k (i + 1) (L1 ++ [q]) (by omega) (by rw [List.length_append, hl]; rfl) (fun j q' hq' => ?_)
    by_cases hj : j < L1.length
    · rw [List.getElem?_append_left hj] at hq'; exact h1 j q' hq'
    · rw [List.getElem?_append_right (by omega)] at hq'
      have e : j - L1.length = 0 := by
        have := (List.getElem?_eq_some_iff.1 hq').1
        simp at this; omega
      rw [e] at hq'
      injection hq' with hq'
      subst hq'
      have hji : j = i := by omega
      subst hji
      exact ⟨_, hp, e2, e3, e4, e5⟩
/-- what is opened -/
theorem opn_all {Nx : Gp → Gp → Prop} {ga np : Nat} {m : Vs} {L : List Gp} (ho : m.s.off = false) (hr : m.rd = 0) (hd : Dry ga np m.S) (hi : Inv Nx ga np m.S L) :
    ∃ L2, opn ga np 0 m [] = (0, L2, m) ∧ Inv No2 ga np m.S L2 ∧ ∀ (j : Nat) (q : Gp), L2[j]? = some q → ∃ p, L[j]? = some p ∧ Got Nx p q := by
  obtain ⟨L2, e1, e2, e3⟩ := opn_inv ho hr hd hi np 0 [] (by omega) rfl (fun j q h => by cases h)
  exact ⟨L2, e1, ⟨⟨e2, fun j q hq => by obtain ⟨p, _, _, _, h4, h5⟩ := e3 j q hq; exact ⟨h4, h5⟩⟩, fun j q hq => by obtain ⟨p, _, _, h3, _⟩ := e3 j q hq; exact h3⟩, fun j q hq => by obtain ⟨p, h1, h2, _⟩ := e3 j q hq; exact ⟨p, h1, h2⟩⟩

/-! bumps -/
theorem jobs_of (ga : Nat) (ls : List Int) (L : List Gp) : jobs ga ls L = jobsOf ga (fun j => upp ls j (L.getD j zp)) (hits ls L.length) := rfl
theorem getD_at {L : List Gp} {j : Nat} {p : Gp} (h : L[j]? = some p) : L.getD j zp = p := by rw [List.getD_eq_getElem?_getD, h]; rfl
/-- whatever a bump answers, each page keeps its copy -/
theorem bmp_keep {Nx : Gp → Gp → Prop} {ga np ne : Nat} {ls : List Int} {m : Vs} {L : List Gp} (hi : Inv Nx ga np m.S L) (hx : inR ls ne → (¬ ∃ x ∈ ls, isFull L x) → ∀ (j : Nat) (p : Gp), L[j]? = some p → hit ls j = true → FineB Nx p (sect (upp ls j p))) : Inv Nx ga np (bmp ga ne ls m L).2.2.S L := by
  unfold bmp
  split
  · exact hi
  · rename_i h1
    split
    · exact hi
    · rename_i h2
      split
      · exact hi
      · refine puts_inv (f := fun j => upp ls j (L.getD j zp)) (hits ls L.length) m hi (fun j hj => ?_)
        obtain ⟨k1, k2⟩ := mem_hits.1 hj
        have hp : L[j]? = some L[j] := List.getElem?_eq_getElem k1
        refine ⟨L[j], hp, ?_⟩
        rw [getD_at hp]
        exact ⟨rfl, rfl, hx (Classical.not_not.1 h1) h2 j _ hp k2⟩
/-- one that is told -/
theorem bmp_told {Nx : Gp → Gp → Prop} {ga np ne : Nat} {ls : List Int} {m : Vs} {L : List Gp} (hi : Inv Nx ga np m.S L) (h0 : (bmp ga ne ls m L).1 = 0) :
    Inv Nx ga np (bmp ga ne ls m L).2.2.S (bmp ga ne ls m L).2.1 ∧ inR ls ne ∧ (bmp ga ne ls m L).2.1 = nexts ls L := by
  unfold bmp at h0 ⊢
  split at h0
  · exact absurd h0 (show ¬ (3 : Int) = 0 by decide)
  · rename_i h1
    have hR := Classical.not_not.1 h1
    rw [if_neg h1]
    split at h0
    · exact absurd h0 (show ¬ (5 : Int) = 0 by decide)
    · rename_i h2
      rw [if_neg h2]
      split at h0
      · rename_i h3
        rw [if_pos h3]
        subst h3
        exact ⟨hi, hR, (nexts_nil L).symm⟩
      · rename_i h3
        rw [if_neg h3]
        dsimp only at h0 ⊢
        rw [if_pos h0]
        have hP := nexts_pages hi.1 hR h2
        obtain ⟨S1, e1, e2⟩ := puts_done (Nx := Nx) (ga := ga) (f := fun j => upp ls j (L.getD j zp)) hi.1 (hits ls L.length) m (fun _ => False) (hits_nodup _ _) (fun _ _ h => h) (fun j p hp => ⟨fun h => h.elim, fun _ => hi.2 j p hp⟩) (fun j hj => ⟨L[j]'(mem_hits.1 hj).1, List.getElem?_eq_getElem _⟩) (fun j p hp _ => by rw [getD_at hp]; exact ⟨rfl, rfl⟩) h0
        refine ⟨⟨hP, fun j q hq => ?_⟩, hR, rfl⟩
        have e1' : (puts (jobs ga ls L) m).2.S = flushS S1 := e1
        rw [e1']
        have hq0 := hq
        rw [nexts_at] at hq
        cases hL : L[j]? with
        | none => rw [hL] at hq; cases hq
        | some p =>
          rw [hL, Option.map_some] at hq
          injection hq with hq
          have hjl := (List.getElem?_eq_some_iff.1 hL).1
          by_cases hh : hit ls j = true
          · rw [if_pos hh] at hq
            have hw := (e2 j p hL).1 (.inl (mem_hits.2 ⟨hjl, hh⟩))
            rw [getD_at hL, hq] at hw
            subst hq
            exact hw.flush rfl rfl (hP.2 j _ hq0).1
          · rw [if_neg hh] at hq
            subst hq
            exact ((e2 j p hL).2 (fun x => x.elim (fun y => hh (mem_hits.1 y).2) id)).flush
/-- one that is not told leaves the table as it was -/
theorem bmp_not {ga ne : Nat} {ls : List Int} {m : Vs} {L : List Gp} (h0 : ¬ (bmp ga ne ls m L).1 = 0) : (bmp ga ne ls m L).2.1 = L := by
  unfold bmp at h0 ⊢
  split at h0
  · rename_i h1; rw [if_pos h1]
  · rename_i h1
    rw [if_neg h1]
    split at h0
    · rename_i h2; rw [if_pos h2]
    · rename_i h2
      rw [if_neg h2]
      split at h0
      · exact absurd rfl h0
      · rename_i h3
        rw [if_neg h3]
        dsimp only at h0 ⊢
        rw [if_neg h0]
theorem fine_next {Nx : Gp → Gp → Prop} {p q : Gp} (hm : MayBe q) (hn : q.no = p.no) (hv : q.v = p.v + 1) (hN : ∀ d, Like q d → Nx p d) : FineB Nx p (sect q) := fun _ => by
  have h := reads_sect hm
  unfold Reads at h
  rw [hn] at h
  exact .inr ⟨by rw [← h.2.2.1]; exact hv, hN _ h.2⟩
theorem fine_upp {Nx : Gp → Gp → Prop} {ls : List Int} {j : Nat} {p : Gp} (hm : MayBe (upp ls j p)) (hN : ∀ d, Like (upp ls j p) d → Nx p d) : FineB Nx p (sect (upp ls j p)) := fine_next hm rfl rfl hN
/-- no generation falls, none rises by more than one -/
def Rise (p q : Gp) : Prop := ∀ k, k < 6 → p.g k ≤ q.g k ∧ q.g k ≤ p.g k + 1
theorem rise_upp (ls : List Int) (j : Nat) (p : Gp) : Rise p (upp ls j p) := fun k hk => by
  show p.g k ≤ p.g k + add1 ls (6 * j + k) ∧ p.g k + add1 ls (6 * j + k) ≤ p.g k + 1
  unfold add1
  split <;> omega
theorem rise_like {p q d : Gp} (h : Rise p q) (hl : Like q d) : Rise p d := fun k hk => by rw [← hl.2.2 k hk]; exact h k hk
theorem rise_refl (p : Gp) : Rise p p := fun k hk => by omega
/-- what a last bump may leave -/
def Upon (ls : List Int) (p q : Gp) : Prop := ∀ k, k < 6 → q.g k = p.g k + add1 ls (6 * p.no.toNat + k)
theorem upon_upp {ls : List Int} {j : Nat} {p : Gp} (hno : p.no = (j : Int)) : Upon ls p (upp ls j p) := fun k hk => by
  show p.g k + add1 ls (6 * j + k) = _
  rw [hno, Int.toNat_natCast]
theorem upon_like {ls : List Int} {p q d : Gp} (h : Upon ls p q) (hl : Like q d) : Upon ls p d := fun k hk => by rw [← hl.2.2 k hk]; exact h k hk
theorem Inv.mono {Nx Nx' : Gp → Gp → Prop} {ga np : Nat} {S : Nat → Sec} {L : List Gp} (h : Inv Nx ga np S L) (hN : ∀ p q, Nx p q → Nx' p q) : Inv Nx' ga np S L := ⟨h.1, fun j p hp => (h.2 j p hp).mono (hN p)⟩
end Go.Proofs.YtgdgehfapfgdfaaGreatDoor.Tb
