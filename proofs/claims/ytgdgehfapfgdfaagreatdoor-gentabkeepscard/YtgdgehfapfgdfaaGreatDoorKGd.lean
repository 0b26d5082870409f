/-
  Elder texts, one behind the other: GbCrash, GbPairDo, GbPairCrash. No conditions.
-/
import Derived.Test.YtgdgehfapfgdfaaGreatDoorGbInv2
import Derived.Test.YtgdgehfapfgdfaaGreatDoorGbPairOpen
import Derived.Test.YtgdgehfapfgdfaaGreatDoorGbBegin
import Derived.Deep.RegionHeld
import Derived.Deep.DrawnRows
/-! A crash of a device that bears a table, what acts leave of it, what a last bump leaves: plain facts. No conditions. -/
namespace Go.Proofs.YtgdgehfapfgdfaaGreatDoor.Tb
set_option maxRecDepth 100000
open Go.RowKit Oc Dm W Dw
set_option linter.unusedVariables false

/-- fates made to fit -/
def fits (n : Nat) (S : Nat → Sec) (fs : List Int) : List Int := fitOf (looseOf n S) fs (min fs.length (looseOf n S).length)
/-- the device behind a crash -/
def crashed (n : Nat) (S : Nat → Sec) (fs : List Int) : Vs := ⟨⟨false, none, 0⟩, crashTo n S (fits n S fs) (fits n S fs).length, 0, 0⟩
theorem crash_cp {Nx : Gp → Gp → Prop} {ga n k : Nat} {S : Nat → Sec} {p : Gp} {fs : List Int} (hg : ∀ j, Dw.Good (looseOf n S) fs j) (h : Cp Nx ga S p) : Cp Nx ga (crashTo n S fs k) p := by
  refine ⟨crashTo_loose _ _ _ _ _, ?_, ?_, fun x hx => by rw [crashTo_loose] at hx; cases hx⟩
  · rcases crashTo_one hg k (spot ga p) with e | ⟨j, hj, _⟩
    · rw [e]; exact h.cf
    · rw [h.cl] at hj; exact absurd hj (Nat.not_lt_zero _)
  · rcases crashTo_one hg k (oth ga p) with e | ⟨j, hj, e⟩
    · rw [e]; exact h.of_
    · rw [e]
      refine h.ol _ ?_
      rw [List.getD_eq_getElem?_getD, List.getElem?_eq_getElem hj, Option.getD_some]
      exact List.getElem_mem hj
theorem crash_inv {Nx : Gp → Gp → Prop} {ga np n : Nat} {S : Nat → Sec} {L : List Gp} {fs : List Int} (h : Inv Nx ga np S L) : Inv Nx ga np (crashed n S fs).S L :=
  ⟨h.1, fun j p hp => crash_cp (fun j => fitOf_good _ _ _ j) (h.2 j p hp)⟩
/-- what is opened behind a crash -/
theorem crash_opn {Nx : Gp → Gp → Prop} {ga np : Nat} (n : Nat) {S : Nat → Sec} {L : List Gp} (fs : List Int) (h : Inv Nx ga np S L) :
    ∃ L2, opn ga np 0 (crashed n S fs) [] = (0, L2, crashed n S fs) ∧ Inv No2 ga np (crashed n S fs).S L2 ∧ ∀ (j : Nat) (p : Gp), L[j]? = some p → ∃ q, L2[j]? = some q ∧ Got Nx p q := by
  obtain ⟨L2, e1, e2, e3⟩ := opn_all (m := crashed n S fs) rfl rfl (fun j hj => ⟨crashTo_loose _ _ _ _ _, crashTo_loose _ _ _ _ _⟩) (crash_inv (n := n) (fs := fs) h)
  refine ⟨L2, e1, e2, fun j p hp => ?_⟩
  have hj : j < L2.length := by rw [e2.1.1, ← h.1.1]; exact (List.getElem?_eq_some_iff.1 hp).1
  have hq : L2[j]? = some L2[j] := List.getElem?_eq_getElem hj
  obtain ⟨p', hp', g⟩ := e3 j _ hq
  rw [hp] at hp'
  injection hp' with hp'
  subst hp'
  exact ⟨_, hq, g⟩
theorem gen_at {L : List Gp} {e : Nat} {q : Gp} (hq : L[e / 6]? = some q) : gen L e = q.g (e % 6) := by unfold gen; rw [getD_at hq]
theorem gen_none {L : List Gp} {e : Nat} (h : L.length ≤ e / 6) : gen L e = 0 := by
  unfold gen
  rw [List.getD_eq_getElem?_getD, List.getElem?_eq_none h]
  rfl
theorem gen_nx {ls : List Int} {L : List Gp} {e : Nat} {q : Gp} (hq : L[e / 6]? = some q) : gen (nexts ls L) e = q.g (e % 6) + add1 ls e := by
  unfold gen
  rw [List.getD_eq_getElem?_getD, nexts_at, hq, Option.map_some, Option.getD_some]
  by_cases h : hit ls (e / 6) = true
  · rw [if_pos h]
    show q.g (e % 6) + add1 ls (6 * (e / 6) + e % 6) = _
    rw [show 6 * (e / 6) + e % 6 = e by omega]
  · rw [if_neg h]
    have : named ls e = false := by
      rw [Bool.eq_false_iff]
      intro hn
      exact h (hit_iff.2 ⟨e % 6, by omega, by rw [show 6 * (e / 6) + e % 6 = e by omega]; exact named_iff.1 hn⟩)
    unfold add1
    rw [if_neg (by rw [this]; decide)]
    rfl
/-- generations are small enough -/
theorem gen_le {L : List Gp} {np e : Nat} (h : Pages L np) : gen L e ≤ 4611686018427387904 := by
  by_cases he : e / 6 < L.length
  · have hq : L[e / 6]? = some L[e / 6] := List.getElem?_eq_getElem he
    rw [gen_at hq]
    have := (h.2 _ _ hq).1.2.2 (e % 6) (by omega)
    unfold isG at this
    omega
  · rw [gen_none (by omega)]; omega

/-! what acts leave -/
open Classical in
def Way (ga ne np n : Nat) (k : Int) (ls fs : List Int) (m m' : Vs) (t t' : Option (List Gp)) : Prop :=
  (k = 0 ∧ ∃ L, t = some L ∧ m' = (bmp ga ne ls m L).2.2 ∧ t' = some (bmp ga ne ls m L).2.1) ∨
  (k = 3 ∧ m' = (opn ga np 0 (crashed n m.S fs) []).2.2 ∧ t' = (if (opn ga np 0 (crashed n m.S fs) []).1 = 0 then some (opn ga np 0 (crashed n m.S fs) []).2.1 else none)) ∨
  (k = 4 ∧ t' = t) ∨
  (k ≠ 4 ∧ t' = t ∧ (m'.S = m.S ∨ m'.S = flushS m.S))
def PagesO (t : Option (List Gp)) (np : Nat) : Prop := ∀ L, t = some L → Pages L np
theorem way_pages {ga ne np n : Nat} {k : Int} {ls fs : List Int} {m m' : Vs} {t t' : Option (List Gp)} (h : Way ga ne np n k ls fs m m' t t') (hp : PagesO t np) : PagesO t' np := by
  intro L hL
  rcases h with ⟨_, L0, h1, _, h3⟩ | ⟨_, _, h3⟩ | ⟨_, h3⟩ | ⟨_, h3, _⟩
  · rw [h3] at hL
    injection hL with hL
    subst hL
    exact bmp_pages (hp L0 h1)
  · rw [h3] at hL
    split at hL
    · rename_i h0
      injection hL with hL
      subst hL
      have := opn_pages (ga := ga) np 0 (crashed n m.S fs) [] ⟨rfl, fun i p hp => by cases hp⟩ h0
      rwa [Nat.zero_add] at this
    · cases hL
  · exact hp L (h3 ▸ hL)
  · exact hp L (h3 ▸ hL)
theorem rise_gen {L L' : List Gp} (hl : L.length = L'.length) (h : ∀ (j : Nat) (p : Gp), L[j]? = some p → ∃ q, L'[j]? = some q ∧ Rise p q) (e : Nat) : gen L e ≤ gen L' e ∧ gen L' e ≤ gen L e + 1 := by
  by_cases he : e / 6 < L.length
  · have hq : L[e / 6]? = some L[e / 6] := List.getElem?_eq_getElem he
    obtain ⟨q, h1, h2⟩ := h _ _ hq
    rw [gen_at hq, gen_at h1]
    exact h2 (e % 6) (by omega)
  · rw [gen_none (L := L) (by omega), gen_none (L := L') (by omega)]
    omega
theorem bmp_rise {ga np ne : Nat} {ls : List Int} {m : Vs} {L : List Gp} (hi : Inv Rise ga np m.S L) : Inv Rise ga np (bmp ga ne ls m L).2.2.S (bmp ga ne ls m L).2.1 ∧ ∀ (j : Nat) (p : Gp), L[j]? = some p → ∃ q, (bmp ga ne ls m L).2.1[j]? = some q ∧ Rise p q := by
  by_cases h0 : (bmp ga ne ls m L).1 = 0
  · obtain ⟨h1, h2, h3⟩ := bmp_told hi h0
    refine ⟨h1, fun j p hp => ?_⟩
    rw [h3, nexts_at, hp, Option.map_some]
    refine ⟨_, rfl, ?_⟩
    split
    · exact rise_upp _ _ _
    · exact rise_refl _
  · rw [bmp_not h0]
    refine ⟨bmp_keep hi (fun hr hf j p hp hh => ?_), fun j p hp => ⟨p, hp, rise_refl p⟩⟩
    have hm := upp_may hi.1 hr hf (mem_hits.2 ⟨by have := (List.getElem?_eq_some_iff.1 hp).1; have := hi.1.1; omega, hh⟩)
    rw [getD_at hp] at hm
    exact fine_upp hm (fun d hd => rise_like (rise_upp ls j p) hd)
theorem got_rise {p q : Gp} (h : Got Rise p q) : Rise p q := by
  rcases h with h | h
  · exact rise_like (rise_refl p) h
  · exact h.2.2
theorem no2_rise {p q : Gp} (h : No2 p q) : Rise p q := h.elim
/-- no generation falls, none rises by more than one -/
theorem way_rise {ga ne np n : Nat} {k : Int} {ls fs : List Int} {m m' : Vs} {t' : Option (List Gp)} {L : List Gp} (hk : k ≠ 4) (h : Way ga ne np n k ls fs m m' (some L) t') (hi : Inv Rise ga np m.S L) :
    ∃ L', t' = some L' ∧ Inv Rise ga np m'.S L' ∧ ∀ e, gen L e ≤ gen L' e ∧ gen L' e ≤ gen L e + 1 := by
  rcases h with ⟨_, L0, h1, h2, h3⟩ | ⟨_, h2, h3⟩ | ⟨h1, _⟩ | ⟨_, h3, h4⟩
  · injection h1 with h1
    subst h1 h2 h3
    obtain ⟨g1, g2⟩ := bmp_rise (ne := ne) (ls := ls) (m := m) hi
    exact ⟨_, rfl, g1, rise_gen (by rw [hi.1.1, g1.1.1]) g2⟩
  · obtain ⟨L2, e1, e2, e3⟩ := crash_opn n fs hi
    rw [e1] at h2 h3
    subst h2
    rw [if_pos rfl] at h3
    exact ⟨L2, h3, e2.mono (fun _ _ => no2_rise), rise_gen (by rw [hi.1.1, e2.1.1]) (fun j p hp => by obtain ⟨q, h1, h2⟩ := e3 j p hp; exact ⟨q, h1, got_rise h2⟩)⟩
  · exact absurd h1 hk
  · refine ⟨L, h3, ⟨hi.1, fun j p hp => ?_⟩, fun e => ⟨Nat.le_refl _, Nat.le_succ _⟩⟩
    rcases h4 with h4 | h4
    · rw [h4]; exact hi.2 j p hp
    · rw [h4]; exact (hi.2 j p hp).flush

/-! what a last bump leaves -/
def Small (k : Nat) (L : List Gp) : Prop := ∀ (j : Nat) (p : Gp), L[j]? = some p → p.v ≤ k ∧ ∀ i, i < 6 → p.g i ≤ k
theorem Small.more {k k' : Nat} {L : List Gp} (h : Small k L) (hk : k ≤ k') : Small k' L := fun j p hp => ⟨Nat.le_trans (h j p hp).1 hk, fun i hi => Nat.le_trans ((h j p hp).2 i hi) hk⟩
theorem add1_le (ls : List Int) (e : Nat) : add1 ls e ≤ 1 := by unfold add1; split <;> omega
theorem small_next {k : Nat} {L : List Gp} (h : Small k L) (ls : List Int) : Small (k + 1) (nexts ls L) := fun j q hq => by
  rw [nexts_at] at hq
  cases hL : L[j]? with
  | none => rw [hL] at hq; cases hq
  | some p =>
    rw [hL, Option.map_some] at hq
    injection hq with hq
    subst hq
    obtain ⟨h1, h2⟩ := h j p hL
    split
    · refine ⟨by show p.v + 1 ≤ k + 1; omega, fun i hi => ?_⟩
      show p.g i + add1 ls (6 * j + i) ≤ k + 1
      have := h2 i hi
      have := add1_le ls (6 * j + i)
      omega
    · exact ⟨by omega, fun i hi => by have := h2 i hi; omega⟩
theorem small_full {k ne np : Nat} {L : List Gp} {ls : List Int} (h : Small k L) (hk : k < 4611686018427387904) (hr : inR ls ne) (hn : ne ≤ 6 * np) (hl : L.length = np) : ¬ ∃ x ∈ ls, isFull L x := by
  rintro ⟨x, hx, hf⟩
  obtain ⟨h0, h1⟩ := hr x hx
  have hj : x.toNat / 6 < L.length := by omega
  have hq : L[x.toNat / 6]? = some L[x.toNat / 6] := List.getElem?_eq_getElem hj
  unfold isFull at hf
  rw [getD_at hq] at hf
  obtain ⟨g1, g2⟩ := h _ _ hq
  have := g2 (x.toNat % 6) (by omega)
  omega
/-- a bump on a quiet device -/
theorem bmp_quiet {ga np ne : Nat} {ls : List Int} {m : Vs} {L : List Gp} (hq : Quiet m) (hi : Inv No2 ga np m.S L) {k : Nat} (hs : Small k L) :
    (bmp ga ne ls m L).1 ≠ 80 ∧ Quiet (bmp ga ne ls m L).2.2 ∧ Inv No2 ga np (bmp ga ne ls m L).2.2.S (bmp ga ne ls m L).2.1 ∧ Small (k + 1) (bmp ga ne ls m L).2.1 := by
  by_cases h0 : (bmp ga ne ls m L).1 = 0
  · obtain ⟨h1, h2, h3⟩ := bmp_told hi h0
    refine ⟨by rw [h0]; decide, ?_, h1, by rw [h3]; exact small_next hs ls⟩
    unfold bmp
    split
    · exact hq
    · split
      · exact hq
      · split
        · exact hq
        · exact (puts_quiet _ m hq).2.1
  · unfold bmp at h0 ⊢
    split
    · exact ⟨(show (3 : Int) ≠ 80 by decide), hq, hi, hs.more (Nat.le_succ k)⟩
    · rename_i h1
      rw [if_neg h1] at h0
      split
      · exact ⟨(show (5 : Int) ≠ 80 by decide), hq, hi, hs.more (Nat.le_succ k)⟩
      · rename_i h2
        rw [if_neg h2] at h0
        split
        · exact ⟨(show (0 : Int) ≠ 80 by decide), hq, hi, hs.more (Nat.le_succ k)⟩
        · rename_i h3
          rw [if_neg h3] at h0
          exact absurd (puts_quiet _ m hq).1 h0
theorem puts_err : ∀ (l : List (Nat × List UInt8)) (m : Vs), m.wr = 0 → (puts l m).1 = 0 ∨ (puts l m).1 = 80
  | [], m, h => by
    show (fl1 m).1 = 0 ∨ (fl1 m).1 = 80
    unfold fl1
    split
    · exact .inr rfl
    · split
      · exact .inr rfl
      · exact .inl rfl
  | x :: l, m, h => by
    by_cases h0 : (wr1 m x.1 x.2).1 = 0
    · rw [puts_ok h0]
      refine puts_err l _ ?_
      unfold wr1
      split
      · exact h
      · split
        · exact h
        · split
          · show m.wr / 2 = 0; rw [h]
          · show m.wr / 2 = 0; rw [h]
    · rw [puts_no h0]
      refine .inr ?_
      unfold wr1 at h0 ⊢
      split
      · rfl
      · split
        · rfl
        · rename_i h1 h2
          rw [if_neg h1, if_neg h2] at h0
          rw [if_neg (by rw [h]; decide)] at h0
          exact absurd rfl h0
theorem no2_upon {ls : List Int} {p q : Gp} (h : No2 p q) : Upon ls p q := h.elim
theorem like_gen {L L' : List Gp} (hl : L.length = L'.length) (h : ∀ (j : Nat) (p : Gp), L[j]? = some p → ∃ q, L'[j]? = some q ∧ Got No2 p q) (e : Nat) : gen L' e = gen L e := by
  by_cases he : e / 6 < L.length
  · have hq : L[e / 6]? = some L[e / 6] := List.getElem?_eq_getElem he
    obtain ⟨q, h1, h2⟩ := h _ _ hq
    rw [gen_at hq, gen_at h1]
    rcases h2 with h2 | h2
    · exact (h2.2.2 (e % 6) (by omega)).symm
    · exact h2.2.2.elim
  · rw [gen_none (L := L) (by omega), gen_none (L := L') (by omega)]
theorem upon_gen {ls : List Int} {np : Nat} {L L' : List Gp} (hP : Pages L np) (hl : L.length = L'.length) (h : ∀ (j : Nat) (p : Gp), L[j]? = some p → ∃ q, L'[j]? = some q ∧ Got (Upon ls) p q) (e : Nat) : gen L e ≤ gen L' e ∧ gen L' e ≤ gen L e + add1 ls e := by
  by_cases he : e / 6 < L.length
  · have hq : L[e / 6]? = some L[e / 6] := List.getElem?_eq_getElem he
    obtain ⟨q, h1, h2⟩ := h _ _ hq
    rw [gen_at hq, gen_at h1]
    rcases h2 with h2 | h2
    · rw [h2.2.2 (e % 6) (by omega)]; omega
    · rw [h2.2.2 (e % 6) (by omega), (hP.2 _ _ hq).2, Int.toNat_natCast, show 6 * (e / 6) + e % 6 = e by omega]
      omega
  · rw [gen_none (L := L) (by omega), gen_none (L := L') (by omega)]
    omega
/-- a last bump, and what is opened behind a crash -/
theorem bmp_last {ga np ne : Nat} (n : Nat) {ls : List Int} {m : Vs} {L : List Gp} (fs : List Int) (hw : m.wr = 0) (hi : Inv No2 ga np m.S L) {k : Nat} (hs : Small k L) (hk : k < 4611686018427387904) (hn : ne ≤ 6 * np) :
    ((bmp ga ne ls m L).1 = 0 ∨ (bmp ga ne ls m L).1 = 80 ∨ (bmp ga ne ls m L).1 = 3) ∧ ∃ L3, opn ga np 0 (crashed n (bmp ga ne ls m L).2.2.S fs) [] = (0, L3, crashed n (bmp ga ne ls m L).2.2.S fs) ∧ Pages L3 np ∧ ∀ e, e < ne →
      ((bmp ga ne ls m L).1 = 0 → gen L3 e = gen L e + add1 ls e ∧ gen (bmp ga ne ls m L).2.1 e = gen L3 e) ∧ (¬ (bmp ga ne ls m L).1 = 0 → gen L e ≤ gen L3 e ∧ gen L3 e ≤ gen L e + add1 ls e ∧ gen (bmp ga ne ls m L).2.1 e = gen L e) := by
  refine ⟨?_, ?_⟩
  · unfold bmp
    split
    · exact .inr (.inr rfl)
    · rename_i h1
      rw [if_neg (small_full hs hk (Classical.not_not.1 h1) hn hi.1.1)]
      split
      · exact .inl rfl
      · exact (puts_err _ m hw).imp id .inl
  · by_cases h0 : (bmp ga ne ls m L).1 = 0
    · obtain ⟨h1, h2, h3⟩ := bmp_told hi h0
      obtain ⟨L3, e1, e2, e3⟩ := crash_opn n fs h1
      have hg := like_gen (by rw [h1.1.1, e2.1.1]) e3
      refine ⟨L3, e1, e2.1, fun e he => ⟨fun _ => ?_, fun x => absurd h0 x⟩⟩
      have hj : e / 6 < L.length := by rw [hi.1.1]; omega
      have hq : L[e / 6]? = some L[e / 6] := List.getElem?_eq_getElem hj
      rw [hg e, h3, gen_nx hq, gen_at hq]
      exact ⟨rfl, rfl⟩
    · have h1 : Inv (Upon ls) ga np (bmp ga ne ls m L).2.2.S L := bmp_keep (hi.mono (fun _ _ => no2_upon)) (fun hr hf j p hp hh => by
        have hm := upp_may hi.1 hr hf (mem_hits.2 ⟨by have := (List.getElem?_eq_some_iff.1 hp).1; have := hi.1.1; omega, hh⟩)
        rw [getD_at hp] at hm
        exact fine_upp hm (fun d hd => upon_like (upon_upp (hi.1.2 j p hp).2) hd))
      obtain ⟨L3, e1, e2, e3⟩ := crash_opn n fs h1
      have hg := upon_gen hi.1 (by rw [hi.1.1, e2.1.1]) e3
      refine ⟨L3, e1, e2.1, fun e he => ⟨fun x => absurd x h0, fun _ => ⟨(hg e).1, (hg e).2, by rw [bmp_not h0]⟩⟩⟩
end Go.Proofs.YtgdgehfapfgdfaaGreatDoor.Tb

/-! What else a pair is asked to do: patterns of failures, fuses, writes, flushes. No conditions. -/
namespace Go.Proofs.YtgdgehfapfgdfaaGreatDoor.Tb
set_option maxRecDepth 100000
open Go.RowKit Oc Dm W Dw Sr Gt
set_option linter.unusedVariables false
set_option maxRecDepth 100000

/-- a write of 64 octets, at any number -/
def wrz (n : Nat) (m : Vs) (z : Int) (xs : List UInt8) : Int × Vs := if 0 ≤ z ∧ z < (n : Int) then wr1 m z.toNat xs else (if m.s.off = true then 80 else 3, m)
theorem fuseS_done (s : PS) (z : Int) : (PS.fuseS s z).done = s.done := by
  unfold PS.fuseS
  split
  · rfl
  · split <;> rfl
theorem fuseS_le {s : PS} (z : Int) (h : ∀ k, s.fuse = some k → k ≤ 1048576) : ∀ k, (PS.fuseS s z).fuse = some k → k ≤ 1048576 := by
  intro k hk
  unfold PS.fuseS at hk
  split at hk
  · exact h k hk
  · split at hk
    · exact h k hk
    · rename_i h1 h2
      dsimp only at hk
      split at hk
      · cases hk
      · injection hk with hk; omega
theorem RD.up {w w' : World} {G : Nat → Prop} {E q n N : Nat} {m : Vs} (h : RD w' G E q n N m) (hq : q < w.heap.size) (hs : w.heap.size ≤ w'.heap.size) : RD w' (Ext G w w') E q n N m := by
  obtain ⟨gs, vs, x⟩ := h.rv
  refine ⟨h.qw, ⟨gs, vs, x.frame (fun _ y => .inl y) (fun k y => y.elim (fun z => h.bound k (.inl z)) (fun z => z.2)) (fun _ _ => rfl)⟩, fun y => y.elim h.nq (fun z => by omega), h.hf, h.hs, h.hl, h.hN⟩
section
variable {w0 w w' : World} {P n N N' pw D q E ne np ga : Nat} {p : Pn.Pl} {T U : Option Addr} {F G H1 H2 : Nat → Prop} {m m1 m2 : Vs} {t1 t2 : Option (List Gp)} {L : List Gp} {k c : Nat} {A : Option Addr} {xs : List UInt8}
theorem Pr.fail (h : Pr w0 P p n N pw D q E T U F G H1 H2 m1 m2 t1 t2 w) (u v : Nat) (hu : u < 18446744073709551616) (hv : v < 18446744073709551616) :
    Calls Tryz.prog 31 #[.pointer (some ⟨D, 0, none⟩), .int .u64 (u : Int), .int .u64 (v : Int)] w fun e w' => e = .returned (.tuple #[]) ∧ Pr w0 P p n N pw D q E T U (Ext F w w') G H1 H2 { m1 with rd := u, wr := v } m2 t1 t2 w' ∧ w'.heap[P]? = w.heap[P]? ∧ Kp w (Us F pw G q H1 H2) w' (Us (Ext F w w') pw G q H1 H2) := by
  obtain ⟨fx, a, b, g, x⟩ := h.pd.dv
  refine (fail_any x u v hu hv).mono fun e w' ⟨e1, e2, e3⟩ => ⟨e1, h.prog0 (Nat.le_refl _) h.pd.hN ?_ (e3.mono (fun _ _ y => .inl y))⟩
  exact ⟨h.pd.pw.heap (e3.block pw h.pd.pw.lt h.pd.np), e2, ext_np (w1 := w) h.pd rfl, h.pd.hs, h.pd.hN⟩
theorem Pr.rfail (h : Pr w0 P p n N pw D q E T U F G H1 H2 m1 m2 t1 t2 w) (u v : Nat) (hu : u < 18446744073709551616) (hv : v < 18446744073709551616) :
    ∃ G', Pr w0 P p n N pw D q E T U F G' H1 H2 m1 { m2 with rd := u, wr := v } t1 t2 ((w.setCell ⟨E, 2, none⟩ (.int .u64 (u : Int))).setCell ⟨E, 3, none⟩ (.int .u64 (v : Int))) ∧ ((w.setCell ⟨E, 2, none⟩ (.int .u64 (u : Int))).setCell ⟨E, 3, none⟩ (.int .u64 (v : Int))).heap[P]? = w.heap[P]? ∧ Kp w (Us F pw G q H1 H2) ((w.setCell ⟨E, 2, none⟩ (.int .u64 (u : Int))).setCell ⟨E, 3, none⟩ (.int .u64 (v : Int))) (Us F pw G' q H1 H2) := by
  obtain ⟨gs, vs, x⟩ := h.rd.rv
  have c1 : Chg G w (w.setCell ⟨E, 2, none⟩ (.int .u64 (u : Int))) := Chg.of_grown (grown_set w E 2 _) (fun k e _ => by injection e with e; subst e; exact x.inG.1)
  have c2 : Chg G (w.setCell ⟨E, 2, none⟩ (.int .u64 (u : Int))) ((w.setCell ⟨E, 2, none⟩ (.int .u64 (u : Int))).setCell ⟨E, 3, none⟩ (.int .u64 (v : Int))) := Chg.of_grown (grown_set _ E 3 _) (fun k e _ => by injection e with e; subst e; exact x.inG.1)
  have c3 := c1.trans c2 (fun _ _ y => y)
  have x2 := (x.set2 u hu).set3 v hv
  have r : RD ((w.setCell ⟨E, 2, none⟩ (.int .u64 (u : Int))).setCell ⟨E, 3, none⟩ (.int .u64 (v : Int))) G E q n N { m2 with rd := u, wr := v } :=
    ⟨h.rd.qw.heap (c3.block q h.rd.qw.lt h.rd.nq), ⟨gs, vs, x2⟩, h.rd.nq, h.rd.hf, h.rd.hs, h.rd.hl, h.rd.hN⟩
  exact ⟨_, h.doc (Nat.le_refl _) h.rd.hN (r.up h.rd.qw.lt c3.size) (c3.mono (fun _ _ y => .inl y))⟩
theorem Pr.fuse (h : Pr w0 P p n N pw D q E T U F G H1 H2 m1 m2 t1 t2 w) (z : Int) :
    Calls Tryz.prog 14 #[.pointer (some ⟨pw, 0, none⟩), .int .i64 z] w fun e w' => e = .returned (.int .i64 (PS.fuseE m1.s z)) ∧ Pr w0 P p n N pw D q E T U (Ext F w w') G H1 H2 { m1 with s := PS.fuseS m1.s z } m2 t1 t2 w' ∧ w'.heap[P]? = w.heap[P]? ∧ Kp w (Us F pw G q H1 H2) w' (Us (Ext F w w') pw G q H1 H2) :=
  (fuse_any h.pd.pw z).mono fun e w' ⟨e1, e2, e3, e4⟩ => by
    obtain ⟨k1, k2⟩ := h.pd.pow e2 e3 (Nat.le_refl _) h.pd.hN (by rw [fuseS_done]; exact h.pd.hs)
    exact ⟨e1, h.prog0 (Nat.le_refl _) h.pd.hN k1 k2⟩
theorem Pr.rfuse (h : Pr w0 P p n N pw D q E T U F G H1 H2 m1 m2 t1 t2 w) (z : Int) :
    Calls Tryz.prog 32 #[.pointer (some ⟨q, 0, none⟩), .int .i64 z] w fun e w' => e = .returned (.int .i64 (PS.fuseE m2.s z)) ∧ Pr w0 P p n N pw D q E T U F (Ext G w w') H1 H2 m1 { m2 with s := PS.fuseS m2.s z } t1 t2 w' ∧ w'.heap[P]? = w.heap[P]? ∧ Kp w (Us F pw G q H1 H2) w' (Us F pw (Ext G w w') q H1 H2) :=
  (rfuse_any h.rd.qw z).mono fun e w' ⟨e1, e2, e3, e4⟩ => by
    obtain ⟨k1, k2⟩ := h.rd.pow e2 e3 (Nat.le_refl _) h.rd.hN (by rw [fuseS_done]; exact h.rd.hs) (fuseS_le z h.rd.hf)
    exact ⟨e1, h.doc (Nat.le_refl _) h.rd.hN k1 k2⟩
theorem Pr.flush (h : Pr w0 P p n N pw D q E T U F G H1 H2 m1 m2 t1 t2 w) (hN : N + 1 ≤ 1000000) :
    Calls Tryz.prog 37 #[.pointer (some ⟨D, 0, none⟩)] w fun e w' => e = .returned (.int .i64 (fl1 m1).1) ∧ Pr w0 P p n (N + 1) pw D q E T U (Ext F w w') G H1 H2 (fl1 m1).2 m2 t1 t2 w' ∧ w'.heap[P]? = w.heap[P]? ∧ Kp w (Us F pw G q H1 H2) w' (Us (Ext F w w') pw G q H1 H2) :=
  (h.pd.flush hN).mono fun e w' ⟨e1, e2, e3⟩ => ⟨e1, h.prog0 (Nat.le_succ _) hN e2 e3⟩
theorem Pr.rflush (h : Pr w0 P p n N pw D q E T U F G H1 H2 m1 m2 t1 t2 w) (hN : N + 1 ≤ 1000000) :
    Calls Tryz.prog 38 #[.pointer (some ⟨E, 0, none⟩)] w fun e w' => e = .returned (.int .i64 (fl1 m2).1) ∧ Pr w0 P p n (N + 1) pw D q E T U F (Ext G w w') H1 H2 m1 (fl1 m2).2 t1 t2 w' ∧ w'.heap[P]? = w.heap[P]? ∧ Kp w (Us F pw G q H1 H2) w' (Us F pw (Ext G w w') q H1 H2) := by
  exact (h.rd.flush hN).mono fun e w' ⟨e1, e2, e3⟩ => ⟨e1, h.doc (Nat.le_succ _) hN e2 e3⟩
theorem Pr.write (h : Pr w0 P p n N pw D q E T U F G H1 H2 m1 m2 t1 t2 w) (hN : N + 1 ≤ 1000000) (z : Int) (hx : Oct w A 64 xs) (hA : ∀ b off, A = some ⟨b, off, none⟩ → ¬ Al F pw b) :
    Calls Tryz.prog 35 #[.pointer (some ⟨D, 0, none⟩), .int .i64 z, .slice A 64 c] w fun e w' => e = .returned (.int .i64 (wrz n m1 z xs).1) ∧ ∃ F', Pr w0 P p n (N + 1) pw D q E T U F' G H1 H2 (wrz n m1 z xs).2 m2 t1 t2 w' ∧ w'.heap[P]? = w.heap[P]? ∧ Kp w (Us F pw G q H1 H2) w' (Us F' pw G q H1 H2) := by
  unfold wrz
  by_cases hz : 0 ≤ z ∧ z < (n : Int)
  · obtain ⟨i, rfl⟩ := Int.eq_ofNat_of_zero_le hz.1
    rw [if_pos hz, Int.toNat_natCast]
    exact (h.pd.write hN i (by omega) hx hA).mono fun e w' ⟨e1, e2, e3⟩ => ⟨e1, _, h.prog0 (Nat.le_succ _) hN e2 e3⟩
  · rw [if_neg hz]
    obtain ⟨fx, a, b, g, x⟩ := h.pd.dv
    cases ho : m1.s.off
    · refine (write_no x h.pd.pw ho z _ (by omega)).mono fun e w' ⟨e1, e2⟩ => ?_
      subst e2
      exact ⟨e1, F, h.more (Nat.le_succ _) hN, rfl, Kp.refl _ _⟩
    · refine (write_off x h.pd.pw ho z _).mono fun e w' ⟨e1, e2⟩ => ?_
      subst e2
      exact ⟨e1, F, h.more (Nat.le_succ _) hN, rfl, Kp.refl _ _⟩
theorem Pr.rwrite {B : ByteArray} (h : Pr w0 P p n N pw D q E T U F G H1 H2 m1 m2 t1 t2 w) (hN : N + 1 ≤ 1000000) (z : Int) (hB : tx xs = .string B) (hl : xs.length = 64) :
    Calls Tryz.prog 36 #[.pointer (some ⟨E, 0, none⟩), .int .i64 z, .string B] w fun e w' => e = .returned (.int .i64 (wrz n m2 z xs).1) ∧ ∃ G', Pr w0 P p n (N + 1) pw D q E T U F G' H1 H2 m1 (wrz n m2 z xs).2 t1 t2 w' ∧ w'.heap[P]? = w.heap[P]? ∧ Kp w (Us F pw G q H1 H2) w' (Us F pw G' q H1 H2) := by
  unfold wrz
  by_cases hz : 0 ≤ z ∧ z < (n : Int)
  · obtain ⟨i, rfl⟩ := Int.eq_ofNat_of_zero_le hz.1
    rw [if_pos hz, Int.toNat_natCast]
    exact (h.rd.write hN i (by omega) hB hl).mono fun e w' ⟨e1, e2, e3⟩ => ⟨e1, _, h.doc (Nat.le_succ _) hN e2 e3⟩
  · rw [if_neg hz]
    obtain ⟨gs, vs, x⟩ := h.rd.rv
    cases ho : m2.s.off
    · refine (rwrite_no x h.rd.qw ho z _ (by omega)).mono fun e w' ⟨e1, e2⟩ => ?_
      subst e2
      exact ⟨e1, G, h.more (Nat.le_succ _) hN, rfl, Kp.refl _ _⟩
    · refine (rwrite_off x h.rd.qw ho z _).mono fun e w' ⟨e1, e2⟩ => ?_
      subst e2
      exact ⟨e1, G, h.more (Nat.le_succ _) hN, rfl, Kp.refl _ _⟩
end
end Go.Proofs.YtgdgehfapfgdfaaGreatDoor.Tb

/-! crash, on a pair. No conditions. -/
namespace Go.Proofs.YtgdgehfapfgdfaaGreatDoor.Tb
set_option maxRecDepth 100000
open Go.RowKit Oc Dm W Dw Sr Gt
set_option linter.unusedVariables false
set_option maxRecDepth 100000
attribute [local go_sem ↓] Go.wp_at_zero Go.wp_at_succ
theorem own_fresh {w : World} {e : TypeId} {B n c b off : Nat} {A : Option Addr} {vs : List Value} (h : Rw.OwnV w e B (.slice A n c) vs) (hl : vs.length = n) (h0 : 0 < n) (hA : A = some ⟨b, off, none⟩) : B ≤ b := by
  rcases h.2 with ⟨e1, h1⟩ | ⟨g, cap, cur, e1, hb, _⟩
  · omega
  · injection e1 with e1 e2 e3
    rw [hA] at e1
    injection e1 with e1
    injection e1 with e1
    omega
theorem fi_set {w : World} {A : Option Addr} {k P : Nat} {fs : List Int} (h : Fi w A k fs) (hP : ∀ b off, 0 < k → A = some ⟨b, off, none⟩ → b ≠ P) (j : Nat) (v : Value) : Fi (w.setCell ⟨P, j, none⟩ v) A k fs :=
  Rw.Sl.heap h (fun b off h0 e => heap_setCell_other _ _ _ _ (hP b off h0 e))
set_option maxHeartbeats 1000000 in
theorem fit_own (w : World) (A B : Option Addr) (k c l c2 : Nat) (ps : List (Nat × Nat)) (fs : List Int) (hp : Lo w A k ps) (hf : Fi w B l fs) (hk : k ≤ 4096) (hm : ∀ x ∈ ps, x.2 ≤ 1000000000) (hl9 : l ≤ 9223372036854775807) :
    Calls Tryz.prog 17 #[.slice A k c, .slice B l c2] w fun e w' => ∃ A' c', e = .returned (.slice A' (fitOf ps fs (min l k)).length c') ∧ Fi w' A' (fitOf ps fs (min l k)).length (fitOf ps fs (min l k)) ∧ (∀ b off, 0 < (fitOf ps fs (min l k)).length → A' = some ⟨b, off, none⟩ → w.heap.size ≤ b) ∧ Below w.heap.size w w' := by
  have HP := Lib.hid hp
  have HF := Lib.hid hf
  have HM := Lib.hid hm
  have hk2 := hp.1
  clear hp hf hm
  go_enter Tryz.func17, Tryz.ntmps17
  go_wp2
  go_loopw [5, 6] (fun v p wr => ∃ j : Nat, j ≤ l ∧ j ≤ k ∧ p = .int .i64 (j : Int) ∧ Hid (Rw.OwnV wr 3 w.heap.size v ((fitOf ps fs j).map (Value.int .i64))) ∧ Hid (Below w.heap.size w wr)) (fun _ p _ => k - (intOf p).toNat)
  case atStart => exact ⟨0, Nat.zero_le _, Nat.zero_le _, rfl, Rw.OwnV.nil _ _ _, Below.refl _ _⟩
  case round =>
    obtain ⟨j, hj, hj2, rfl, OJ, BJ⟩ := hrel
    have hcase : (j < l ∧ j < k) ∨ (l ≤ j) ∨ (j < l ∧ k ≤ j) := by omega
    rcases hcase with ⟨h1, h2⟩ | hend
    · have hfl := HF.out.len
      obtain ⟨f, hf⟩ : ∃ f, fs[j]? = some f := ⟨_, List.getElem?_eq_getElem (by omega)⟩
      obtain ⟨x, hx⟩ : ∃ x, ps[j]? = some x := ⟨_, List.getElem?_eq_getElem (by omega)⟩
      obtain ⟨b1, o1, rfl, cf⟩ := (HF.out.below BJ.out).at_ hf
      obtain ⟨b2, rfl, _, cx⟩ := (HP.out.below BJ.out).at_ hx
      have hx9 := HM.out x (List.mem_of_getElem? hx)
      have ST := Lib.hid (fitOf_step ps fs j)
      rw [show fs.getD j 0 = f by simp [List.getD, hf], show (ps.getD j (0, 0)).2 = x.2 by simp [List.getD, hx]] at ST
      have hj3 : (j : Int) < (l : Int) := by omega
      have hj4 : (j : Int) < (k : Int) := by omega
      have LEN := Lib.hid (fitOf_len ps fs j)
      clear hf hx hfl
      obtain ⟨x1, m⟩ := x
      dsimp only at cx hx9 ST
      have hm1 : ¬ ((m : Int) + 1 = 0) := by omega
      obtain ⟨t, ht⟩ : ∃ t, f.tmod ((m : Int) + 1) = t := ⟨_, rfl⟩
      have hb := fit1_le f m
      have ef : fit1 f m = (t.natAbs : Int) := by rw [fit1, ht]
      rw [ef] at hb ST
      by_cases htn : t < 0
      · have hneg : 0 - t = (t.natAbs : Int) := by omega
        have hlow : -9223372036854775808 ≤ t := by omega
        generalize (t.natAbs : Int) = y at hneg ST hb
        clear ef
        go_wp2_with fail
        go_region
        go_wp2_with (at_builtin; refine Rw.wpList_append_one rfl _ _ 29 rfl itt rfl OJ.out BJ.out.drew _ rfl rfl (by rw [List.length_map, LEN.out]; omega) ?_; intro v2 w2 o2 b2; have O2 := Lib.hid o2; have B2 := Lib.hid b2; clear o2 b2)
        go_roundw
        case rel => exact ⟨j + 1, by omega, by omega, by go_num, by rw [ST.out, List.map_append]; exact O2, B2⟩
        case measure => simp [intOf]; omega
      · have hneg : (t.natAbs : Int) = t := by omega
        rw [hneg] at ST hb
        clear ef hneg
        go_wp2_with fail
        go_region
        go_wp2_with (at_builtin; refine Rw.wpList_append_one rfl _ _ 29 rfl itt rfl OJ.out BJ.out.drew _ rfl rfl (by rw [List.length_map, LEN.out]; omega) ?_; intro v2 w2 o2 b2; have O2 := Lib.hid o2; have B2 := Lib.hid b2; clear o2 b2)
        go_roundw
        case rel => exact ⟨j + 1, by omega, by omega, by go_num, by rw [ST.out, List.map_append]; exact O2, B2⟩
        case measure => simp [intOf]; omega
    · have HJM : Hid (min l k = j) := Lib.hid (by omega)
      have LEN : ((fitOf ps fs j).map (Value.int .i64)).length = (fitOf ps fs j).length := by simp
      obtain ⟨A2, c3, rfl, _, _, sl⟩ := OJ.out.form LEN
      have SL := Lib.hid sl
      have LEN2 := Lib.hid LEN
      clear sl LEN
      rcases hend with hend | ⟨hend, hend2⟩
      all_goals
        go_wp2
        go_ret
        rw [HJM.out]
        exact ⟨A2, c3, rfl, SL.out, fun b off h0 e => own_fresh OJ.out LEN2.out h0 e, BJ.out⟩
def none1 (b : Nat) : Prop := False
section
variable {w0 w wa wb wc : World} {P n N pw D q E pw' D' q' E' ne np ga : Nat} {p : Pn.Pl} {T U T0 U0 : Option Addr} {F G H1 H2 : Nat → Prop} {m m1 m2 : Vs} {t1 t2 : Option (List Gp)} {l c : Nat} {A : Option Addr} {fs : List Int} {S : Nat → Sec} {fx mm r gs : Nat} {vs : Nat → Value}
theorem phead_set {j : Nat} {v : Value} {pw'' D'' q'' E'' : Nat} {T'' U'' : Option Addr} (h : PHead w P p pw D q E T U) (e : (PCs p pw D q E T U).setIfInBounds j v = PCs p pw'' D'' q'' E'' T'' U'') : PHead (w.setCell ⟨P, j, none⟩ v) P p pw'' D'' q'' E'' T'' U'' := by
  unfold PHead
  rw [heap_setCell_same _ _ _ _ _ _ h, e]
theorem set_size (w : World) (a : Addr) (v : Value) : (w.setCell a v).heap.size = w.heap.size := by simp [World.setCell]
set_option maxHeartbeats 1000000 in
theorem cr_done (h : Pr w0 P p n N pw D q E T U F G H1 H2 m1 m2 t1 t2 wa) (hw : w.heap.size ≤ wa.heap.size) (hP : P < w.heap.size) (hU : ∀ b, Us F pw G q H1 H2 b → b < w.heap.size) (hk : Kp' w P (Us F pw G q H1 H2) wa (Us F pw G q H1 H2)) (hd : PHead wa P p pw' D q' E T0 U0)
    (hp : Pw wa pw' ⟨false, none, 0⟩) (hq : Qw wa q' ⟨false, none, 0⟩) (hne : pw' ≠ q') (gp : w.heap.size ≤ pw') (gq : w.heap.size ≤ q') (hS : ∀ i, (S i).loose = [])
    (d : DvAt wb (Fresh wa wb) D' pw' n N S 0 0 fx mm r (fun _ => none)) (b1 : Below wa.heap.size wa wb) (e : RvAt wc (Fresh wb wc) E' q' n S 0 0 gs vs) (b2 : Below wb.heap.size wb wc) :
    Pr w0 P p n N pw' D' q' E' none none (Fresh wa wb) (Fresh wb wc) none1 none1 ⟨⟨false, none, 0⟩, S, 0, 0⟩ ⟨⟨false, none, 0⟩, S, 0, 0⟩ none none ((wc.setCell ⟨P, 27, none⟩ (.pointer (some ⟨D', 0, none⟩))).setCell ⟨P, 30, none⟩ (.pointer (some ⟨E', 0, none⟩))) ∧
    PHead ((wc.setCell ⟨P, 27, none⟩ (.pointer (some ⟨D', 0, none⟩))).setCell ⟨P, 30, none⟩ (.pointer (some ⟨E', 0, none⟩))) P p pw' D' q' E' T0 U0 ∧
    Kp' w P (Us F pw G q H1 H2) ((wc.setCell ⟨P, 27, none⟩ (.pointer (some ⟨D', 0, none⟩))).setCell ⟨P, 30, none⟩ (.pointer (some ⟨E', 0, none⟩))) (Us (Fresh wa wb) pw' (Fresh wb wc) q' none1 none1) := by
  have lp := hp.lt
  have lq := hq.lt
  have s1 := b1.size
  have s2 := b2.size
  have gP := h.lt.2
  have g0 : w0.heap.size ≤ w.heap.size := by omega
  have hsz : ((wc.setCell ⟨P, 27, none⟩ (.pointer (some ⟨D', 0, none⟩))).setCell ⟨P, 30, none⟩ (.pointer (some ⟨E', 0, none⟩))).heap.size = wc.heap.size := by rw [set_size, set_size]
  have ho : ∀ b, b ≠ P → ((wc.setCell ⟨P, 27, none⟩ (.pointer (some ⟨D', 0, none⟩))).setCell ⟨P, 30, none⟩ (.pointer (some ⟨E', 0, none⟩))).heap[b]? = wc.heap[b]? := fun b hb => by rw [heap_setCell_other _ _ _ _ hb, heap_setCell_other _ _ _ _ hb]
  have hc : Chg (fun b => b = P) wc ((wc.setCell ⟨P, 27, none⟩ (.pointer (some ⟨D', 0, none⟩))).setCell ⟨P, 30, none⟩ (.pointer (some ⟨E', 0, none⟩))) :=
    (Chg.of_grown (grown_set wc P 27 _) (fun k e _ => by injection e with e; exact e.symm)).trans (Chg.of_grown (grown_set _ P 30 _) (fun k e _ => by injection e with e; exact e.symm)) (fun _ _ y => y)
  refine ⟨⟨⟨?_, ?_, fun x => ?_, Nat.zero_le _, h.pd.hN⟩, ⟨?_, ⟨gs, vs, ?_⟩, fun x => ?_, fun k e => (by cases e), Nat.zero_le _, fun i hi => (by show (S i).loose.length ≤ N; rw [hS i]; exact Nat.zero_le _), h.pd.hN⟩, rfl, rfl, ⟨⟨fun b => if b = pw' then 1 else if b = q' then 2 else if wa.heap.size ≤ b ∧ b < wb.heap.size then 1 else if wb.heap.size ≤ b ∧ b < wc.heap.size then 2 else if b = P then 5 else 0, fun b x => ?_, fun b x => ?_, fun b x => x.elim, fun b x => x.elim, ?_⟩, fun b x => ?_⟩, ?_⟩, ?_, ?_⟩
  · exact hp.heap (((ho pw' (by omega)).trans (b2.block pw' (by omega))).trans (b1.block pw' lp))
  · exact ⟨fx, mm, r, _, (d.frame (fun _ x => x) (fun k x => by have := x.2; omega) (fun k x => b2.block k x.2)).kept hc (fun k x e => by have := x.1; omega)⟩
  · have := x.1; omega
  · exact hq.heap (((ho q' (by omega)).trans (b2.block q' (by omega))).trans (b1.block q' lq))
  · exact e.kept hc (fun k x e => by have := x.1; omega)
  · have := x.1; omega
  · rcases x with x | x
    · have h1 := x.1
      have h2 := x.2
      show (if b = pw' then 1 else if b = q' then 2 else if wa.heap.size ≤ b ∧ b < wb.heap.size then 1 else if wb.heap.size ≤ b ∧ b < wc.heap.size then 2 else if b = P then 5 else 0) = 1
      rw [if_neg (by omega), if_neg (by omega), if_pos ⟨h1, h2⟩]
    · exact if_pos x
  · rcases x with x | x
    · have h1 := x.1
      have h2 := x.2
      show (if b = pw' then 1 else if b = q' then 2 else if wa.heap.size ≤ b ∧ b < wb.heap.size then 1 else if wb.heap.size ≤ b ∧ b < wc.heap.size then 2 else if b = P then 5 else 0) = 2
      rw [if_neg (by omega), if_neg (by omega), if_neg (by omega), if_pos ⟨h1, h2⟩]
    · show (if b = pw' then 1 else if b = q' then 2 else if wa.heap.size ≤ b ∧ b < wb.heap.size then 1 else if wb.heap.size ≤ b ∧ b < wc.heap.size then 2 else if b = P then 5 else 0) = 2
      rw [if_neg (by omega), if_pos x]
  · show (if P = pw' then 1 else if P = q' then 2 else if wa.heap.size ≤ P ∧ P < wb.heap.size then 1 else if wb.heap.size ≤ P ∧ P < wc.heap.size then 2 else if P = P then 5 else 0) = 5
    rw [if_neg (by omega), if_neg (by omega), if_neg (by omega), if_neg (by omega), if_pos rfl]
  · rw [hsz]
    rcases x with (x | x) | (x | x) | x | x | x
    · have := x.1; have := x.2; omega
    · omega
    · have := x.1; have := x.2; omega
    · omega
    · exact x.elim
    · exact x.elim
    · omega
  · exact ((h.bel.trans (b1.mono h.bel.size)).trans (b2.mono (by omega))).trans (hc.below (by omega) (fun b hb x => by omega))
  · refine phead_set (pw := pw') (D := D') (q := q') (E := E) (T := T0) (U := U0) (phead_set (pw'' := pw') (D'' := D') (q'' := q') (E'' := E) (T'' := T0) (U'' := U0) (hd.of ((b2.block P (by omega)).trans (b1.block P h.lt.1))) ?_) ?_ <;> rfl
  · refine ⟨by rw [hsz]; omega, fun b hb x => ⟨(ho b (fun e => x (.inr e))).trans ((b2.block b (by omega)).trans ((b1.block b (by omega)).trans (hk.at_ b hb x).1)), fun y => ?_⟩⟩
    rcases y with ((y | y) | (y | y) | y | y) | y
    · have := y.1; omega
    · omega
    · have := y.1; omega
    · omega
    · exact y.elim
    · exact y.elim
    · exact x (.inr y)
theorem phead_pd (h : PHead w P p pw D q E T U) : w.cell? ⟨P, 26, none⟩ = some (.pointer (some ⟨pw, 0, none⟩)) ∧ w.cell? ⟨P, 27, none⟩ = some (.pointer (some ⟨D, 0, none⟩)) ∧ w.cell? ⟨P, 29, none⟩ = some (.pointer (some ⟨q, 0, none⟩)) ∧ w.cell? ⟨P, 30, none⟩ = some (.pointer (some ⟨E, 0, none⟩)) ∧ ∀ j, w.frozen? ⟨P, j, none⟩ = false :=
  ⟨(h.cell 26).1, (h.cell 27).1, (h.cell 29).1, (h.cell 30).1, fun j => (h.cell j).2⟩
set_option maxHeartbeats 8000000 in
theorem pair_crash (h : Pr w0 P p n N pw D q E T U F G H1 H2 m m t1 t2 w) (hh : PHead w P p pw D q E T0 U0) (hf : Fi w A l fs) (hl : l ≤ maxLen) :
    Calls Tryz.prog 33 #[.pointer (some ⟨P, 0, none⟩), .slice A l c] w fun e w' => e = .returned (.bool true) ∧ ∃ pw' D' q' E' F' G', Pr w0 P p n N pw' D' q' E' none none F' G' none1 none1 (crashed n m.S fs) (crashed n m.S fs) none none w' ∧ PHead w' P p pw' D' q' E' T0 U0 ∧ Kp' w P (Us F pw G q H1 H2) w' (Us F' pw' G' q' none1 none1) := by
  have H := Lib.hid h
  have HH := Lib.hid hh
  have HF := Lib.hid hf
  have hl9 : l ≤ 9223372036854775807 := by unfold maxLen at hl; omega
  have hfl := hf.len
  have HP : Hid (P < w.heap.size) := h.lt.1
  have HU : Hid (∀ b, Us F pw G q H1 H2 b → b < w.heap.size) := fun b x => (h.ubound x).2
  obtain ⟨hn4, hsec⟩ := h.pd.secs
  have hN6 := h.pd.hN
  have HM : Hid (∀ x ∈ looseOf n m.S, x.2 ≤ 1000000000) := fun x hx => by
    obtain ⟨m1, m2, m3⟩ := mem_loose.1 hx
    have := (hsec x.1 m1).1
    omega
  have HBD : Hid (∀ i, i < n → (m.S i).loose.length ≤ 1000000000) := fun i hi => by have := (hsec i hi).1; omega
  have hL4 := loose_len n m.S
  have HCR : Hid (crashed n m.S fs = ⟨⟨false, none, 0⟩, crashTo n m.S (fits n m.S fs) (fits n m.S fs).length, 0, 0⟩) := rfl
  generalize crashed n m.S fs = mc at HCR
  unfold fits at HCR
  rw [hfl] at HCR
  have HCL : Hid (∀ i, (crashTo n m.S (fitOf (looseOf n m.S) fs (min l (looseOf n m.S).length)) (fitOf (looseOf n m.S) fs (min l (looseOf n m.S).length)).length i).loose = []) := fun i => crashTo_loose _ _ _ _ _
  clear h hh hf hfl hsec hl
  obtain ⟨gs, vs, rv⟩ := H.out.rd.rv
  have RV := Lib.hid rv
  clear rv
  obtain ⟨c26, c27, c29, c30, cf⟩ := phead_pd HH.out
  go_enter Tryz.func33, Tryz.ntmps33
  go_wp2_with fail
  refine (rloose_any RV.out).mono ?_; rintro e w1 ⟨A1, c1, rfl, lo1, b1⟩
  have LO1 := Lib.hid lo1
  have B1 := Lib.hid b1
  have F1 := Lib.hid (HF.out.below b1)
  clear lo1 b1 c26 c27 c29 c30 cf RV
  go_wp2_with fail
  refine (fit_own w1 A1 A _ _ l _ (looseOf n m.S) fs LO1.out F1.out (by omega) HM.out hl9).mono ?_; rintro e w2 ⟨A2, c2, rfl, f2, r2, b2⟩
  have RP : Hid (∀ b off, 0 < (fitOf (looseOf n m.S) fs (min l (looseOf n m.S).length)).length → A2 = some ⟨b, off, none⟩ → b ≠ P) := fun b off h0 e => by have := r2 b off h0 e; have := B1.out.size; have := HP.out; omega
  have FT2 := Lib.hid f2
  have B2 := Lib.hid (bthen B1.out b2)
  have HK : Hid ((fitOf (looseOf n m.S) fs (min l (looseOf n m.S).length)).length ≤ (looseOf n m.S).length) := by rw [fitOf_len]; exact Nat.min_le_right _ _
  have HG : Hid (∀ i, i < (fitOf (looseOf n m.S) fs (min l (looseOf n m.S).length)).length → Dw.Good (looseOf n m.S) (fitOf (looseOf n m.S) fs (min l (looseOf n m.S).length)) i) := fun i _ => fitOf_good _ _ _ i
  clear f2 b2 r2 B1 F1 LO1
  generalize fitOf (looseOf n m.S) fs (min l (looseOf n m.S).length) = ft at FT2 HK HG HCR HCL RP ⊢
  have hft : ft.length ≤ 4096 := by have := HK.out; omega
  generalize hflg : ft.length = fl at FT2 HK HG HCR HCL RP hft ⊢
  clear hflg
  go_wp2_with fail
  refine (newpower_any _).mono ?_; rintro e w3 ⟨rfl, p3, b3, z3⟩
  have P3 := Lib.hid p3
  have B3 := Lib.hid (bthen B2.out b3)
  have FT3 := Lib.hid (FT2.out.below b3)
  have hpw : w.heap.size ≤ w2.heap.size := B2.out.size
  generalize w2.heap.size = pw' at P3 z3 hpw ⊢
  have PR3 := Lib.hid (H.out.below B3.out)
  have PH3 := Lib.hid (HH.out.below B3.out)
  clear p3 b3 B2 FT2
  obtain ⟨c26, c27, c29, c30, cf⟩ := phead_pd PH3.out
  obtain ⟨w4, hw4⟩ : ∃ x, (w3.setCell ⟨P, 26, none⟩ (.pointer (some ⟨pw', 0, none⟩))).alloc (.cells #[.bool false, .bool false, .int .i64 0, .int .i64 0] 87) = x := ⟨_, rfl⟩
  have z3' : (w3.setCell ⟨P, 26, none⟩ (.pointer (some ⟨pw', 0, none⟩))).heap.size = pw' + 1 := by rw [set_size]; exact z3
  have b4 : Below (w3.setCell ⟨P, 26, none⟩ (.pointer (some ⟨pw', 0, none⟩))).heap.size (w3.setCell ⟨P, 26, none⟩ (.pointer (some ⟨pw', 0, none⟩))) w4 := by rw [← hw4]; exact balloc _ _
  have PR4 := Lib.hid ((PR3.out.store 26 (.pointer (some ⟨pw', 0, none⟩))).below b4)
  have PH4 : Hid (PHead w4 P p pw' D q E T0 U0) := (phead_set (pw'' := pw') (D'' := D) (q'' := q) (E'' := E) (T'' := T0) (U'' := U0) PH3.out rfl).below b4
  have hPp : P ≠ pw' := by have := HP.out; omega
  have hPq : pw' + 1 ≠ P := by have : P < w.heap.size := HP.out; omega
  have P4 : Hid (Pw w4 pw' ⟨false, none, 0⟩) := P3.out.heap ((b4.block pw' (by rw [z3']; omega)).trans (heap_setCell_other _ _ _ _ (fun e => hPp e.symm)))
  have Q4 : Hid (Qw w4 (pw' + 1) ⟨false, none, 0⟩) := by
    have := qw_box (w3.setCell ⟨P, 26, none⟩ (.pointer (some ⟨pw', 0, none⟩)))
    rw [z3', hw4] at this
    exact this
  have K4 : Hid (Kp' w P (Us F pw G q H1 H2) w4 (Us F pw G q H1 H2)) := ((Kp'.of_below B3.out P _).cell 26 _).trans (Kp'.of_below b4 P _)
  have FT4 : Hid (Fi w4 A2 fl ft) := (fi_set FT3.out RP.out 26 _).below b4
  have k29 : ((w3.setCell ⟨P, 26, none⟩ (.pointer (some ⟨pw', 0, none⟩))).alloc (.cells #[.bool false, .bool false, .int .i64 0, .int .i64 0] 87)).cell? ⟨P, 29, none⟩ = some (.pointer (some ⟨q, 0, none⟩)) := by rw [hw4]; exact (phead_pd PH4.out).2.2.1
  have kf : ((w3.setCell ⟨P, 26, none⟩ (.pointer (some ⟨pw', 0, none⟩))).alloc (.cells #[.bool false, .bool false, .int .i64 0, .int .i64 0] 87)).frozen? ⟨P, 29, none⟩ = false := by rw [hw4]; exact (phead_pd PH4.out).2.2.2.2 29
  have HW4 := Lib.hid hw4
  clear hw4 b4
  go_wp2_with fail
  rw [HW4.out]
  clear k29 kf c26 c27 c29 c30 cf HW4
  have PR5 := Lib.hid (PR4.out.store 29 (.pointer (some ⟨pw' + 1, 0, none⟩)))
  have PH5 : Hid (PHead (w4.setCell ⟨P, 29, none⟩ (.pointer (some ⟨pw' + 1, 0, none⟩))) P p pw' D (pw' + 1) E T0 U0) := phead_set (pw'' := pw') (D'' := D) (q'' := pw' + 1) (E'' := E) (T'' := T0) (U'' := U0) PH4.out rfl
  have P5 : Hid (Pw (w4.setCell ⟨P, 29, none⟩ (.pointer (some ⟨pw' + 1, 0, none⟩))) pw' ⟨false, none, 0⟩) := P4.out.heap (heap_setCell_other _ _ _ _ (fun e => hPp e.symm))
  have Q5 : Hid (Qw (w4.setCell ⟨P, 29, none⟩ (.pointer (some ⟨pw' + 1, 0, none⟩))) (pw' + 1) ⟨false, none, 0⟩) := Q4.out.heap (heap_setCell_other _ _ _ _ hPq)
  have K5 : Hid (Kp' w P (Us F pw G q H1 H2) (w4.setCell ⟨P, 29, none⟩ (.pointer (some ⟨pw' + 1, 0, none⟩))) (Us F pw G q H1 H2)) := K4.out.cell 29 _
  have FT5 := Lib.hid (fi_set FT4.out RP.out 29 (.pointer (some ⟨pw' + 1, 0, none⟩)))
  generalize w4.setCell ⟨P, 29, none⟩ (.pointer (some ⟨pw' + 1, 0, none⟩)) = w5 at PR5 PH5 P5 Q5 K5 FT5 ⊢
  clear PR4 PH4 P4 Q4 K4 FT4 z3' z3 PR3 PH3 P3 B3 FT3
  obtain ⟨c26, c27, c29, c30, cf⟩ := phead_pd PH5.out
  have KC : Hid (∀ y, Below w5.heap.size w5 y → Calls Tryz.prog 15 #[.pointer (some ⟨D, 0, none⟩), .pointer (some ⟨pw', 0, none⟩), .slice A2 fl c2] y (Crashed y pw' n N (crashTo n m.S ft fl))) := fun y hy => by
    obtain ⟨fx, a, b, g, x⟩ := (PR5.out.below hy).pd.dv
    exact crash_ok x (P5.out.heap (hy.block _ P5.out.lt)) (FT5.out.below hy) HK.out HG.out
  go_region_held (fun x => x.cell? ⟨P, 26, none⟩ = some (.pointer (some ⟨pw', 0, none⟩)) ∧ x.cell? ⟨P, 27, none⟩ = some (.pointer (some ⟨D, 0, none⟩))) (first | go_keep | exact ⟨(phead_pd PH6.out).1, (phead_pd PH6.out).2.1⟩)
    (first
      | (go_at_call 15; (with_reducible refine (KC.out _ (below_drew1 _)).mono ?_); rintro e w6 ⟨D', fx6, m6, r6, rfl, hD6, d6, b6⟩; have B6 : Hid (Below w5.heap.size w5 w6) := bthen (below_drew1 _) b6; have D6 : Hid (DvAt w6 (Fresh w5 w6) D' pw' n N (crashTo n m.S ft fl) 0 0 fx6 m6 r6 (fun _ => none)) := d6; have PH6 := Lib.hid (PH5.out.below B6.out); clear d6 b6 hD6))
  all_goals
    clear c26 c27 c29 c30 cf KC
    obtain ⟨c26, c27, c29, c30, cf⟩ := phead_pd PH6.out
    have KC : Hid (∀ y, Below w6.heap.size w6 y → Calls Tryz.prog 72 #[.pointer (some ⟨E, 0, none⟩), .pointer (some ⟨pw' + 1, 0, none⟩), .slice A2 fl c2] y (RCrashed y (pw' + 1) n (crashTo n m.S ft fl))) := fun y hy => by
      obtain ⟨gs, vs, x⟩ := ((PR5.out.below B6.out).below hy).rd.rv
      exact rcrash_ok x HBD.out ((FT5.out.below B6.out).below hy) HK.out HG.out
    go_wp2_with fail
    go_region_held (fun x => x.cell? ⟨P, 29, none⟩ = some (.pointer (some ⟨pw' + 1, 0, none⟩)) ∧ x.cell? ⟨P, 30, none⟩ = some (.pointer (some ⟨E, 0, none⟩))) (first | go_keep | exact ⟨(phead_pd PH7.out).2.2.1, (phead_pd PH7.out).2.2.2.1⟩)
      (first
        | (go_at_call 72; (with_reducible refine (KC.out _ (below_drew1 _)).mono ?_); rintro e w7 ⟨E', gs7, vs7, rfl, hE7, d7, b7⟩; have B7 : Hid (Below w6.heap.size w6 w7) := bthen (below_drew1 _) b7; have D7 : Hid (RvAt w7 (Fresh w6 w7) E' (pw' + 1) n (crashTo n m.S ft fl) 0 0 gs7 vs7) := d7; have PH7 := Lib.hid (PH6.out.below B7.out); clear d7 b7 hE7))
    all_goals
      clear c26 c27 c29 c30 cf KC
      obtain ⟨c26, c27, c29, c30, cf⟩ := phead_pd PH7.out
      go_wp2
      go_ret
      rw [HCR.out]
      obtain ⟨r1, r2, r3⟩ := cr_done (w := w) PR5.out K5.out.size HP.out HU.out K5.out PH5.out P5.out Q5.out (by omega) hpw (by omega) HCL.out D6.out B6.out D7.out B7.out
      exact ⟨rfl, _, _, _, _, _, _, r1, r2, r3⟩
end
end Go.Proofs.YtgdgehfapfgdfaaGreatDoor.Tb
