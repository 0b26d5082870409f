/-
  What stands on a device that bears a log: which sectors a crash may leave, and what is read of them: plain facts. No conditions.
-/
import Derived.Test.YtikbbikcacoobaaGreatDoorIvSd
namespace Go.Proofs.YtikbbikcacoobaaGreatDoor.Pd.Iv
open Go.RowKit Oc Dm W Dw Sr Gt
set_option linter.unusedVariables false
set_option maxRecDepth 100000

/-- what a sector may hold behind a crash -/
def Mays (s : Sec) (x : List UInt8) : Prop := x = s.fixed ∨ x ∈ s.loose
/-- A LOG ON ITS DEVICE: all records that were appended from f0 on, and how many of them were flushed -/
structure Keeps (la lg f0 : Nat) (S : Nat → Sec) (g : Lg) (all : List Rc) (fl : Nat) : Prop where
  len : g.nx = f0 + all.length
  lo : f0 ≤ g.f
  le : g.f ≤ g.nx
  win : g.nx ≤ g.f + lg
  fle : fl ≤ all.length
  num : ∀ (i : Nat) (r : Rc), all[i]? = some r → r.q = f0 + i ∧ MayBe r ∧ r.h ≤ g.ep
  mono : ∀ (i : Nat) (r s : Rc), all[i]? = some r → all[i + 1]? = some s → r.h ≤ s.h
  may : ∀ t, t < lg → ∀ x, Mays (S (la + t)) x → (gd x).2 ≠ 0 ∨ ∃ (j : Nat) (r : Rc), all[j]? = some r ∧ x = sect r ∧ (f0 + j) % lg = t
  st : ∀ (i : Nat) (r : Rc), all[i]? = some r → g.f ≤ f0 + i → (S (la + (f0 + i) % lg)).stands = sect r
  fx : ∀ (i : Nat) (r : Rc), all[i]? = some r → g.f ≤ f0 + i → i < fl → ∀ x, Mays (S (la + (f0 + i) % lg)) x → x = sect r
theorem mays_stands (s : Sec) : Mays s s.stands := by
  by_cases h : s.loose = []
  · rw [Sec.stands_fixed h]; exact .inl rfl
  · rw [Sec.stands_loose h]
    have hl : s.loose.length ≠ 0 := fun e => h (List.eq_nil_of_length_eq_zero e)
    have hlt : s.loose.length - 1 < s.loose.length := by omega
    refine .inr ?_
    rw [List.getD_eq_getElem?_getD, List.getElem?_eq_getElem hlt, Option.getD_some]
    exact List.getElem_mem hlt
theorem mays_flush {S : Nat → Sec} {i : Nat} {x : List UInt8} (h : Mays (flushS S i) x) : x = (S i).stands := by
  rcases h with h | h
  · rw [h]
    unfold flushS
    split
    · rename_i e; rw [Sec.stands_fixed e]
    · rfl
  · rw [flushS_loose] at h; cases h
theorem stands_flush (S : Nat → Sec) (i : Nat) : (flushS S i).stands = (S i).stands := by
  rw [flushS_stands]
  unfold flushS
  split
  · rename_i e; rw [Sec.stands_fixed e]
  · rfl
theorem mays_wrote {S : Nat → Sec} {i j : Nat} {xs x : List UInt8} (h : Mays (wrote S i xs j) x) : Mays (S j) x ∨ (j = i ∧ x = xs) := by
  unfold wrote at h
  by_cases e : j = i
  · subst e
    rw [upd_same] at h
    rcases h with h | h
    · exact .inl (.inl h)
    · rcases List.mem_append.1 h with h | h
      · exact .inl (.inr h)
      · exact .inr ⟨rfl, List.mem_singleton.1 h⟩
  · rw [upd_other _ _ e] at h; exact .inl h
theorem stands_wrote {S : Nat → Sec} {i : Nat} {xs : List UInt8} : (wrote S i xs i).stands = xs := by
  unfold wrote
  rw [upd_same, Sec.stands_loose (by simp)]
  dsimp only
  rw [List.length_append, List.length_singleton, Nat.add_sub_cancel, List.getD_eq_getElem?_getD, List.getElem?_append_right (Nat.le_refl _), Nat.sub_self]
  rfl
theorem wrote_other {S : Nat → Sec} {i j : Nat} {xs : List UInt8} (h : j ≠ i) : wrote S i xs j = S j := by unfold wrote; exact upd_other _ _ h
/-- two numbers within a window stand in two sectors -/
theorem apart {lg f a b : Nat} (h1 : f ≤ a) (h2 : a < b) (h3 : b < f + lg) : a % lg ≠ b % lg := by
  intro e
  have ha := Nat.div_add_mod a lg
  have hb := Nat.div_add_mod b lg
  have hd : lg * (b / lg) = lg * (a / lg) + (b - a) := by omega
  have : b / lg ≠ a / lg := fun x => by rw [x] at hd; omega
  have : a / lg < b / lg := by
    rcases Nat.lt_or_ge (a / lg) (b / lg) with h | h
    · exact h
    · have := Nat.mul_le_mul_left lg h; omega
  have := Nat.mul_le_mul_left lg this
  rw [Nat.mul_succ] at this
  omega
section
variable {la lg f0 fl n : Nat} {S : Nat → Sec} {m m' : Vs} {g : Lg} {all : List Rc}
theorem keeps_start (hl : 1 ≤ lg) : Keeps la lg f0 m00.S ⟨f0, f0, 0⟩ [] 0 :=
  ⟨rfl, Nat.le_refl _, Nat.le_refl _, Nat.le_add_right _ _, Nat.le_refl _, fun i r h => by simp at h, fun i r s h => by simp at h, fun t ht x hx => by
    rcases hx with h | h
    · rw [h]; exact .inl gd_zs
    · exact absurd h (by show ¬ x ∈ []; simp), fun i r h => by simp at h, fun i r h => by simp at h⟩
/-- the device has done something, but not to its sectors -/
theorem Keeps.same (h : Keeps la lg f0 S g all fl) {S' : Nat → Sec} (e : S' = S) : Keeps la lg f0 S' g all fl := e ▸ h
theorem Keeps.cut (h : Keeps la lg f0 S g all fl) (t : Nat) : Keeps la lg f0 S (cutG t g) all fl := by
  unfold cutG
  split
  · rename_i ht
    exact ⟨h.len, Nat.le_trans h.lo ht.1, ht.2, by have := h.win; show g.nx ≤ t + lg; omega, h.fle, h.num, h.mono, h.may, fun i r hr hi => h.st i r hr (Nat.le_trans ht.1 hi), fun i r hr hi => h.fx i r hr (Nat.le_trans ht.1 hi)⟩
  · exact h
theorem Keeps.beg (h : Keeps la lg f0 S g all fl) (t : Nat) : Keeps la lg f0 S (begG t g) all fl := by
  unfold begG
  split
  · rename_i ht
    exact ⟨h.len, h.lo, h.le, h.win, h.fle, fun i r hr => ⟨(h.num i r hr).1, (h.num i r hr).2.1, Nat.le_trans (h.num i r hr).2.2 ht.1⟩, h.mono, h.may, h.st, h.fx⟩
  · exact h
theorem Keeps.flush (h : Keeps la lg f0 S g all fl) : Keeps la lg f0 (flushS S) g all all.length :=
  ⟨h.len, h.lo, h.le, h.win, Nat.le_refl _, h.num, h.mono, fun t ht x hx => by rw [mays_flush hx]; exact h.may t ht _ (mays_stands _), fun i r hr hi => by rw [stands_flush]; exact h.st i r hr hi, fun i r hr hi _ x hx => by rw [mays_flush hx]; exact h.st i r hr hi⟩
theorem Keeps.flush_any (h : Keeps la lg f0 m.S g all fl) : Keeps la lg f0 (fl1 m).2.S g all (if (fl1 m).1 = 0 then all.length else fl) := by
  unfold fl1
  split
  · rw [if_neg (show ¬ (80 : Int) = 0 by decide)]; exact h
  · split
    · rw [if_neg (show ¬ (80 : Int) = 0 by decide)]; exact h
    · rw [if_pos rfl]; exact h.flush
theorem Keeps.wrote (h : Keeps la lg f0 S g all fl) (hr : g.nx < g.f + lg) {p : Rc} (hp : MayBe p) (h1 : p.q = g.nx) (h2 : p.h = g.ep) : Keeps la lg f0 (wrote S (la + g.nx % lg) (sect p)) ⟨g.f, g.nx + 1, g.ep⟩ (all ++ [p]) fl := by
  have hl : 0 < lg := by have := h.le; omega
  have he : f0 + all.length = g.nx := h.len.symm
  have cases_ : ∀ (i : Nat) (r : Rc), (all ++ [p])[i]? = some r → (i < all.length ∧ all[i]? = some r) ∨ (i = all.length ∧ r = p) := fun i r hi => by
    by_cases hlt : i < all.length
    · rw [List.getElem?_append_left hlt] at hi; exact .inl ⟨hlt, hi⟩
    · rw [List.getElem?_append_right (by omega)] at hi
      have hz : i - all.length = 0 := by
        rcases Nat.eq_zero_or_pos (i - all.length) with hz | hz
        · exact hz
        · rw [List.getElem?_eq_none (by simp; omega)] at hi; cases hi
      rw [hz] at hi
      injection hi with hi
      exact .inr ⟨by omega, hi.symm⟩
  have oth : ∀ i, i < all.length → g.f ≤ f0 + i → la + (f0 + i) % lg ≠ la + g.nx % lg := fun i hi hf e => apart (lg := lg) hf (show f0 + i < g.nx by omega) hr (by omega)
  refine ⟨by rw [List.length_append]; show g.nx + 1 = _; rw [← he]; rfl, h.lo, Nat.le_succ_of_le h.le, hr, by rw [List.length_append]; exact Nat.le_trans h.fle (Nat.le_add_right _ _), fun i r hi => ?_, fun i r s hi hs => ?_, fun t ht x hx => ?_, fun i r hi hf => ?_, fun i r hi hf hfl x hx => ?_⟩
  · rcases cases_ i r hi with ⟨_, hi⟩ | ⟨rfl, rfl⟩
    · exact h.num i r hi
    · exact ⟨h1.trans he.symm, hp, Nat.le_of_eq h2⟩
  · rcases cases_ i r hi with ⟨hlt, hi2⟩ | ⟨rfl, rfl⟩
    · rcases cases_ (i + 1) s hs with ⟨_, hs2⟩ | ⟨_, es⟩
      · exact h.mono i r s hi2 hs2
      · rw [es, h2]; exact (h.num i r hi2).2.2
    · rcases cases_ (all.length + 1) s hs with ⟨hlt, hs⟩ | ⟨e, _⟩ <;> omega
  · rcases mays_wrote hx with hx | ⟨e, rfl⟩
    · rcases h.may t ht x hx with h | ⟨j, r, hj, hx, ht⟩
      · exact .inl h
      · exact .inr ⟨j, r, by rw [List.getElem?_append_left (List.getElem?_eq_some_iff.1 hj).1]; exact hj, hx, ht⟩
    · exact .inr ⟨all.length, p, by simp, rfl, by rw [he]; omega⟩
  · rcases cases_ i r hi with ⟨hlt, hi⟩ | ⟨rfl, rfl⟩
    · rw [wrote_other (oth i hlt hf)]; exact h.st i r hi hf
    · rw [he]; exact stands_wrote
  · rcases cases_ i r hi with ⟨hlt, hi⟩ | ⟨rfl, rfl⟩
    · rw [wrote_other (oth i hlt hf)] at hx; exact h.fx i r hi hf hfl x hx
    · exact absurd hfl (by have := h.fle; omega)
/-- a record appended -/
theorem Keeps.app (h : Keeps la lg f0 m.S g all fl) (p : Rc) (h1 : p.q = g.nx) (h2 : p.h = g.ep) : Keeps la lg f0 (app la lg p g m).2.2.S (app la lg p g m).2.1 (if (app la lg p g m).1 = 0 then all ++ [p] else all) fl := by
  unfold Iv.app
  split
  · rw [if_neg (show ¬ (5 : Int) = 0 by decide)]; exact h
  · rename_i hr
    split
    · rw [if_neg (show ¬ (1 : Int) = 0 by decide)]; exact h
    · rename_i hm
      have hm := Classical.not_not.1 hm
      dsimp only
      unfold wr1
      split
      · rw [if_neg (show ¬ (80 : Int) = 0 by decide), if_neg (show ¬ (80 : Int) = 0 by decide)]; exact h
      · split
        · rw [if_neg (show ¬ (80 : Int) = 0 by decide), if_neg (show ¬ (80 : Int) = 0 by decide)]; exact h
        · split
          · rw [if_neg (show ¬ (81 : Int) = 0 by decide), if_neg (show ¬ (81 : Int) = 0 by decide)]; exact h
          · rw [if_pos rfl, if_pos rfl]
            have := h.win
            have := h.le
            exact h.wrote (by omega) hm h1 h2
/-- what is got of a quiet device -/
theorem gt_calm (ho : m.s.off = false) (hr : m.rd = 0) (q : Nat) : gt la lg m q = ((gd (m.S (la + q % lg)).stands).1, decide ((gd (m.S (la + q % lg)).stands).2 = 0), m) := by
  have e : rd1 m (la + q % lg) = (0, (m.S (la + q % lg)).stands, m) := by
    unfold rd1
    rw [if_neg (by rw [ho]; decide), if_neg (by rw [hr]; decide)]
    have : m.rd / 2 = m.rd := by rw [hr]
    rw [this]
  exact gt_got e rfl
/-- what is read of a quiet device on which each sector holds what it may -/
theorem Keeps.rdl (h : Keeps la lg f0 S g all fl) (hl : 1 ≤ lg) (ho : m.s.off = false) (hr : m.rd = 0) (hm : ∀ t, t < lg → Mays (S (la + t)) (m.S (la + t)).stands) : ∀ (k i hh : Nat), g.f ≤ f0 + i → i ≤ all.length → (∀ r, all[i]? = some r → hh ≤ r.h) →
    ∃ l, rdl la lg g.ep k (f0 + i) hh m = ((all.drop i).take l, m) ∧ l ≤ all.length - i ∧ (fl ≤ i + l ∨ k ≤ l)
  | 0, i, hh, _, _, _ => ⟨0, rfl, Nat.zero_le _, .inr (Nat.le_refl _)⟩
  | k + 1, i, hh, hf, hi, hs => by
    have ht : (f0 + i) % lg < lg := Nat.mod_lt _ hl
    have hx := hm _ ht
    have hg := gt_calm (la := la) (lg := lg) ho hr (f0 + i)
    have stop : (¬ (decide ((gd (m.S (la + (f0 + i) % lg)).stands).2 = 0) = true ∧ (gd (m.S (la + (f0 + i) % lg)).stands).1.q = f0 + i ∧ hh ≤ (gd (m.S (la + (f0 + i) % lg)).stands).1.h ∧ (gd (m.S (la + (f0 + i) % lg)).stands).1.h ≤ g.ep)) → (∀ r, all[i]? = some r → (m.S (la + (f0 + i) % lg)).stands ≠ sect r) → ∃ l, Iv.rdl la lg g.ep (k + 1) (f0 + i) hh m = ((all.drop i).take l, m) ∧ l ≤ all.length - i ∧ (fl ≤ i + l ∨ k + 1 ≤ l) := fun hn hne => by
      refine ⟨0, by rw [rdl_no hg hn]; rfl, Nat.zero_le _, .inl ?_⟩
      rcases Nat.lt_or_ge i fl with hlt | hge
      · have hq : i < all.length := Nat.lt_of_lt_of_le hlt h.fle
        have hri := List.getElem?_eq_getElem hq
        exact absurd (h.fx i _ hri hf hlt _ hx) (hne _ hri)
      · exact hge
    rcases h.may _ ht _ hx with hb | ⟨j, r, hj, hxe, hjt⟩
    · refine stop (fun x => hb (of_decide_eq_true x.1)) (fun r hri e => hb ?_)
      rw [e, gd_sect (h.num i r hri).2.1]
    · obtain ⟨n1, n2, n3⟩ := h.num j r hj
      have hgd : gd (m.S (la + (f0 + i) % lg)).stands = (r, 0) := by rw [hxe]; exact gd_sect n2
      by_cases hji : j = i
      · subst hji
        rw [hgd] at hg
        have hj2 := (List.getElem?_eq_some_iff.1 hj)
        have hjl := hj2.1
        obtain ⟨l, e1, e2, e3⟩ := Keeps.rdl h hl ho hr hm k (j + 1) r.h (by omega) (by omega) (fun s hs2 => h.mono j r s hj hs2)
        refine ⟨l + 1, ?_, by omega, by omega⟩
        rw [rdl_yes hg n1 (hs r hj) n3, show f0 + j + 1 = f0 + (j + 1) by omega, e1]
        rw [List.drop_eq_getElem_cons hj2.1, hj2.2, List.take_succ_cons]
      · refine stop (fun x => hji ?_) (fun s hsi e => hji ?_)
        · have := x.2.1
          rw [hgd] at this
          dsimp only at this
          omega
        · have n4 := (h.num i s hsi).2.1
          have : gd (m.S (la + (f0 + i) % lg)).stands = (s, 0) := by rw [e]; exact gd_sect n4
          rw [hgd] at this
          injection this with this
          have := (h.num i s hsi).1
          subst_vars
          omega
theorem crash_mays (S : Nat → Sec) (fs : List Int) (i : Nat) : Mays (S i) ((crashed n S fs).S i).stands := by
  have hl : ((crashed n S fs).S i).loose = [] := crashTo_loose _ _ _ _ _
  rw [Sec.stands_fixed hl]
  rcases crashTo_one (fun j => fitOf_good _ _ _ j) (fits n S fs).length i with e | ⟨j, hj, e⟩
  · exact .inl e
  · refine .inr ?_
    show (crashTo n S (fits n S fs) (fits n S fs).length i).fixed ∈ _
    unfold fits at e ⊢
    rw [e, List.getD_eq_getElem?_getD, List.getElem?_eq_getElem hj, Option.getD_some]
    exact List.getElem_mem hj
/-- WHAT IS READ BEHIND A CRASH: the first ones, all that were flushed among them -/
theorem Keeps.crash (h : Keeps la lg f0 S g all fl) (hl : 1 ≤ lg) (fs : List Int) : ∃ l, Iv.rdl la lg g.ep lg g.f 0 (crashed n S fs) = ((all.drop (g.f - f0)).take l, crashed n S fs) ∧ g.f - f0 ≤ all.length ∧ l ≤ all.length - (g.f - f0) ∧ fl ≤ (g.f - f0) + l := by
  have h1 := h.lo
  have h2 := h.le
  have h3 := h.len
  have h4 := h.win
  have h5 := h.fle
  obtain ⟨l, e1, e2, e3⟩ := h.rdl (m := crashed n S fs) hl rfl rfl (fun t _ => crash_mays S fs (la + t)) lg (g.f - f0) 0 (by omega) (by omega) (fun _ _ => Nat.zero_le _)
  rw [show f0 + (g.f - f0) = g.f by omega] at e1
  exact ⟨l, e1, by omega, e2, by omega⟩
end
end Go.Proofs.YtikbbikcacoobaaGreatDoor.Pd.Iv
