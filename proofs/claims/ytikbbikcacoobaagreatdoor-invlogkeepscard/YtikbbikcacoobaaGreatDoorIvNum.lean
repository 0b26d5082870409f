/-
  A log as the document tells of it, on one device and its power: plain facts. No conditions.
-/
import Derived.Test.YtikbbikcacoobaaGreatDoorKRec
import Derived.Test.YtikbbikcacoobaaGreatDoorPdBase
import Derived.Test.YtikbbikcacoobaaGreatDoorKPlan
namespace Go.Proofs.YtikbbikcacoobaaGreatDoor.Pd.Iv
open Go.RowKit Oc Dm W Dw
set_option linter.unusedVariables false

/-- a plan in plain numbers: where the log begins, how many sectors it has, how many the device has -/
structure Pln (p : Pn.Pl) (la lg n : Nat) : Prop where
  h6 : p.a6 = (la : Int)
  h7 : p.a7 = (lg : Int)
  h12 : p.a12 = (n : Int)
  hn : la + lg ≤ n
  hn2 : n ≤ 4096
  hl : 1 ≤ lg
  hl2 : lg ≤ 256
open Classical in
/-- what is got of a sector -/
noncomputable def gd (ys : List UInt8) : Rc × Int :=
  if getE ys 2 ≠ 0 then (zr, getE ys 2) else if MayBe (dec (getL ys 2)) ∧ W.blank ((getL ys 2).drop 27) = true then (dec (getL ys 2), 0) else (zr, 31)
theorem gd_way (ys : List UInt8) : GWay ys (gd ys).1 (gd ys).2 := by
  unfold gd
  by_cases h : getE ys 2 = 0
  · rw [if_neg (fun h2 => h2 h)]
    by_cases h2 : MayBe (dec (getL ys 2)) ∧ W.blank ((getL ys 2).drop 27) = true
    · rw [if_pos h2]; exact .inr (.inr (.inr ⟨h, rfl, rfl, h2.1, h2.2⟩))
    · rw [if_neg h2]
      by_cases h3 : MayBe (dec (getL ys 2))
      · cases hb : W.blank ((getL ys 2).drop 27)
        · exact .inr (.inr (.inl ⟨h, rfl, rfl, h3, hb⟩))
        · exact absurd ⟨h3, hb⟩ h2
      · exact .inr (.inl ⟨h, rfl, rfl, h3⟩)
  · rw [if_pos h]; exact .inl ⟨h, rfl, rfl⟩
theorem gd_sect {p : Rc} (h : MayBe p) : gd (sect p) = (p, 0) := by
  have h1 : dec (getL (sect p) 2) = p := by rw [sect_got]; exact dec_pay h _
  have h2 : W.blank ((getL (sect p) 2).drop 27) = true := by rw [sect_got, List.drop_left' (pay_length p)]; exact W.blank_zeros 31
  unfold gd
  rw [if_neg (fun x => x (sect_get p)), if_pos ⟨by rw [h1]; exact h, h2⟩, h1]
set_option maxRecDepth 100000 in
theorem gd_zs : (gd zs).2 ≠ 0 := by
  unfold gd
  have h : getE zs 2 ≠ 0 := by
    unfold getE
    rw [if_neg (by decide)]
    split
    · assumption
    · rename_i h2
      have h2 := Classical.not_not.1 h2
      rw [if_neg]
      · decide
      · rintro ⟨_, h3⟩
        have e : kindL (openL zs) = 0 := by
          unfold openL
          rw [if_pos h2]
          rfl
        rw [e] at h3
        cases h3
  rw [if_pos h]
  exact h
/-- of what is got without an error -/
theorem gd_ok {ys : List UInt8} {r : Rc} (h : gd ys = (r, 0)) : MayBe r ∧ sect r = ys := by
  have := gway_facts (gd_way ys)
  rw [h] at this
  exact this.elim (fun x => absurd rfl x.1) (fun x => x.2)

/-- a log's numbers -/
structure Lg where
  f : Nat
  nx : Nat
  ep : Nat
abbrev most : Nat := 4611686014132420608
/-- numbers within bounds -/
structure GOk (B lg : Nat) (g : Lg) : Prop where
  h1 : g.f ≤ g.nx
  h2 : g.nx ≤ g.f + lg
  h3 : g.nx ≤ B
  h4 : g.ep ≤ most
  h5 : B ≤ 1000000000
theorem GOk.more {B B' lg : Nat} {g : Lg} (h : GOk B lg g) (hb : B ≤ B') (h5 : B' ≤ 1000000000) : GOk B' lg g := ⟨h.h1, h.h2, Nat.le_trans h.h3 hb, h.h4, h5⟩
/-- what stands where that number's record would stand -/
noncomputable def gt (la lg : Nat) (m : Vs) (q : Nat) : Rc × Bool × Vs :=
  if (rd1 m (la + q % lg)).1 = 0 then ((gd (rd1 m (la + q % lg)).2.1).1, decide ((gd (rd1 m (la + q % lg)).2.1).2 = 0), (rd1 m (la + q % lg)).2.2) else (zr, false, (rd1 m (la + q % lg)).2.2)
/-- records read, one behind the other -/
noncomputable def rdl (la lg ep : Nat) : Nat → Nat → Nat → Vs → List Rc × Vs
  | 0, _, _, m => ([], m)
  | k + 1, q, h, m =>
    if (gt la lg m q).2.1 = true ∧ (gt la lg m q).1.q = q ∧ h ≤ (gt la lg m q).1.h ∧ (gt la lg m q).1.h ≤ ep then
      ((gt la lg m q).1 :: (rdl la lg ep k (q + 1) (gt la lg m q).1.h (gt la lg m q).2.2).1, (rdl la lg ep k (q + 1) (gt la lg m q).1.h (gt la lg m q).2.2).2)
    else ([], (gt la lg m q).2.2)
section
variable {la lg ep k q h : Nat} {m m1 : Vs} {v : Int} {xs : List UInt8} {r : Rc} {L : List Rc} {ok : Bool}
theorem gt_err (hr : rd1 m (la + q % lg) = (v, xs, m1)) (hv : v ≠ 0) : gt la lg m q = (zr, false, m1) := by
  unfold gt
  rw [hr]
  exact if_neg hv
theorem gt_got {E : Int} (hr : rd1 m (la + q % lg) = (0, xs, m1)) (hg : gd xs = (r, E)) : gt la lg m q = (r, decide (E = 0), m1) := by
  unfold gt
  rw [hr]
  dsimp only
  rw [hg]
  exact if_pos rfl
theorem gt_ok (h : gt la lg m q = (r, true, m1)) : ∃ xs, rd1 m (la + q % lg) = (0, xs, m1) ∧ gd xs = (r, 0) := by
  obtain ⟨v, xs, m2, hr⟩ : ∃ v xs m2, rd1 m (la + q % lg) = (v, xs, m2) := ⟨_, _, _, rfl⟩
  obtain ⟨r2, E, hg⟩ : ∃ r2 E, gd xs = (r2, E) := ⟨_, _, rfl⟩
  by_cases hv : v = 0
  · subst hv
    rw [gt_got hr hg] at h
    injection h with h1 h2
    injection h2 with h2 h3
    have h2 := of_decide_eq_true h2
    subst h1 h2 h3
    exact ⟨xs, hr, hg⟩
  · rw [gt_err hr hv] at h
    injection h with h1 h2
    injection h2 with h2 h3
    cases h2
theorem rdl_yes (hr : gt la lg m q = (r, true, m1)) (h1 : r.q = q) (h2 : h ≤ r.h) (h3 : r.h ≤ ep) : rdl la lg ep (k + 1) q h m = (r :: (rdl la lg ep k (q + 1) r.h m1).1, (rdl la lg ep k (q + 1) r.h m1).2) := by
  rw [rdl, hr]
  exact if_pos ⟨rfl, h1, h2, h3⟩
theorem rdl_no (hr : gt la lg m q = (r, ok, m1)) (hn : ¬ (ok = true ∧ r.q = q ∧ h ≤ r.h ∧ r.h ≤ ep)) : rdl la lg ep (k + 1) q h m = ([], m1) := by
  rw [rdl, hr]
  exact if_neg hn
/-- those that were read, and the rest -/
noncomputable def rdA (la lg ep k q h : Nat) (m : Vs) (L : List Rc) : List Rc × Vs := (L ++ (rdl la lg ep k q h m).1, (rdl la lg ep k q h m).2)
theorem rdA_start : rdA la lg ep k q h m [] = rdl la lg ep k q h m := rfl
theorem rdA_zero : rdA la lg ep 0 q h m L = (L, m) := by rw [rdA, rdl, List.append_nil]
theorem rdA_yes (hr : gt la lg m q = (r, true, m1)) (h1 : r.q = q) (h2 : h ≤ r.h) (h3 : r.h ≤ ep) : rdA la lg ep (k + 1) q h m L = rdA la lg ep k (q + 1) r.h m1 (L ++ [r]) := by
  unfold rdA
  rw [rdl_yes hr h1 h2 h3]
  simp
theorem rdA_no (hr : gt la lg m q = (r, ok, m1)) (hn : ¬ (ok = true ∧ r.q = q ∧ h ≤ r.h ∧ r.h ≤ ep)) : rdA la lg ep (k + 1) q h m L = (L, m1) := by
  unfold rdA
  rw [rdl_no hr hn, List.append_nil]
theorem gt_S (la lg : Nat) (m : Vs) (q : Nat) : (gt la lg m q).2.2.S = m.S := by
  unfold gt
  split <;> exact rd1_S _ _
theorem rdl_len : ∀ (k q h : Nat) (m : Vs), (rdl la lg ep k q h m).1.length ≤ k
  | 0, _, _, _ => Nat.le_refl _
  | k + 1, q, h, m => by
    rw [rdl]
    split
    · rw [List.length_cons]; exact Nat.succ_le_succ (rdl_len k _ _ _)
    · exact Nat.zero_le _
end
/-- a log opened on a device whose power may be off: the error, the records, the device -/
noncomputable def opn (la lg f ep : Nat) (m : Vs) : Int × List Rc × Vs := if m.s.off = true then (80, [], m) else (0, rdl la lg ep lg f 0 m)
open Classical in
/-- a record appended: the error, the log's numbers, the device -/
noncomputable def app (la lg : Nat) (p : Rc) (g : Lg) (m : Vs) : Int × Lg × Vs :=
  if g.nx - g.f = lg then (5, g, m) else if ¬ MayBe p then (1, g, m) else
    ((wr1 m (la + g.nx % lg) (sect p)).1, (if (wr1 m (la + g.nx % lg) (sect p)).1 = 0 then ⟨g.f, g.nx + 1, g.ep⟩ else g), (wr1 m (la + g.nx % lg) (sect p)).2)
def cutB (t : Nat) (g : Lg) : Bool := decide (g.f ≤ t ∧ t ≤ g.nx)
def cutG (t : Nat) (g : Lg) : Lg := if g.f ≤ t ∧ t ≤ g.nx then ⟨t, g.nx, g.ep⟩ else g
def begB (t : Nat) (g : Lg) : Bool := decide (g.ep ≤ t ∧ t ≤ most)
def begG (t : Nat) (g : Lg) : Lg := if g.ep ≤ t ∧ t ≤ most then ⟨g.f, g.nx, t⟩ else g
theorem cut_ok {B lg t : Nat} {g : Lg} (h : GOk B lg g) : GOk B lg (cutG t g) := by
  unfold cutG
  split
  · rename_i ht; exact ⟨ht.2, by have := h.h2; show g.nx ≤ t + lg; omega, h.h3, h.h4, h.h5⟩
  · exact h
theorem beg_ok {B lg t : Nat} {g : Lg} (h : GOk B lg g) : GOk B lg (begG t g) := by
  unfold begG
  split
  · rename_i ht; exact ⟨h.h1, h.h2, h.h3, ht.2, h.h5⟩
  · exact h
theorem app_ok {B la lg : Nat} {p : Rc} {g : Lg} {m : Vs} (h : GOk B lg g) (hB : B + 1 ≤ 1000000000) : GOk (B + 1) lg (app la lg p g m).2.1 := by
  unfold app
  split
  · exact h.more (Nat.le_succ _) hB
  · rename_i hr
    split
    · exact h.more (Nat.le_succ _) hB
    · dsimp only
      split
      · exact ⟨Nat.le_succ_of_le h.h1, by have := h.h1; have := h.h2; show g.nx + 1 ≤ g.f + lg; omega, Nat.succ_le_succ h.h3, h.h4, hB⟩
      · exact h.more (Nat.le_succ _) hB
theorem opn_ok {B la lg f ep : Nat} {m : Vs} (hf : f ≤ B) (hB : B + lg ≤ 1000000000) (he : ep ≤ most) : GOk (B + lg) lg ⟨f, f + (opn la lg f ep m).2.1.length, ep⟩ := by
  have hl : (opn la lg f ep m).2.1.length ≤ lg := by
    unfold opn
    split
    · exact Nat.zero_le _
    · exact rdl_len _ _ _ _
  exact ⟨Nat.le_add_right _ _, Nat.add_le_add_left hl _, by show f + _ ≤ _; omega, he, hB⟩
end Go.Proofs.YtikbbikcacoobaaGreatDoor.Pd.Iv
