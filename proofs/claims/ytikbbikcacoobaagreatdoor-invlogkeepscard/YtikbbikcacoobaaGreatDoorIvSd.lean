/-
  A device with a log, without the document's: what stays as it was. Reading twice: plain facts. No conditions.
-/
import Derived.Test.YtikbbikcacoobaaGreatDoorIvWalk
namespace Go.Proofs.YtikbbikcacoobaaGreatDoor.Pd.Iv
open Go.RowKit Oc Dm W Dw Sr Gt
set_option linter.unusedVariables false
set_option maxRecDepth 100000

/-- the device's blocks, and the log's -/
def Zs (F : Nat → Prop) (pw t b : Nat) : Prop := Al F pw b ∨ b = t
/-- A DEVICE WITH A LOG, in the law's box P -/
structure Sd (w0 : World) (P : Nat) (p : Pn.Pl) (n N pw D q E t : Nat) (U : Option Addr) (F : Nat → Prop) (m : Vs) (g : Lg) (w : World) : Prop where
  pd : PD w F D pw n N m
  lg : LgAt w 101 t D p g
  hd : PHead w P p pw D q E (some ⟨t, 0, none⟩) U
  nP : ¬ Al F pw P
  nt : ¬ Al F pw t
  ne : P ≠ t
  lo : ∀ b, Zs F pw t b ∨ b = P → w0.heap.size ≤ b
  bel : Below w0.heap.size w0 w
section
variable {w0 w w' : World} {P n N N' pw D q E t : Nat} {p : Pn.Pl} {T U : Option Addr} {F G H1 H2 Z1 : Nat → Prop} {m m' m1 m2 : Vs} {g g' : Lg} {t2 : Option Lg}
theorem Sd.of (h : Pr w0 P p n N pw D q E T U F G H1 H2 m1 m2 (some g) t2 w) (hh : PHead w P p pw D q E T U) : ∃ t, T = some ⟨t, 0, none⟩ ∧ Sd w0 P p n N pw D q E t U F m1 g w := by
  obtain ⟨t, rfl, ht, hl⟩ := h.lg1
  refine ⟨t, rfl, h.pd, hl, hh, h.ap.p1, fun x => h.ap.d13 x ht, fun e => h.ap.p3 (e ▸ ht), fun b x => ?_, h.bel⟩
  rcases x with (x | x) | x
  · exact (h.ap.lo b (.inl x)).1
  · subst x; exact (h.ap.lo b (.inr (.inr (.inl ht)))).1
  · subst x; exact h.lt.2
theorem Sd.bound (h : Sd w0 P p n N pw D q E t U F m g w) : ∀ b, Zs F pw t b ∨ b = P → b < w.heap.size := fun b x => by
  rcases x with (x | x) | x
  · exact h.pd.bound b x
  · subst x; exact h.lg.lt
  · subst x; exact lt_of_heap h.hd
theorem Sd.env (h : Sd w0 P p n N pw D q E t U F m g w) (he : Env w0) : Env w ∧ ∀ k, F k → 0 < k := by
  refine ⟨he.below h.bel, fun b x => ?_⟩
  obtain ⟨t, fr, hh⟩ := he
  have := lt_of_heap hh
  have := h.lo b (.inl (.inl (.inl x)))
  omega
theorem Sd.more (h : Sd w0 P p n N pw D q E t U F m g w) (hN : N ≤ N') (hb : N' ≤ 1000000) : Sd w0 P p n N' pw D q E t U F m g w := ⟨h.pd.more hN hb, h.lg, h.hd, h.nP, h.nt, h.ne, h.lo, h.bel⟩
theorem Sd.below (h : Sd w0 P p n N pw D q E t U F m g w) (hb : Below w.heap.size w w') : Sd w0 P p n N pw D q E t U F m g w' :=
  ⟨h.pd.below hb, h.lg.below hb, h.hd.below hb, h.nP, h.nt, h.ne, h.lo, h.bel.trans (hb.mono h.bel.size)⟩
/-- the device has done something, and the log -/
theorem Sd.turn (h : Sd w0 P p n N pw D q E t U F m g w) (hp : PD w' (Ext F w w') D pw n N' m') (hl : LgAt w' 101 t D p g') (hc : Chg (Zs F pw t) w w') : Sd w0 P p n N' pw D q E t U (Ext F w w') m' g' w' ∧ Kp w (Zs F pw t) w' (Zs (Ext F w w') pw t) := by
  have bP := h.bound P (.inr rfl)
  have bt := h.bound t (.inl (.inr rfl))
  have s0 := h.bel.size
  refine ⟨⟨hp, hl, h.hd.of (hc.block P bP (fun x => x.elim h.nP h.ne)), fun x => ?_, fun x => ?_, h.ne, fun b x => ?_, h.bel.trans (hc.below s0 (fun b hb x => by have := h.lo b (.inl x); omega))⟩, Kp.of_chg hc (fun b x => x) (fun b x => ?_)⟩
  · rcases x with (x | x) | x
    · exact h.nP (.inl x)
    · have := x.1; omega
    · exact h.nP (.inr x)
  · rcases x with (x | x) | x
    · exact h.nt (.inl x)
    · have := x.1; omega
    · exact h.nt (.inr x)
  · rcases x with (((x | x) | x) | x) | x
    · exact h.lo b (.inl (.inl (.inl x)))
    · have := x.1; omega
    · exact h.lo b (.inl (.inl (.inr x)))
    · exact h.lo b (.inl (.inr x))
    · exact h.lo b (.inr x)
  · rcases x with ((x | x) | x) | x
    · exact .inl (.inl (.inl x))
    · exact .inr x.1
    · exact .inl (.inl (.inr x))
    · exact .inl (.inr x)
/-- the device alone -/
theorem Sd.turn0 (h : Sd w0 P p n N pw D q E t U F m g w) (hp : PD w' (Ext F w w') D pw n N' m') (hc : Chg (Al F pw) w w') : Sd w0 P p n N' pw D q E t U (Ext F w w') m' g w' ∧ Kp w (Zs F pw t) w' (Zs (Ext F w w') pw t) :=
  h.turn hp (h.lg.kept hc h.nt) (hc.mono (fun _ _ x => .inl x))
/-- no block of the device's is new -/
theorem Sd.same (h : Sd w0 P p n N pw D q E t U F m g w) (hp : PD w' F D pw n N m') (hc : Chg F w w') : Sd w0 P p n N pw D q E t U F m' g w' ∧ Kp w (Zs F pw t) w' (Zs F pw t) := by
  have bP := h.bound P (.inr rfl)
  have bt := h.bound t (.inl (.inr rfl))
  refine ⟨⟨hp, h.lg.kept hc (fun x => h.nt (.inl x)), h.hd.of (hc.block P bP (fun x => h.nP (.inl x))), h.nP, h.nt, h.ne, h.lo, h.bel.trans (hc.below h.bel.size (fun b hb x => by have := h.lo b (.inl (.inl (.inl x))); omega))⟩, Kp.of_chg hc (fun b x => .inl (.inl x)) (fun b x => .inl x)⟩
end

/-! reading twice -/
section
variable {la lg ep : Nat} {m : Vs}
/-- what is read where nothing fails -/
theorem gt_still (ho : m.s.off = false) (hr : m.rd = 0) (q : Nat) : ∃ r ok, gt la lg m q = (r, ok, m) := by
  have e : rd1 m (la + q % lg) = (0, (m.S (la + q % lg)).stands, m) := by
    unfold rd1
    rw [if_neg (by rw [ho]; decide), if_neg (by rw [hr]; decide)]
    have : m.rd / 2 = m.rd := by rw [hr]
    rw [this]
  obtain ⟨r, E, hg⟩ : ∃ r E, gd (m.S (la + q % lg)).stands = (r, E) := ⟨_, _, rfl⟩
  exact ⟨r, _, gt_got e hg⟩
theorem rdl_still (ho : m.s.off = false) (hr : m.rd = 0) : ∀ (k q h : Nat), (rdl la lg ep k q h m).2 = m
  | 0, _, _ => rfl
  | k + 1, q, h => by
    obtain ⟨r, ok, e⟩ := gt_still (la := la) (lg := lg) ho hr q
    by_cases hc : ok = true ∧ r.q = q ∧ h ≤ r.h ∧ r.h ≤ ep
    · obtain ⟨rfl, h1, h2, h3⟩ := hc
      rw [rdl_yes e h1 h2 h3]
      exact rdl_still ho hr k _ _
    · rw [rdl_no e hc]
/-- one number more, where its record does not stand -/
theorem rdl_stop (ho : m.s.off = false) (hr : m.rd = 0) : ∀ (k q h : Nat), (gt la lg m (q + k)).1.q ≠ q + k ∨ (gt la lg m (q + k)).2.1 = false → (rdl la lg ep (k + 1) q h m).1 = (rdl la lg ep k q h m).1
  | 0, q, h, hs => by
    obtain ⟨r, ok, e⟩ := gt_still (la := la) (lg := lg) ho hr q
    rw [Nat.add_zero, e] at hs
    rw [rdl_no e (fun x => hs.elim (fun y => y x.2.1) (fun y => by have := x.1; rw [show ok = false from y] at this; cases this))]
    rfl
  | k + 1, q, h, hs => by
    obtain ⟨r, ok, e⟩ := gt_still (la := la) (lg := lg) ho hr q
    by_cases hc : ok = true ∧ r.q = q ∧ h ≤ r.h ∧ r.h ≤ ep
    · obtain ⟨rfl, h1, h2, h3⟩ := hc
      rw [rdl_yes e h1 h2 h3, rdl_yes e h1 h2 h3]
      dsimp only
      rw [rdl_stop ho hr k (q + 1) r.h (by rw [show q + 1 + k = q + (k + 1) by omega]; exact hs)]
    · rw [rdl_no e hc, rdl_no e hc]
/-- from the second record on -/
theorem rdl_tail (hl : 1 ≤ lg) (ho : m.s.off = false) (hr : m.rd = 0) (f : Nat) (h2 : 2 ≤ (rdl la lg ep lg f 0 m).1.length) : (rdl la lg ep lg (f + 1) 0 m).1 = (rdl la lg ep lg f 0 m).1.drop 1 := by
  obtain ⟨k, rfl⟩ : ∃ k, lg = k + 1 := ⟨lg - 1, by omega⟩
  obtain ⟨r, ok, e⟩ := gt_still (la := la) (lg := k + 1) ho hr f
  by_cases hc : ok = true ∧ r.q = f ∧ 0 ≤ r.h ∧ r.h ≤ ep
  · obtain ⟨rfl, h1, h3, h4⟩ := hc
    rw [rdl_yes e h1 h3 h4] at h2 ⊢
    dsimp only at h2 ⊢
    rw [List.drop_one, List.tail_cons]
    rw [List.length_cons] at h2
    cases k with
    | zero =>
      rw [rdl] at h2
      simp at h2
    | succ k =>
      obtain ⟨r1, ok1, e1⟩ := gt_still (la := la) (lg := k + 1 + 1) ho hr (f + 1)
      by_cases hc1 : ok1 = true ∧ r1.q = f + 1 ∧ r.h ≤ r1.h ∧ r1.h ≤ ep
      · obtain ⟨rfl, g1, g2, g3⟩ := hc1
        rw [rdl_yes e1 g1 g2 g3, rdl_yes e1 g1 (Nat.zero_le _) g3]
        dsimp only
        rw [rdl_stop ho hr k (f + 1 + 1) r1.h]
        left
        have em : (f + 1 + 1 + k) % (k + 1 + 1) = f % (k + 1 + 1) := by
          rw [show f + 1 + 1 + k = f + (k + 1 + 1) by omega, Nat.add_mod_right]
        have eg : gt la (k + 1 + 1) m (f + 1 + 1 + k) = gt la (k + 1 + 1) m f := by unfold gt; rw [em]
        rw [eg, e]
        show r.q ≠ _
        omega
      · rw [rdl_no e1 hc1] at h2
        simp at h2
  · rw [rdl_no e hc] at h2
    simp at h2
end
end Go.Proofs.YtikbbikcacoobaaGreatDoor.Pd.Iv
