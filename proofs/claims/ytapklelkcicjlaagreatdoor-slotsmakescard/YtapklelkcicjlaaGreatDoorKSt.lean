/-
  Elder texts, one behind the other: SlDoAll, SlTold, SlCalm, SlWalk. No conditions.
-/
import Derived.Test.YtapklelkcicjlaaGreatDoorKS0
import Derived.Test.YtapklelkcicjlaaGreatDoorKS1
import Derived.Test.YtapklelkcicjlaaGreatDoorKS2
import Derived.Test.YtapklelkcicjlaaGreatDoorKS3
import Derived.Test.YtapklelkcicjlaaGreatDoorKSr
import Derived.BigQuiet
import Derived.Deep.RegionHeld
import Derived.Deep.DrawnRows
import Derived.Test.YtapklelkcicjlaaGreatDoorKSe
import Derived.Test.YtapklelkcicjlaaGreatDoorKSq
/-! Any call on a pair. No conditions. -/
namespace Go.Proofs.YtapklelkcicjlaaGreatDoor.Pd.Sl
set_option maxRecDepth 100000
open Go.RowKit Oc Dm W Dw Sr Gt W.Hd
set_option linter.unusedVariables false
section
variable {w0 w w' w1 : World} {P n N pw D q E la ns B : Nat} {p : Pn.Pl} {T U : Option Addr} {F G H1 H2 Z1 : Nat → Prop} {m : Vs} {L : List Slt}
theorem do_any (h : Pr w0 P p n N pw D q E T U F G H1 H2 m m (some L) (some L) w) (hh : PHead w P p pw D q E T U) (he : EnvH w0) (hp : Pln p la ns n) (hL : L.length = ns) (hs : small L B) (hB : B + 1 ≤ 900000) (hN : N + 12 ≤ 1000000) (a : ActV) (ha : ActOk w0 a) :
    Calls Tryz.prog 8 #[.pointer (some ⟨P, 0, none⟩), .agg a.cells.toArray] w fun e w' => e = .returned (.bool true) ∧ Done w0 P p n (N + 12) (B + 1) ns w (Us F pw G q H1 H2) w' := by
  obtain ⟨kind, sl, lb, gn, fi, sz, z, bit, tn, u, v, fa, fl, fc, fs, x⟩ := a
  obtain ⟨hf, ⟨_, h2, h3, h1⟩, h4, h5, _, _, _, h6, _, _⟩ := ha
  by_cases k0 : kind = 0
  · subst k0; exact do0 h hh he hp hL hs hB hN sl lb gn fi sz z bit tn u v fa fl fc fs x
  by_cases k1 : kind = 1
  · subst k1; exact do1 h hh he hp hL hs hB hN sl lb gn fi sz z bit tn u v fa fl fc fs x
  by_cases k2 : kind = 2
  · subst k2; exact do2 h hh he hp hL hs hB hN sl lb gn fi sz z bit tn u v fa fl fc fs x
  by_cases k3 : kind = 3
  · subst k3; exact do3 h hh he hp hL hs hB hN sl lb gn fi sz z bit tn u v fa fl fc fs x
  by_cases k4 : kind = 4
  · subst k4; exact do4 h hh he hp hL hs hB hN sl lb gn fi sz z bit tn u v fa fl fc fs x
  by_cases k5 : kind = 5
  · subst k5; exact do5 h hh he hp hL hs hB hN sl lb gn fi sz z bit tn u v fa fl fc fs x
  by_cases k6 : kind = 6
  · subst k6; exact do6 h hh he hp hL hs hB hN sl lb gn fi sz z bit tn u v fa fl fc fs x h2 h3
  by_cases k7 : kind = 7
  · subst k7; exact do7 h hh he hp hL hs hB hN sl lb gn fi sz z bit tn u v fa fl fc fs x
  by_cases k8 : kind = 8
  · subst k8; exact do8 h hh he hp hL hs hB hN sl lb gn fi sz z bit tn u v fa fl fc fs x hf (Nat.le_trans h4 h5)
  by_cases k9 : kind = 9
  · subst k9; exact do9 h hh he hp hL hs hB hN sl lb gn fi sz z bit tn u v fa fl fc fs x h1
  by_cases k10 : kind = 10
  · subst k10
    by_cases hm : MayBe x
    · exact doxy h hh he hp hL hs hB hN sl lb gn fi sz z bit tn u v fa fl fc fs x h6 hm
    · exact doxn h hh he hp hL hs hB hN sl lb gn fi sz z bit tn u v fa fl fc fs x hm
  exact don h hh he hp hL hs hB hN sl lb gn fi sz z bit tn u v fa fl fc fs x kind k0 k1 k2 k3 k4 k5 k6 k7 k8 k9 k10
/-- one act more -/
theorem st_do (h : St w0 P p n N m m (some L) (some L) w1 Z1 w) (he : EnvH w0) (hp : Pln p la ns n) (hL : L.length = ns) (hs : small L B) (hB : B + 1 ≤ 900000) (hN : N + 12 ≤ 1000000) (a : ActV) (ha : ActOk w0 a) :
    Calls Tryz.prog 8 #[.pointer (some ⟨P, 0, none⟩), .agg a.cells.toArray] w fun e w' => e = .returned (.bool true) ∧ Done w0 P p n (N + 12) (B + 1) ns w1 Z1 w' := by
  obtain ⟨pw, D, q, E, T, U, F, G, H1, H2, r, h2, k⟩ := h
  refine (do_any r h2 he hp hL hs hB hN a ha).mono fun e w' ⟨e1, m', L', ⟨pw', D', q', E', T', U', F', G', H1', H2', r', h2', k'⟩, hw⟩ => ⟨e1, m', L', ⟨pw', D', q', E', T', U', F', G', H1', H2', r', h2', k.trans k'⟩, hw⟩
end
end Go.Proofs.YtapklelkcicjlaaGreatDoor.Pd.Sl

/-! What is told of a pair. No conditions. -/
namespace Go.Proofs.YtapklelkcicjlaaGreatDoor.Pd.Sl
set_option maxRecDepth 100000
open Go.RowKit Oc Dm W Dw Sr Gt W.Hd
set_option linter.unusedVariables false
set_option maxRecDepth 100000
attribute [local go_sem ↓] Go.wp_at_zero Go.wp_at_succ
section
variable {w0 w : World} {P n N pw D q E la ns l c : Nat} {p : Pn.Pl} {T U A : Option Addr} {F G H1 H2 : Nat → Prop} {m : Vs} {L : List Slt} {ls : List Int}
set_option maxHeartbeats 8000000 in
theorem told_any (h : Pr w0 P p n N pw D q E T U F G H1 H2 m m (some L) (some L) w) (hh : PHead w P p pw D q E T U) (hp : Pln p la ns n) (hL : L.length = ns) (hf : Fi w A l ls) (hlc : l ≤ 1000000) :
    Calls Tryz.prog 9 #[.pointer (some ⟨P, 0, none⟩), .slice A l c] w fun e w' => e = .returned (.bool true) ∧ Below w.heap.size w w' := by
  obtain ⟨tb, g, rfl, _, _, hl1⟩ := h.st1
  obtain ⟨ub, a, b, rfl, _, _, _, hl2⟩ := h.st2
  have S1 := Lib.hid hl1
  have S2 := Lib.hid hl2
  have HP := Lib.hid hp
  have HL := Lib.hid hL
  have HF := Lib.hid hf
  have PW := Lib.hid h.pd.pw
  obtain ⟨fl, qh, _⟩ := h.rd.qw.head
  have CS : Hid (∀ y, Below w.heap.size w y → y.cell? ⟨P, 28, none⟩ = some (.pointer (some ⟨tb, 0, none⟩)) ∧ y.cell? ⟨P, 31, none⟩ = some (.pointer (some ⟨ub, 0, none⟩)) ∧ y.cell? ⟨P, 22, none⟩ = some (.int .i64 (ns : Int)) ∧ y.cell? ⟨P, 26, none⟩ = some (.pointer (some ⟨pw, 0, none⟩)) ∧ y.cell? ⟨P, 29, none⟩ = some (.pointer (some ⟨q, 0, none⟩)) ∧ y.cell? ⟨q, 3, none⟩ = some (.int .i64 (m.s.done : Int))) := fun y hy => by
    have k := phead_all (hh.below hy)
    exact ⟨k.2.2.1, k.2.2.2.2.2.1, by rw [← hp.h9]; exact ((hh.below hy).cell 22).1, k.1, k.2.2.2.1, by rw [cell_of_row _ _ _ _ _ _ (kept_below qh hy)]; rfl⟩
  have hns : ns ≤ 256 := hp.hl2
  obtain ⟨c28, c31, c22, c26, c29, q3⟩ := CS.out w (Below.refl _ _)
  clear h hh hp hL hf hl1 hl2 qh
  go_enter Tryz.func9, Tryz.ntmps9
  go_wp2_with fail
  refine (least_any S1.out HF.out hlc).mono ?_; rintro e w' ⟨rfl, rfl⟩
  go_wp2_with fail
  refine (rleast_any S2.out HP.out HF.out hlc).mono ?_; rintro e w2 ⟨rfl, k2, e2⟩
  have B2 : Hid (Below w.heap.size w w2) := by show Below _ _ _; rw [e2]; exact below_drewN (Below.refl _ _) k2
  clear c28 c31 c22 c26 c29 q3 e2
  obtain ⟨c28, c31, c22, c26, c29, q3⟩ := CS.out w2 B2.out
  generalize (least L ls none).getD 0 = o1
  generalize (least L ls none).isSome = o2
  have KT : Hid (∀ k, Calls Tryz.prog 37 #[.pointer (some ⟨tb, 0, none⟩)] (w2.drewN k) fun e w' => e = .returned (.int .u64 (total L : Int)) ∧ w2.drewN k = w') := fun k => total_any (S1.out.below (below_drewN B2.out k))
  have KU : Hid (∀ k, Calls Tryz.prog 54 #[.pointer (some ⟨ub, 0, none⟩)] (w2.drewN k) fun e w' => e = .returned (.int .u64 (total L : Int)) ∧ w2.drewN k = w') := fun k => rtotal_any (S2.out.below (below_drewN B2.out k)) HP.out
  have KN : Hid (∀ k, Calls Tryz.prog 36 #[.pointer (some ⟨tb, 0, none⟩)] (w2.drewN k) fun e w' => e = .returned (.int .i64 (ns : Int)) ∧ w2.drewN k = w') := fun k => by
    have := len_any (S1.out.below (below_drewN B2.out k))
    rwa [HL.out] at this
  generalize (total L : Int) = tt at KT KU
  go_wp2_with fail
  go_quiet ((first
    | (go_at_call 37; exact quiet (KT.out _))
    | (go_at_call 54; exact quiet (KU.out _))
    | (go_at_call 36; exact quiet (KN.out _))))
  have B3 : Hid (Below w.heap.size w (w2.drewN nq)) := below_drewN B2.out nq
  generalize w2.drewN nq = w3 at B3 ⊢
  clear c28 c31 c22 c26 c29 q3 KT KU KN B2
  go_wp2
  go_loopw [9] (fun z wr => ∃ i : Nat, i ≤ ns ∧ z = .int .i64 (i : Int) ∧ Hid (Below w.heap.size w wr)) (fun z _ => ns - (intOf z).toNat)
  case atStart => exact ⟨0, Nat.zero_le _, rfl, B3⟩
  case round =>
    obtain ⟨i, hi, rfl, BI⟩ := hrel
    clear B3
    obtain ⟨c28, c31, c22, c26, c29, q3⟩ := CS.out wr BI.out
    by_cases hlt : i < ns
    · have hz : hasZ L (i : Int) := ⟨by omega, by rw [HL.out]; omega⟩
      have hg : L[i]? = some (at0 L (i : Int)) := by
        obtain ⟨j, e, _, hg⟩ := has_get hz
        have : i = j := by omega
        subst this
        exact hg
      obtain ⟨ca, cb, ur, _⟩ := (S2.out.below BI.out).row
      obtain ⟨x0, _, ⟨ca, cb, x14, _⟩, _⟩ := (S2.out.below BI.out).cells HP.out
      rw [HL.out] at x14
      obtain ⟨xa, _, _⟩ := (S2.out.below BI.out).at_ hg
      have KW : Hid (∀ k, Calls Tryz.prog 14 #[.pointer (some ⟨tb, 0, none⟩), .int .i64 (i : Int)] (wr.drewN k) fun e w' => e = .returned (.int .u32 ((at0 L (i : Int)).r.toNat : Int)) ∧ wr.drewN k = w') := fun k => wear_yes (S1.out.below (below_drewN BI.out k)) hz
      have KB : Hid (∀ k, Calls Tryz.prog 34 #[.pointer (some ⟨tb, 0, none⟩), .int .i64 (i : Int)] (wr.drewN k) fun e w' => e = .returned (.bool (isBad (at0 L (i : Int)))) ∧ wr.drewN k = w') := fun k => bad_yes (S1.out.below (below_drewN BI.out k)) hz
      have KC : Hid (∀ k, Calls Tryz.prog 55 #[.pointer (some ⟨ub, 0, none⟩), .int .i64 (i : Int)] (wr.drewN k) fun e w' => e = .returned (.bool (isBad (at0 L (i : Int)))) ∧ wr.drewN k = w') := fun k => rbad_yes (S2.out.below (below_drewN BI.out k)) HP.out hz
      have hlt2 : (i : Int) < (ns : Int) := by omega
      generalize ((at0 L (i : Int)).r.toNat : Int) = rr at KW xa
      generalize isBad (at0 L (i : Int)) = bb at KB KC
      clear hg hz ur
      go_wp2_with fail
      go_quiet ((first
        | (go_at_call 14; exact quiet (KW.out _))
        | (go_at_call 34; exact quiet (KB.out _))
        | (go_at_call 55; exact quiet (KC.out _))))
      have B4 : Hid (Below w.heap.size w (wr.drewN nq)) := below_drewN BI.out nq
      generalize wr.drewN nq = w4 at B4 ⊢
      go_wp2
      go_roundw
      case rel => exact ⟨i + 1, by omega, by go_num, B4⟩
      case measure => simp [intOf]; omega
    · have hlt2 : ¬ (i : Int) < (ns : Int) := by omega
      have hz1 : ¬ hasZ L (-1) := fun x => by have := x.1; omega
      have hz2 : ¬ hasZ L (ns : Int) := fun x => by have := x.2; rw [HL.out] at this; omega
      have KW : Hid (∀ k, Calls Tryz.prog 14 #[.pointer (some ⟨tb, 0, none⟩), .int .i64 (-1)] (wr.drewN k) fun e w' => e = .returned (.int .u32 0) ∧ wr.drewN k = w') := fun k => wear_no (S1.out.below (below_drewN BI.out k)) hz1
      have KB : Hid (∀ k, Calls Tryz.prog 34 #[.pointer (some ⟨tb, 0, none⟩), .int .i64 (ns : Int)] (wr.drewN k) fun e w' => e = .returned (.bool false) ∧ wr.drewN k = w') := fun k => bad_not (S1.out.below (below_drewN BI.out k)) hz2
      have KD : Hid (∀ k, Calls Tryz.prog 56 #[.pointer (some ⟨pw, 0, none⟩)] (wr.drewN k) fun e w' => e = .returned (.int .i64 (m.s.done : Int)) ∧ wr.drewN k = w') := fun k => done_any (PW.out.heap ((below_drewN BI.out k).block _ PW.out.lt))
      generalize (m.s.done : Int) = dn at KD q3
      clear hz1 hz2
      go_wp2_with fail
      go_quiet ((first
        | (go_at_call 14; exact quiet (KW.out _))
        | (go_at_call 34; exact quiet (KB.out _))
        | (go_at_call 56; exact quiet (KD.out _))))
      have B4 : Hid (Below w.heap.size w (wr.drewN nq)) := below_drewN BI.out nq
      generalize wr.drewN nq = w4 at B4 ⊢
      go_wp2
      go_ret
      exact ⟨by simp, B4.out⟩
end
end Go.Proofs.YtapklelkcicjlaaGreatDoor.Pd.Sl

/-! Fills and reads of a device whose power stays and that doesn't fail: plain facts. No conditions. -/
namespace Go.Proofs.YtapklelkcicjlaaGreatDoor.Pd.Sl
set_option maxRecDepth 100000
open Go.RowKit Oc Dm W Dw W.Hd
set_option linter.unusedVariables false
set_option maxRecDepth 100000
/-- a device whose power stays, and that doesn't fail -/
structure Calm (m : Vs) : Prop where
  off : m.s.off = false
  fuse : m.s.fuse = none
  wr : m.wr = 0
  rd : m.rd = 0
theorem spend_calm {s : PS} (h1 : s.off = false) (h2 : s.fuse = none) : s.spend.off = false ∧ s.spend.fuse = none := by
  obtain ⟨a, b, c⟩ := s
  subst h2
  exact ⟨h1, rfl⟩
theorem wr1_calm {m : Vs} (h : Calm m) (i : Nat) (x : List UInt8) : ∃ m', wr1 m i x = (0, m') ∧ Calm m' ∧ m'.S = wrote m.S i x := by
  have hg : m.s.goes = false := by unfold PS.goes; rw [h.fuse]; rfl
  have e : wr1 m i x = (0, { m with s := m.s.spend, S := wrote m.S i x, wr := m.wr / 2 }) := by
    unfold wr1
    rw [if_neg (by rw [h.off]; decide), if_neg (by rw [hg]; decide), if_neg (by rw [h.wr]; decide)]
  obtain ⟨h1, h2⟩ := spend_calm h.off h.fuse
  exact ⟨_, e, ⟨h1, h2, by show m.wr / 2 = 0; rw [h.wr], h.rd⟩, rfl⟩
theorem fl1_calm {m : Vs} (h : Calm m) : ∃ m', fl1 m = (0, m') ∧ Calm m' ∧ m'.S = flushS m.S := by
  have hg : m.s.goes = false := by unfold PS.goes; rw [h.fuse]; rfl
  have e : fl1 m = (0, { m with s := m.s.spend, S := flushS m.S }) := by
    unfold fl1
    rw [if_neg (by rw [h.off]; decide), if_neg (by rw [hg]; decide)]
  obtain ⟨h1, h2⟩ := spend_calm h.off h.fuse
  exact ⟨_, e, ⟨h1, h2, h.wr, h.rd⟩, rfl⟩
theorem rd1_calm {m : Vs} (h : Calm m) (i : Nat) : rd1 m i = (0, (m.S i).stands, m) := by
  have e : ({ m with rd := m.rd / 2 } : Vs) = m := by
    obtain ⟨s, S, r, w⟩ := m
    have hr : r = 0 := h.rd
    subst hr
    show Vs.mk s S (0 / 2) w = _
    rw [Nat.zero_div]
  unfold rd1
  rw [if_neg (by rw [h.off]; decide), if_neg (by rw [h.rd]; decide), e]
theorem stands_flush (S : Nat → Sec) (i : Nat) : (flushS S i).stands = (S i).stands := by
  rw [flushS_stands]
  unfold flushS
  split
  · rename_i e; rw [Sec.stands_fixed e]
  · rfl
theorem fillS_calm {la i : Nat} {b : Int} {g : Nat} {xs : List UInt8} {r : UInt32} {m : Vs} (h : Calm m) : ∃ m', fillS la i b g xs r m = (0, r + 1, m') ∧ Calm m' ∧ (m'.S (la + 2 * i)).stands = sect (hd1 b g xs (r + 1)) ∧ (m'.S (la + 2 * i + 1)).stands = xs := by
  obtain ⟨m1, a1, q1, s1⟩ := wr1_calm h (la + 2 * i) (sect (hd0 (r + 1)))
  obtain ⟨m2, a2, q2, s2⟩ := fl1_calm q1
  obtain ⟨m3, a3, q3, s3⟩ := wr1_calm q2 (la + 2 * i + 1) xs
  obtain ⟨m4, a4, q4, s4⟩ := fl1_calm q3
  obtain ⟨m5, a5, q5, s5⟩ := wr1_calm q4 (la + 2 * i) (sect (hd1 b g xs (r + 1)))
  refine ⟨m5, ?_, q5, by rw [s5]; exact stands_wrote, ?_⟩
  · unfold fillS
    dsimp only
    rw [a1]
    dsimp only
    rw [if_neg (show ¬ ((0 : Int) ≠ 0) from fun x => x rfl), a2]
    dsimp only
    rw [if_neg (show ¬ ((0 : Int) ≠ 0) from fun x => x rfl), a3]
    dsimp only
    rw [if_neg (show ¬ ((0 : Int) ≠ 0) from fun x => x rfl), a4]
    dsimp only
    rw [if_neg (show ¬ ((0 : Int) ≠ 0) from fun x => x rfl), a5]
  · rw [s5, wrote_other (show la + 2 * i + 1 ≠ la + 2 * i by omega), s4, stands_flush, s3]
    exact stands_wrote
theorem fill_calm {la : Nat} {z b : Int} {g : Nat} {xs : List UInt8} {L : List Slt} {m : Vs} (h : Calm m) (hz : hasZ L z) (hx : xs.length = 64) (hok : okB b g) (hb : isBad (at0 L z) = false) (hr : (at0 L z).r.toNat ≠ 4294967295) :
    ∃ m', fill la z b g xs L m = (0, L.set z.toNat ⟨(at0 L z).f, (at0 L z).r + 1⟩, m') ∧ Calm m' ∧ (m'.S (la + 2 * z.toNat)).stands = sect (hd1 b g xs ((at0 L z).r + 1)) ∧ (m'.S (la + 2 * z.toNat + 1)).stands = xs := by
  obtain ⟨m', e, q, s1, s2⟩ := fillS_calm (la := la) (i := z.toNat) (b := b) (g := g) (xs := xs) (r := (at0 L z).r) h
  refine ⟨m', ?_, q, s1, s2⟩
  unfold fill
  rw [if_neg (fun x => x hz), if_neg (fun x => x ⟨hx, hok⟩), if_neg (by rw [hb]; decide), if_neg hr]
  dsimp only
  rw [e]
theorem fill_gone {la : Nat} {z b : Int} {g : Nat} {xs : List UInt8} {L : List Slt} {m : Vs} (hz : hasZ L z) (hx : xs.length = 64) (hok : okB b g) (hb : isBad (at0 L z) = true) : fill la z b g xs L m = (6, L, m) := by
  unfold fill
  rw [if_neg (fun x => x hz), if_neg (fun x => x ⟨hx, hok⟩), if_pos hb]
theorem read_calm {la : Nat} {z b : Int} {g : Nat} {xs : List UInt8} {L : List Slt} {r : UInt32} {m : Vs} (h : Calm m) (hz : hasZ L z) (hok : okB b g) (h1 : (m.S (la + 2 * z.toNat)).stands = sect (hd1 b g xs r)) (h2 : (m.S (la + 2 * z.toNat + 1)).stands = xs) (c : Int) :
    readS la z c L m = if b = c then ((xs, g, 0), m) else (([], 0, 4), m) := by
  have HG : hg (m.S (la + 2 * z.toNat)).stands = (hd1 b g xs r, 0) := by rw [h1]; exact hg_sect (may1_iff.2 hok)
  have hs : ((UInt32.ofNat (sum xs)).toNat : Int) = (sum xs : Int) := by
    have := sum_lt xs
    rw [UInt32.toNat_ofNat_of_lt' (by show _ < 4294967296; exact this)]
  have HM : mt true b ((UInt32.ofNat (sum xs)).toNat : Int) c (sum xs) = if b = c then 0 else 4 := by
    unfold mt
    by_cases hbc : b = c
    · rw [if_pos hbc, if_pos ⟨rfl, hbc⟩, if_pos hs]
    · rw [if_neg hbc, if_neg (fun x => hbc x.2)]
  obtain ⟨v, hv⟩ : ∃ v, mt true b ((UInt32.ofNat (sum xs)).toNat : Int) c (sum xs) = v := ⟨_, rfl⟩
  obtain ⟨x, hx⟩ : ∃ x, (m.S (la + 2 * z.toNat)).stands = x := ⟨_, rfl⟩
  rw [hx] at HG
  clear h1 hs
  unfold readS
  rw [if_neg (fun x => x hz)]
  dsimp only
  rw [rd1_calm h]
  dsimp only
  rw [if_neg (show ¬ ((0 : Int) ≠ 0) from fun x => x rfl), rd1_calm h]
  dsimp only
  rw [if_neg (show ¬ ((0 : Int) ≠ 0) from fun x => x rfl), hx, h2, HG]
  dsimp only
  rw [if_neg (show ¬ ((0 : Int) ≠ 0) from fun x => x rfl), hv]
  rw [hv] at HM
  by_cases hbc : b = c
  · rw [if_pos hbc] at HM ⊢
    rw [HM, if_neg (show ¬ ((0 : Int) ≠ 0) from fun x => x rfl)]
  · rw [if_neg hbc] at HM ⊢
    rw [HM, if_pos (show (4 : Int) ≠ 0 by decide)]
end Go.Proofs.YtapklelkcicjlaaGreatDoor.Pd.Sl

/-! What the walks of this layer's statements share: the acts that are looked at, a pair as it begins. No conditions. -/
namespace Go.Proofs.YtapklelkcicjlaaGreatDoor.Pd.Sl
set_option maxRecDepth 100000
open Go.RowKit Oc Dm W Dw Sr Gt W.Hd
set_option linter.unusedVariables false
set_option maxRecDepth 100000

theorem act_info : (Tryz.prog.info? 34).map (·.size) = some 17 := by kernel_rfl
section
variable {w0 w w' w1 : World} {P n N la ns B k l c : Nat} {p : Pn.Pl} {A : Option Addr} {Z1 Z : Nat → Prop} {m m1 m2 : Vs} {t1 t2 : Option (List Slt)} {G : List Slt} {L : Nat → ActV} {ls : List Int}
/-- an act loaded -/
theorem act_load (h : Acts w A k L) {i : Nat} (hi : i < k) : ∃ b off, A = some ⟨b, off, none⟩ ∧ (∀ y, Below w.heap.size w y → (Instr.loadAt 34 (.pointer (some ⟨b, off + i * 17, none⟩))).run Tryz.prog y = .ok (.agg (L i).cells.toArray) y) ∧ ActOk w (L i) := by
  obtain ⟨b, off, e, hc, hok⟩ := h i hi
  refine ⟨b, off, e, fun y hy => run_load_cells Tryz.underlying34 rfl act_info rfl fun j v hv => ?_, hok⟩
  have c := hc j v hv
  rw [hy.cell (p := ⟨b, _, none⟩) (World.block_lt_of_cell? w _ c)]
  exact c
theorem St.kp (h : St w0 P p n N m1 m2 t1 t2 w1 Z1 w) : ∃ Z, Kp' w1 P Z1 w Z := by
  obtain ⟨pw, D, q, E, T, U, F, G, H1, H2, r, h2, kk⟩ := h
  exact ⟨_, kk⟩
theorem St.bel (h : St w0 P p n N m1 m2 t1 t2 w1 Z1 w) : Below w0.heap.size w0 w := by
  obtain ⟨pw, D, q, E, T, U, F, G, H1, H2, r, h2, kk⟩ := h
  exact r.bel
theorem st_told (h : St w0 P p n N m m (some G) (some G) w1 Z1 w) (hp : Pln p la ns n) (hL : G.length = ns) (hf : Fi w A l ls) (hlc : l ≤ 1000000) :
    Calls Tryz.prog 9 #[.pointer (some ⟨P, 0, none⟩), .slice A l c] w fun e w' => e = .returned (.bool true) ∧ Below w.heap.size w w' := by
  obtain ⟨pw, D, q, E, T, U, F, G, H1, H2, r, h2, kk⟩ := h
  exact told_any r h2 hp hL hf hlc
/-- a plan of so many slots -/
theorem pln_any (x : Nat) (c : Pn.Cf) (hc : c = Pn.cfOf (1 + (0 : Int) % 512) (1 + (x : Int) % 192) (1 + (0 : Int) % 256)) (p : Pn.Pl) (hp : p = Pn.planOf c.c0 c.c1 c.c2) : ∃ la, Pln p la (1 + x % 192) (la + 2 * (1 + x % 192)) := by
  have e : p = Pn.planOf 1 ((1 + x % 192 : Nat) : Int) 1 := by
    rw [hp, hc]
    show Pn.planOf (1 + (0 : Int) % 512) (1 + (x : Int) % 192) (1 + (0 : Int) % 256) = _
    rw [show 1 + (x : Int) % 192 = ((1 + x % 192 : Nat) : Int) by omega]
    rfl
  rw [e]
  exact pln_plan (1 + x % 192) (by omega) (by omega)
/-- begin, for some plan -/
theorem begin_some (x : Nat) (hx : x ≤ 65535) (w : World) (he : EnvH w) : ∃ p la ns n, Pln p la ns n ∧ ns = 1 + x % 192 ∧ Calls Tryz.prog 7 #[.int .u16 (x : Int)] w fun e w' => ∃ P, e = .returned (.tuple #[.pointer (some ⟨P, 0, none⟩), .bool true]) ∧ St w P p n 0 m00 m00 (some (fresh ns)) (some (fresh ns)) w (fun b => w.heap.size ≤ b) w' := by
  obtain ⟨c, hc⟩ : ∃ c, c = Pn.cfOf (1 + (0 : Int) % 512) (1 + (x : Int) % 192) (1 + (0 : Int) % 256) := ⟨_, rfl⟩
  obtain ⟨p, hp⟩ : ∃ p, p = Pn.planOf c.c0 c.c1 c.c2 := ⟨_, rfl⟩
  obtain ⟨la, hP⟩ := pln_any x c hc p hp
  refine ⟨p, _, _, _, hP, rfl, (begin_any x hx c hc p hp _ _ _ hP w he).mono ?_⟩
  rintro e w' ⟨P, pw, D, q, E, T, U, e1, ⟨F, G, H1, H2, r⟩, h2⟩
  refine ⟨P, e1, pw, D, q, E, some ⟨T, 0, none⟩, some ⟨U, 0, none⟩, F, G, H1, H2, r, h2, ?_⟩
  exact ⟨r.bel.size, fun b hb _ => ⟨r.bel.block b hb, fun y => by
    rcases y with y | y
    · have := (r.ubound y).1; omega
    · have := r.lt.2; omega⟩⟩
theorem fresh_len (k : Nat) : (fresh k).length = k := List.length_replicate
theorem fresh_small (k : Nat) : small (fresh k) 0 := fun s hs => by
  rw [List.eq_of_mem_replicate hs]
  exact Nat.le_refl _
/-- a row cut -/
theorem fi_take {l' : Nat} (h : Fi w A l ls) (hl : l' ≤ l) : Fi w A l' (ls.take l') := by
  show Rw.Sl w A l' ((ls.take l').map _)
  rw [List.map_take]
  exact Rw.Sl.take h hl
end
end Go.Proofs.YtapklelkcicjlaaGreatDoor.Pd.Sl
