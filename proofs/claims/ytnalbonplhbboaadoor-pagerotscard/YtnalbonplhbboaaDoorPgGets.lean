/-
  The walks of the statements on Get and on turned bits. No conditions.
-/
import Derived.Test.YtnalbonplhbboaaDoorPgAwake
import Derived.IntWalk
namespace Go.Proofs.YtnalbonplhbboaaDoor.W
open Go.RowKit Oc
set_option linter.unusedVariables false

theorem first70 {w : World} {A : Option Addr} {n : Nat} {xs : List UInt8} (ho : Oct w A n xs) : ∃ m ys, m = min n 70 ∧ m ≤ 70 ∧ m ≤ n ∧ Oct w A m ys := ⟨min n 70, xs.take (min n 70), rfl, by omega, by omega, ho.take (by omega)⟩
theorem bstr_eq (xs ys : List UInt8) (p : Bool) (hp : decide (xs = ys) = p) : ((bstr xs).toList == (bstr ys).toList) = p := by
  rw [ByteArray.toList_eq, ByteArray.toList_eq]
  show (xs == ys) = p
  rw [← hp]
  by_cases h : xs = ys <;> simp [h]
theorem below_drewN {B : Nat} {a w : World} (h : Below B a w) (n : Nat) : Below B a (w.drewN n) := ⟨h.os, h.tape, h.output, h.size, h.block⟩
theorem Env.drewN {w : World} (h : Env w) (n : Nat) : Env (w.drewN n) := h

theorem nat_u32 {a : Int} (h : (Lit.int .u32 a).wf = true) : ∃ N : Nat, a = (N : Int) ∧ N < 4294967296 := by
  simp [Lit.wf, IntKind.min, IntKind.max, IntKind.signed, IntKind.bits] at h
  exact ⟨a.toNat, by omega, by omega⟩
theorem nat_u16 {a : Int} (h : (Lit.int .u16 a).wf = true) : ∃ N : Nat, a = (N : Int) ∧ N < 65536 := by
  simp [Lit.wf, IntKind.min, IntKind.max, IntKind.signed, IntKind.bits] at h
  exact ⟨a.toNat, by omega, by omega⟩
theorem nat_u8 {a : Int} (h : (Lit.int .u8 a).wf = true) : ∃ N : Nat, a = (N : Int) ∧ N < 256 := by
  simp [Lit.wf, IntKind.min, IntKind.max, IntKind.signed, IntKind.bits] at h
  exact ⟨a.toNat, by omega, by omega⟩

set_option maxRecDepth 100000 in
set_option maxHeartbeats 4000000 in
theorem gets_walk (A : Option Addr) (n c : Nat) (xs : List UInt8) (k : Int) (w : World) (hc : n ≤ c) (ho : Oct w A n xs) (he : Env w) :
    Calls Tryd.prog 4 #[.slice A n c, .int .i64 k] w fun e w' => e = .returned (.bool true) ∧ Below w.heap.size w w' := by
  obtain ⟨m, ys, hm, hm3, hmn, hy⟩ := first70 ho
  have HM := Lib.hid hm
  have HO := Lib.hid hy
  have HE := Lib.hid he
  obtain ⟨E, hE⟩ : ∃ E, getE ys k = E := ⟨_, rfl⟩
  obtain ⟨gs, hgs⟩ : ∃ gs, getL ys k = gs := ⟨_, rfl⟩
  obtain ⟨N, hN⟩ : ∃ N, gs.length = N := ⟨_, rfl⟩
  obtain ⟨r, hr⟩ : ∃ r, kindE ys = r := ⟨_, rfl⟩
  obtain ⟨p, hp⟩ : ∃ p, blank ys = p := ⟨_, rfl⟩
  have EE := Lib.hid hE
  have EG := Lib.hid hgs
  have EN := Lib.hid hN
  have ER := Lib.hid hr
  have EP := Lib.hid hp
  have hmc : m ≤ c := by omega
  clear hm hy he ho hE hgs hN hr hp
  go_enter Tryd.func4, Tryd.ntmps4
  go_wp2_with fail
  refine (few_any _ _ _ m _ HM.out hc).mono ?_; rintro e w' ⟨rfl, rfl⟩
  go_wp2_with fail
  refine (pget_any _ _ _ ys _ _ (by omega) hmc HO.out HE.out).mono ?_; rintro e w1 ⟨v1, rfl, o, b⟩
  rw [EE.out]
  rw [EG.out] at o
  obtain ⟨A1, c1, rfl, l1, s1⟩ := o.form EN.out
  have S1 := Lib.hid s1
  have B1 := Lib.hid b
  clear o b s1
  go_wp2_with fail
  refine (rget_any _ _ _ ys _ _ (by omega) hmc (HO.out.below B1.out)).mono ?_; rintro e w2 ⟨A2, m2, c2, rfl, o, kk, hw⟩
  rw [EE.out]
  rw [EG.out] at o
  have B2 : Hid (Below w.heap.size w w2) := by rw [hw]; exact below_drewN B1.out kk
  have cv1 := (show Oct w2 A1 N gs by rw [hw]; exact S1.out.drewN kk).conv bt Tryd.underlying9 c1
  have cv2 := (show Oct w2 A2 m2 gs by rw [hw]; exact o.drewN kk).conv bt Tryd.underlying9 c2
  clear o hw
  go_wp2_with fail
  refine (pkind_any _ _ _ r ys _ (by omega) hmc (HO.out.below B2.out) (HE.out.below B2.out) ER.out).mono ?_; rintro e w3 ⟨rfl, b⟩
  have B3 : Hid (Below w.heap.size w w3) := bthen B2.out b
  clear b
  go_wp2_with fail
  refine (rkind_any _ _ _ r ys _ (by omega) hmc (HO.out.below B3.out) ER.out).mono ?_; rintro e w4 ⟨rfl, kk4, hw⟩
  have B4 : Hid (Below w.heap.size w w4) := by rw [hw]; exact below_drewN B3.out kk4
  clear hw
  go_wp2_with fail
  refine (blank_any _ _ _ ys p _ (by omega) (HO.out.below B4.out) EP.out).mono ?_; rintro e w5 ⟨rfl, rfl⟩
  go_wp2_with fail
  refine (rblank_any _ _ _ ys p _ (by omega) (HO.out.below B4.out) EP.out).mono ?_; rintro e w5 ⟨rfl, b⟩
  have B5 : Hid (Below w.heap.size w w5) := bthen B4.out b
  clear b
  go_wp2_with fail
  refine (awake_any _ (HE.out.below B5.out)).mono ?_; rintro e w6 ⟨rfl, b⟩
  have B6 : Hid (Below w.heap.size w w6) := bthen B5.out b
  clear b
  go_wp2
  go_ret
  exact ⟨rfl, B6.out⟩
theorem gets_law (w : World) (A : Option Addr) (n c : Nat) (xs : List UInt8) (hc : n ≤ c) (hm : c ≤ maxLen) (ho : Oct w A n xs) (k : Int) (hk : (Lit.int .i64 k).wf = true) (he : Env w) :
    Calls Tryd.prog 4 #[.slice A n c, .int .i64 k] w fun e w' => e = .returned (.bool true) ∧ Below w.heap.size w w' :=
  gets_walk A n c xs k w hc ho he

set_option maxRecDepth 100000 in
set_option maxHeartbeats 4000000 in
theorem rots_walk (K : Nat) (A : Option Addr) (n c : Nat) (xs : List UInt8) (at_ T : Nat) (w : World) (hK : K < 256) (hc : n ≤ c) (ho : Oct w A n xs) (ha : at_ < 65536) (hT : T < 4294967296) (he : Env w) :
    Calls Tryd.prog 5 #[.int .u8 (K : Int), .slice A n c, .int .u16 (at_ : Int), .int .u32 (T : Int)] w fun e w' => e = .returned (.bool true) ∧ Below w.heap.size w w' := by
  obtain ⟨m, ys, hm, hm3, hmn, hy⟩ := first70 ho
  have HM := Lib.hid hm
  have HE := Lib.hid he
  obtain ⟨κ, hκ⟩ : ∃ κ : Nat, κ = 1 + K % 7 := ⟨_, rfl⟩
  have hk : Right (κ : Int) := by unfold Right; omega
  have hκ2 : (1 : Int) + (K : Int) % 7 = (κ : Int) := by omega
  obtain ⟨j, ps, hj, hj58, hps⟩ : ∃ j ps, j = min m 58 ∧ j ≤ 58 ∧ Oct w A j ps := ⟨min m 58, ys.take (min m 58), rfl, by omega, hy.take (by omega)⟩
  have hpl := hps.len
  obtain ⟨ss, ess⟩ : ∃ ss, sealed (body κ ps) = ss := ⟨_, rfl⟩
  obtain ⟨cs, ecs⟩ : ∃ cs, turned ss (at_ : Int) T 32 = cs := ⟨_, rfl⟩
  have hsl : ss.length = 64 := by rw [← ess]; exact (page_facts hk (by omega)).1
  have hcl : cs.length = 64 := by rw [← ecs, turned_length, hsl]
  have hpe : putE (κ : Int) ps.length = 0 := putE_ok hk (by omega)
  have hpx : putL (κ : Int) ps = ss := by rw [putL_ok hk (by omega), ess]
  obtain ⟨E, hE⟩ : ∃ E, getE cs (κ : Int) = E := ⟨_, rfl⟩
  obtain ⟨r, hr⟩ : ∃ r, kindE cs = r := ⟨_, rfl⟩
  obtain ⟨gs, hgs⟩ : ∃ gs, getL cs (κ : Int) = gs := ⟨_, rfl⟩
  obtain ⟨N, hN⟩ : ∃ N, gs.length = N := ⟨_, rfl⟩
  have key : (((bstr ss).toList == (bstr cs).toList) = true ∧ E = 0) ∨ (((bstr ss).toList == (bstr cs).toList) = false ∧ E = 40 ∧ r = 0 ∧ N = 0) := by
    by_cases h : ss = cs
    · refine .inl ⟨bstr_eq ss cs true (decide_eq_true h), ?_⟩
      rw [← hE, ← h, ← ess]
      exact page_get hk (by omega)
    · refine .inr ⟨bstr_eq ss cs false (decide_eq_false h), ?_⟩
      have h2 := page_rots (k := κ) (ps := ps) (by omega) at_ T (by rw [ess, ecs]; exact h) (κ : Int)
      rw [ess, ecs, hE, hr] at h2
      refine ⟨h2.1, h2.2, ?_⟩
      rw [← hN, ← hgs, getL_no (by rw [hE, h2.1]; decide)]
      rfl
  have KEY := Lib.hid key
  have HO := Lib.hid hps
  have ESS := Lib.hid ess
  have ECS := Lib.hid ecs
  have HSL := Lib.hid hsl
  have HCL := Lib.hid hcl
  have HPE := Lib.hid hpe
  have HPX := Lib.hid hpx
  have EE := Lib.hid hE
  have ER := Lib.hid hr
  have EG := Lib.hid hgs
  have EN := Lib.hid hN
  have HT := Lib.hid hT
  have HJ := Lib.hid hj
  have hκ7 : κ ≤ 7 := by omega
  have H2 := Lib.hid hκ
  have hjm : j = m ∧ m ≤ 58 ∨ j = 58 ∧ 58 < m := by omega
  clear hm hy he ho hk key hps ess ecs hsl hcl hpe hpx hE hr hgs hN hT hpl hκ hj
  go_enter Tryd.func5, Tryd.ntmps5
  go_wp2_with fail
  refine (few_any _ _ _ m _ HM.out hc).mono ?_; rintro e w' ⟨rfl, rfl⟩
  have hmc : m ≤ c := by omega
  rcases hjm with ⟨rfl, hlt⟩ | ⟨rfl, hlt⟩
  · go_wp2_with fail
    refine (rput_any _ _ _ ps _ _ (by omega) HO.out).mono ?_; rintro e w1 ⟨v1, rfl, o, b⟩
    rw [HPE.out]
    rw [HPX.out] at o
    obtain ⟨A1, c1, rfl, l1, s1⟩ := o.form HSL.out
    have S1 := Lib.hid s1
    have B1 := Lib.hid b
    clear o b s1
    go_wp2_with fail
    refine (rturn_any _ _ _ ss at_ T _ (by omega) S1.out HT.out).mono ?_; rintro e w2 ⟨v2, rfl, o, b⟩
    rw [ECS.out] at o
    obtain ⟨A2, c2, rfl, l2, s2⟩ := o.form HCL.out
    have S2 := Lib.hid s2
    have SS2 := Lib.hid (S1.out.below b)
    have B2 : Hid (Below w.heap.size w w2) := bthen B1.out b
    clear o b s2
    go_wp2_with fail
    refine (pget_any _ _ _ cs _ _ (by omega) l2 S2.out (HE.out.below B2.out)).mono ?_; rintro e w3 ⟨v3, rfl, o, b⟩
    rw [EE.out]
    rw [EG.out] at o
    obtain ⟨A3, c3, rfl, l3, s3⟩ := o.form EN.out
    have S3 := Lib.hid (S2.out.below b)
    have B3 : Hid (Below w.heap.size w w3) := bthen B2.out b
    have cv1 := (SS2.out.below b).conv bt Tryd.underlying9 c1
    have cv2 := (S2.out.below b).conv bt Tryd.underlying9 c2
    clear o b s3
    rcases KEY.out with ⟨hq, rfl⟩ | ⟨hq, rfl, rfl, rfl⟩
    · go_wp2_with fail
      refine (awake_any _ (HE.out.below B3.out)).mono ?_; rintro e w4 ⟨rfl, b⟩
      have B4 : Hid (Below w.heap.size w w4) := bthen B3.out b
      clear b
      go_wp2
      go_ret
      exact ⟨rfl, B4.out⟩
    · go_wp2_with fail
      refine (pkind_any _ _ _ 0 cs _ (by omega) l2 S3.out (HE.out.below B3.out) ER.out).mono ?_; rintro e w4 ⟨rfl, b⟩
      have B4 : Hid (Below w.heap.size w w4) := bthen B3.out b
      clear b
      go_wp2_with fail
      refine (awake_any _ (HE.out.below B4.out)).mono ?_; rintro e w5 ⟨rfl, b⟩
      have B5 : Hid (Below w.heap.size w w5) := bthen B4.out b
      clear b
      go_wp2
      go_ret
      exact ⟨rfl, B5.out⟩
  · go_wp2_with fail
    refine (rput_any _ _ _ ps _ _ (by omega) HO.out).mono ?_; rintro e w1 ⟨v1, rfl, o, b⟩
    rw [HPE.out]
    rw [HPX.out] at o
    obtain ⟨A1, c1, rfl, l1, s1⟩ := o.form HSL.out
    have S1 := Lib.hid s1
    have B1 := Lib.hid b
    clear o b s1
    go_wp2_with fail
    refine (rturn_any _ _ _ ss at_ T _ (by omega) S1.out HT.out).mono ?_; rintro e w2 ⟨v2, rfl, o, b⟩
    rw [ECS.out] at o
    obtain ⟨A2, c2, rfl, l2, s2⟩ := o.form HCL.out
    have S2 := Lib.hid s2
    have SS2 := Lib.hid (S1.out.below b)
    have B2 : Hid (Below w.heap.size w w2) := bthen B1.out b
    clear o b s2
    go_wp2_with fail
    refine (pget_any _ _ _ cs _ _ (by omega) l2 S2.out (HE.out.below B2.out)).mono ?_; rintro e w3 ⟨v3, rfl, o, b⟩
    rw [EE.out]
    rw [EG.out] at o
    obtain ⟨A3, c3, rfl, l3, s3⟩ := o.form EN.out
    have S3 := Lib.hid (S2.out.below b)
    have B3 : Hid (Below w.heap.size w w3) := bthen B2.out b
    have cv1 := (SS2.out.below b).conv bt Tryd.underlying9 c1
    have cv2 := (S2.out.below b).conv bt Tryd.underlying9 c2
    clear o b s3
    rcases KEY.out with ⟨hq, rfl⟩ | ⟨hq, rfl, rfl, rfl⟩
    · go_wp2_with fail
      refine (awake_any _ (HE.out.below B3.out)).mono ?_; rintro e w4 ⟨rfl, b⟩
      have B4 : Hid (Below w.heap.size w w4) := bthen B3.out b
      clear b
      go_wp2
      go_ret
      exact ⟨rfl, B4.out⟩
    · go_wp2_with fail
      refine (pkind_any _ _ _ 0 cs _ (by omega) l2 S3.out (HE.out.below B3.out) ER.out).mono ?_; rintro e w4 ⟨rfl, b⟩
      have B4 : Hid (Below w.heap.size w w4) := bthen B3.out b
      clear b
      go_wp2_with fail
      refine (awake_any _ (HE.out.below B4.out)).mono ?_; rintro e w5 ⟨rfl, b⟩
      have B5 : Hid (Below w.heap.size w w5) := bthen B4.out b
      clear b
      go_wp2
      go_ret
      exact ⟨rfl, B5.out⟩
theorem rots_law (w : World) (a : Int) (ha : (Lit.int .u8 a).wf = true) (A : Option Addr) (n c : Nat) (xs : List UInt8) (hc : n ≤ c) (hm : c ≤ maxLen) (ho : Oct w A n xs) (a2 : Int) (ha2 : (Lit.int .u16 a2).wf = true) (a3 : Int) (ha3 : (Lit.int .u32 a3).wf = true) (he : Env w) :
    Calls Tryd.prog 5 #[.int .u8 a, .slice A n c, .int .u16 a2, .int .u32 a3] w fun e w' => e = .returned (.bool true) ∧ Below w.heap.size w w' := by
  obtain ⟨K, rfl, hK⟩ := nat_u8 ha
  obtain ⟨N, rfl, hN⟩ := nat_u16 ha2
  obtain ⟨M, rfl, hM⟩ := nat_u32 ha3
  exact rots_walk K A n c xs N M w hK hc ho hN hM he
end Go.Proofs.YtnalbonplhbboaaDoor.W
