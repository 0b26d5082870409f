/-
  The walk of the statement on Seal and Open. No conditions.
-/
import Derived.Test.YtnbpmnnppkehpaaDoorCrcTurns
namespace Go.Proofs.YtnbpmnnppkehpaaDoor.W
open Go.RowKit Oc
set_option linter.unusedVariables false
attribute [local go_sem ↓] Go.wp_at_zero Go.wp_at_succ

theorem env_drew {w : World} (h : Env w) : Env w.drew := h

set_option maxHeartbeats 4000000 in
theorem seals_walk (A A2 : Option Addr) (n c n2 c2 : Nat) (xs xs2 : List UInt8) (w : World) (hc : n ≤ c) (hc2 : n2 ≤ c2) (ho : Oct w A n xs) (ho2 : Oct w A2 n2 xs2) (he : Env w) :
    Calls Tryd.prog 4 #[.slice A n c, .slice A2 n2 c2] w fun e w' => e = .returned (.bool true) ∧ Below w.heap.size w w' := by
  obtain ⟨m, ys, hm, hm3, hy⟩ := first ho
  obtain ⟨m2, zs, hm2, hm4, hz⟩ := first ho2
  have hyl := hy.len
  obtain ⟨ss, ess⟩ : ∃ ss, sealed ys = ss := ⟨_, rfl⟩
  have hsl : ss.length = m + 4 := by rw [← ess, seal_length, hyl]
  have h0 : openE ss = 0 := by rw [← ess]; exact openE_seal ys
  have h0l : openL ss = ys := by rw [← ess]; exact openL_seal ys
  obtain ⟨E, eE⟩ : ∃ E, openE zs = E := ⟨_, rfl⟩
  obtain ⟨os, eos⟩ : ∃ os, openL zs = os := ⟨_, rfl⟩
  obtain ⟨no, eno⟩ : ∃ no, os.length = no := ⟨_, rfl⟩
  have ESS := Lib.hid ess
  have HSL := Lib.hid hsl
  have H0 := Lib.hid h0
  have H0L := Lib.hid h0l
  have EE := Lib.hid eE
  have EOS := Lib.hid eos
  have ENO := Lib.hid eno
  have HYL := Lib.hid hyl
  have HM := Lib.hid hm
  have HM2 := Lib.hid hm2
  have HO := Lib.hid hy
  have HO2 := Lib.hid hz
  have HE := Lib.hid he
  have hmc : m2 ≤ c2 := by omega
  clear ess hsl h0 h0l eE eos eno hyl hm hm2 hy hz he ho ho2
  go_enter Tryd.func4, Tryd.ntmps4
  go_wp2_with fail
  refine (few_any _ _ _ m _ HM.out hc).mono ?_; rintro e w' ⟨rfl, rfl⟩
  go_wp2_with fail
  refine (few_any _ _ _ m2 _ HM2.out hc2).mono ?_; rintro e w' ⟨rfl, rfl⟩
  go_wp2_with fail
  refine (seal_any _ _ _ ys _ (by omega) HO.out HE.out).mono ?_; rintro e w1 ⟨v1, rfl, o, b⟩
  rw [ESS.out] at o
  obtain ⟨A1, c1, rfl, l1, s1⟩ := o.form HSL.out
  have S1 := Lib.hid s1
  have B1 := Lib.hid b
  clear o b s1
  go_wp2_with fail
  refine (open_any _ _ _ ss _ (by omega) l1 S1.out (HE.out.below B1.out)).mono ?_; rintro e w2 ⟨v2, rfl, o, b⟩
  rw [H0.out]
  rw [H0L.out] at o
  obtain ⟨A3, c3, rfl, l3, s3⟩ := o.form HYL.out
  have SX2 := Lib.hid s3
  have B2 : Hid (Below w.heap.size w w2) := bthen B1.out b
  clear o b s3 l1 l3
  go_wp2_with fail
  refine (open_any _ _ _ zs _ (by omega) hmc (HO2.out.below B2.out) (HE.out.below B2.out)).mono ?_; rintro e w3 ⟨v3, rfl, o, b⟩
  rw [EE.out]
  rw [EOS.out] at o
  obtain ⟨A4, c4, rfl, l4, s4⟩ := o.form ENO.out
  have SY3 := Lib.hid s4
  have B3 : Hid (Below w.heap.size w w3) := bthen B2.out b
  have SX3 := Lib.hid (SX2.out.below b)
  clear o b s4 l4
  go_wp2_with fail
  refine (ropen_any _ _ _ zs _ (by omega) hmc (HO2.out.below B3.out)).mono ?_; rintro e w4 ⟨A7, m7, c7, rfl, o, k, hw⟩
  rw [EE.out]
  rw [EOS.out] at o
  have B4 : Hid (Below w.heap.size w w4) := by rw [hw]; exact below_drewN B3.out k
  have SX4 : Hid (Oct w4 A3 m ys) := by rw [hw]; exact SX3.out.drewN k
  have SY4 : Hid (Oct w4 A4 no os) := by rw [hw]; exact SY3.out.drewN k
  have SZ4 : Hid (Oct w4 A7 m7 os) := by rw [hw]; exact o.drewN k
  clear o hw
  go_wp2_with fail
  go_region_held (fun _ => True) (exact trivial) (first
    | (go_at_call 15; (with_reducible refine (seal_any _ _ _ ys _ (by omega) (HO.out.below B4.out).drew (env_drew (HE.out.below B4.out))).mono ?_); rintro e w5 ⟨v5, rfl, o5, b5⟩; rw [ESS.out] at o5; obtain ⟨A5, c5, rfl, l5, s5⟩ := o5.form HSL.out; have S5 := Lib.hid s5; have C5 : Hid (Below w4.heap.size w4 w5) := below_of_drew b5; have B5 : Hid (Below w.heap.size w w5) := bthen B4.out C5.out; have cv5 := s5.conv bt Tryd.underlying9 c5; clear o5 b5 s5 l5)
    | (go_at_call 17; (with_reducible refine (rseal_any _ _ _ ys _ (by omega) (HO.out.below B5.out)).mono ?_); rintro e w6 ⟨v6, rfl, o6, b6⟩; rw [ESS.out] at o6; obtain ⟨A6, c6, rfl, l6, s6⟩ := o6.form HSL.out; have B6 : Hid (Below w.heap.size w w6) := bthen B5.out b6; have cv6 := s6.conv bt Tryd.underlying9 c6; have cv7 := (S5.out.below b6).conv bt Tryd.underlying9 c5; have cva := (HO.out.below B6.out).conv bt Tryd.underlying9 c; have cvx := ((SX4.out.below C5.out).below b6).conv bt Tryd.underlying9 c3; have cvy := ((SY4.out.below C5.out).below b6).conv bt Tryd.underlying9 c4; have cvz := ((SZ4.out.below C5.out).below b6).conv bt Tryd.underlying9 c7; clear o6 b6 s6 l6)
    | (go_at_call 13; (with_reducible refine (awake_any _ (HE.out.below B6.out)).mono ?_); rintro e w7 ⟨rfl, b7⟩; have B7 := Lib.hid b7; clear b7))
  all_goals go_wp2
  all_goals (go_ret; exact ⟨rfl, bthen B6.out B7.out⟩)

theorem seals_law (w : World) (A : Option Addr) (n c : Nat) (xs : List UInt8) (hc : n ≤ c) (hm : c ≤ maxLen) (ho : Oct w A n xs) (A2 : Option Addr) (n2 c2 : Nat) (xs2 : List UInt8) (hc2 : n2 ≤ c2) (hm2 : c2 ≤ maxLen) (ho2 : Oct w A2 n2 xs2) (he : Env w) :
    Calls Tryd.prog 4 #[.slice A n c, .slice A2 n2 c2] w fun e w' => e = .returned (.bool true) ∧ Below w.heap.size w w' :=
  seals_walk A A2 n c n2 c2 xs xs2 w hc hc2 ho ho2 he
end Go.Proofs.YtnbpmnnppkehpaaDoor.W
