/-
  The walk of the statement on Sum and More. No conditions.
-/
import Derived.Test.YtnbpmnnppkehpaaDoorCrcAwake
namespace Go.Proofs.YtnbpmnnppkehpaaDoor.W
open Go.RowKit Oc
set_option linter.unusedVariables false

theorem nat_u32 {a : Int} (h : (Lit.int .u32 a).wf = true) : ∃ N : Nat, a = (N : Int) ∧ N < 4294967296 := by
  simp [Lit.wf, IntKind.min, IntKind.max, IntKind.signed, IntKind.bits] at h
  exact ⟨a.toNat, by omega, by omega⟩
theorem nat_u16 {a : Int} (h : (Lit.int .u16 a).wf = true) : ∃ N : Nat, a = (N : Int) ∧ N < 65536 := by
  simp [Lit.wf, IntKind.min, IntKind.max, IntKind.signed, IntKind.bits] at h
  exact ⟨a.toNat, by omega, by omega⟩
/-- the first 200 -/
theorem first {w : World} {A : Option Addr} {n : Nat} {xs : List UInt8} (ho : Oct w A n xs) : ∃ m ys, m = min n 200 ∧ m ≤ 200 ∧ Oct w A m ys := ⟨_, _, rfl, by omega, ho.take (by omega)⟩

set_option maxHeartbeats 4000000 in
theorem sums_walk (A A2 : Option Addr) (n c n2 c2 : Nat) (xs xs2 : List UInt8) (s : Nat) (w : World) (hc : n ≤ c) (hc2 : n2 ≤ c2) (ho : Oct w A n xs) (ho2 : Oct w A2 n2 xs2) (hs : s < 4294967296) (he : Env w) :
    Calls Tryd.prog 3 #[.slice A n c, .slice A2 n2 c2, .int .u32 (s : Int)] w fun e w' => e = .returned (.bool true) ∧ Below w.heap.size w w' := by
  obtain ⟨m, ys, hm, hm3, hy⟩ := first ho
  obtain ⟨m2, zs, hm2, hm4, hz⟩ := first ho2
  obtain ⟨ra, era⟩ : ∃ r, sum ys = r := ⟨_, rfl⟩
  obtain ⟨ts, ets⟩ : ∃ ts, ys ++ zs = ts := ⟨_, rfl⟩
  obtain ⟨nt, ent⟩ : ∃ nt, ts.length = nt := ⟨_, rfl⟩
  have hnt : nt ≤ 1000 := by rw [← ent, ← ets, List.length_append, hy.len, hz.len]; omega
  obtain ⟨rt, ert⟩ : ∃ r, sum ts = r := ⟨_, rfl⟩
  obtain ⟨rm, erm⟩ : ∃ r, more s zs = r := ⟨_, rfl⟩
  have hra : ra < 4294967296 := by rw [← era]; exact sum_lt ys
  have erx : more ra zs = rt := by rw [← era, ← sum_append, ets, ert]
  have ert2 : sum (ys ++ zs) = rt := by rw [ets, ert]
  have ERA := Lib.hid era
  have ETS := Lib.hid ets
  have ENT := Lib.hid ent
  have ERT := Lib.hid ert
  have ERM := Lib.hid erm
  have ERX := Lib.hid erx
  have ERT2 := Lib.hid ert2
  have HM := Lib.hid hm
  have HM2 := Lib.hid hm2
  have HO := Lib.hid hy
  have HO2 := Lib.hid hz
  have HS := Lib.hid hs
  have HR := Lib.hid hra
  have HE := Lib.hid he
  clear era ets ent ert erm erx ert2 hm hm2 hy hz hs hra he ho ho2
  go_enter Tryd.func3, Tryd.ntmps3
  go_wp2_with fail
  refine (few_any _ _ _ m _ HM.out hc).mono ?_; rintro e w' ⟨rfl, rfl⟩
  go_wp2_with fail
  refine (few_any _ _ _ m2 _ HM2.out hc2).mono ?_; rintro e w' ⟨rfl, rfl⟩
  go_wp2_with fail
  refine (join_new _ _ _ _ _ _ ys zs w (by omega) (by omega) HO.out HO2.out).mono ?_; rintro e w1 ⟨v, rfl, o, b⟩
  rw [ETS.out] at o
  obtain ⟨A3, c3, rfl, l3, s3⟩ := o.form ENT.out
  have S1 := Lib.hid s3
  have B1 := Lib.hid b
  clear o b s3 l3
  go_wp2_with fail
  refine (sum_here _ _ _ _ ys ra _ rfl (by omega) (HO.out.below B1.out) (HE.out.below B1.out) ERA.out).mono ?_; rintro e w2 ⟨rfl, hw⟩
  have B2 : Hid (Below w.heap.size w w2) := by rw [← hw]; exact bthen B1.out (balloc _ _)
  have S2 : Hid (Oct w2 A3 nt ts) := by rw [← hw]; exact S1.out.alloc _
  clear hw
  go_wp2_with fail
  refine (rsum_any _ _ _ ys ra _ (by omega) (HO.out.below B2.out) ERA.out).mono ?_; rintro e w' ⟨rfl, rfl⟩
  go_wp2_with fail
  refine (sum_here2 _ _ _ _ _ _ _ ys zs rt _ rfl (by omega) (by omega) (HO.out.below B2.out) (HO2.out.below B2.out) (HE.out.below B2.out) ERT2.out).mono ?_; rintro e w3 ⟨rfl, hw⟩
  have B3 : Hid (Below w.heap.size w w3) := by rw [← hw]; exact bthen B2.out (balloc _ _)
  have S3 : Hid (Oct w3 A3 nt ts) := by rw [← hw]; exact S2.out.alloc _
  clear hw
  go_wp2_with fail
  refine (rsum_any _ _ _ ts rt _ (by omega) S3.out ERT.out).mono ?_; rintro e w' ⟨rfl, rfl⟩
  go_wp2_with fail
  refine (more_any _ _ _ zs s rm _ (by omega) (HO2.out.below B3.out) (HE.out.below B3.out) HS.out ERM.out).mono ?_; rintro e w' ⟨rfl, rfl⟩
  go_wp2_with fail
  refine (rmore_any _ _ _ zs s rm _ (by omega) (HO2.out.below B3.out) HS.out ERM.out).mono ?_; rintro e w' ⟨rfl, rfl⟩
  go_wp2_with fail
  refine (sum_here _ _ _ _ ys ra _ rfl (by omega) (HO.out.below B3.out) (HE.out.below B3.out) ERA.out).mono ?_; rintro e w4 ⟨rfl, hw⟩
  have B4 : Hid (Below w.heap.size w w4) := by rw [← hw]; exact bthen B3.out (balloc _ _)
  have S4 : Hid (Oct w4 A3 nt ts) := by rw [← hw]; exact S3.out.alloc _
  clear hw
  go_wp2_with fail
  refine (more_any _ _ _ zs ra rt _ (by omega) (HO2.out.below B4.out) (HE.out.below B4.out) HR.out ERX.out).mono ?_; rintro e w' ⟨rfl, rfl⟩
  go_wp2_with fail
  refine (sum_here _ _ _ _ ts rt _ rfl (by omega) S4.out (HE.out.below B4.out) ERT.out).mono ?_; rintro e w5 ⟨rfl, hw⟩
  have B5 : Hid (Below w.heap.size w w5) := by rw [← hw]; exact bthen B4.out (balloc _ _)
  clear hw
  go_wp2_with fail
  refine (awake_any _ (HE.out.below B5.out)).mono ?_; rintro e w6 ⟨rfl, b⟩
  have B6 := Lib.hid b
  clear b
  go_wp2
  go_ret
  exact ⟨rfl, bthen B5.out B6.out⟩

theorem sums_law (w : World) (A : Option Addr) (n c : Nat) (xs : List UInt8) (hc : n ≤ c) (hm : c ≤ maxLen) (ho : Oct w A n xs) (A2 : Option Addr) (n2 c2 : Nat) (xs2 : List UInt8) (hc2 : n2 ≤ c2) (hm2 : c2 ≤ maxLen) (ho2 : Oct w A2 n2 xs2) (s : Int) (hs : (Lit.int .u32 s).wf = true) (he : Env w) :
    Calls Tryd.prog 3 #[.slice A n c, .slice A2 n2 c2, .int .u32 s] w fun e w' => e = .returned (.bool true) ∧ Below w.heap.size w w' := by
  obtain ⟨N, rfl, hN⟩ := nat_u32 hs
  exact sums_walk A A2 n c n2 c2 xs xs2 N w hc hc2 ho ho2 hN he
end Go.Proofs.YtnbpmnnppkehpaaDoor.W
