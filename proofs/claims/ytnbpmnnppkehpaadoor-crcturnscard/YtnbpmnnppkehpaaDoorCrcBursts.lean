/-
  The walk of the statement on changes within 32 bits in a row. No conditions.
-/
import Derived.Test.YtnbpmnnppkehpaaDoorCrcSums
namespace Go.Proofs.YtnbpmnnppkehpaaDoor.W
open Go.RowKit Oc
set_option linter.unusedVariables false

theorem burst_told (ys : List UInt8) (at_ T : Nat) (h : sum ys = sum (turned ys at_ T 32)) : ys = turned ys at_ T 32 := by
  obtain ⟨U, hU, e⟩ := turned_num ys at_ T 32
  exact burst_sum (turned_length ys at_ T 32) at_ U hU e h
theorem burst_shut (ys : List UInt8) (at_ T : Nat) (h : ¬ sealed ys = turned (sealed ys) at_ T 32) : openE (turned (sealed ys) at_ T 32) = 40 := by
  obtain ⟨U, hU, e⟩ := turned_num (sealed ys) at_ T 32
  have hl := turned_length (sealed ys) at_ T 32
  have hl2 := seal_length ys
  obtain ⟨cs, hcs⟩ : ∃ cs, turned (sealed ys) at_ T 32 = cs := ⟨_, rfl⟩
  have hl3 : (turned (sealed ys) (at_ : Int) T 32).length = cs.length := by rw [hcs]
  rw [hcs] at e h ⊢
  have hc : cs.length - 4 = ys.length := by omega
  refine openE_no (by omega) fun hq => h ?_
  rw [hc] at hq
  have e2 : cs.take ys.length ++ cs.drop ys.length = cs := List.take_append_drop _ _
  have h3 := burst_seal (xs := ys) (zs := octs (sum ys) 4) (xs' := cs.take ys.length) (zs' := cs.drop ys.length) (by rw [List.length_take]; omega) (by rw [List.length_drop, octs_length]; omega) at_ U hU (by rw [e2]; exact e) (num_sum ys) hq
  rw [e2] at h3
  exact h3
theorem below_drewN {B : Nat} {a w : World} (h : Below B a w) (n : Nat) : Below B a (w.drewN n) := ⟨h.os, h.tape, h.output, h.size, h.block⟩
theorem Env.drewN {w : World} (h : Env w) (n : Nat) : Env (w.drewN n) := h
theorem bstr_eq (xs ys : List UInt8) (p : Bool) (hp : decide (xs = ys) = p) : ((bstr xs).toList == (bstr ys).toList) = p := by
  rw [ByteArray.toList_eq, ByteArray.toList_eq]
  show (xs == ys) = p
  rw [← hp]
  by_cases h : xs = ys <;> simp [h]

set_option maxHeartbeats 4000000 in
theorem bursts_walk (A : Option Addr) (n c : Nat) (xs : List UInt8) (at_ T : Nat) (w : World) (hc : n ≤ c) (ho : Oct w A n xs) (ha : at_ < 65536) (hT : T < 4294967296) (he : Env w) :
    Calls Tryd.prog 6 #[.slice A n c, .int .u16 (at_ : Int), .int .u32 (T : Int)] w fun e w' => e = .returned (.bool true) ∧ Below w.heap.size w w' := by
  obtain ⟨m, ys, hm, hm3, hy⟩ := first ho
  have hyl := hy.len
  obtain ⟨bs, ebs⟩ : ∃ bs, turned ys (at_ : Int) T 32 = bs := ⟨_, rfl⟩
  obtain ⟨ss, ess⟩ : ∃ ss, sealed ys = ss := ⟨_, rfl⟩
  obtain ⟨cs, ecs⟩ : ∃ cs, turned ss (at_ : Int) T 32 = cs := ⟨_, rfl⟩
  have hbl : bs.length = m := by rw [← ebs, turned_length, hyl]
  have hsl : ss.length = m + 4 := by rw [← ess, seal_length, hyl]
  have hcl : cs.length = m + 4 := by rw [← ecs, turned_length, hsl]
  have told : sum ys = sum bs → ys = bs := fun h => by rw [← ebs] at h ⊢; exact burst_told ys at_ T h
  have shut : ¬ ss = cs → openE cs = 40 := fun h => by rw [← ecs, ← ess] at h ⊢; exact burst_shut ys at_ T h
  have open0 : ss = cs → openE cs = 0 := fun h => by rw [← h, ← ess]; exact openE_seal ys
  obtain ⟨ra, era⟩ : ∃ r, sum ys = r := ⟨_, rfl⟩
  obtain ⟨rb, erb⟩ : ∃ r, sum bs = r := ⟨_, rfl⟩
  obtain ⟨E, eE⟩ : ∃ E, openE cs = E := ⟨_, rfl⟩
  obtain ⟨p, ep⟩ : ∃ p, decide (ys = bs) = p := ⟨_, rfl⟩
  have hp1 := bstr_eq ys bs p ep
  have hp2 : ((ra : Int) == (rb : Int)) = p := by
    rw [← ep]
    by_cases h : ys = bs
    · have h2 : ra = rb := by rw [← era, ← erb, h]
      simp [h, h2]
    · have h2 : ¬ ra = rb := fun h3 => h (told (by rw [era, erb, h3]))
      rw [decide_eq_false h]
      simp
      omega
  rw [eE] at shut open0
  have EBS := Lib.hid ebs
  have ESS := Lib.hid ess
  have ECS := Lib.hid ecs
  have HBL := Lib.hid hbl
  have HSL := Lib.hid hsl
  have HCL := Lib.hid hcl
  have ERA := Lib.hid era
  have ERB := Lib.hid erb
  have EE := Lib.hid eE
  have HM := Lib.hid hm
  have HO := Lib.hid hy
  have HT := Lib.hid hT
  have HE := Lib.hid he
  have HP1 := Lib.hid hp1
  have HP2 := Lib.hid hp2
  have key : (((bstr ss).toList == (bstr cs).toList) = true ∧ E = 0) ∨ (((bstr ss).toList == (bstr cs).toList) = false ∧ E = 40) := by
    by_cases h : ss = cs
    · exact .inl ⟨bstr_eq ss cs true (decide_eq_true h), open0 h⟩
    · exact .inr ⟨bstr_eq ss cs false (decide_eq_false h), shut h⟩
  have KEY := Lib.hid key
  clear hyl ebs ess ecs hbl hsl hcl told shut open0 era erb eE hm hy hT he ho ep hp1 hp2 key
  go_enter Tryd.func6, Tryd.ntmps6
  go_wp2_with fail
  refine (few_any _ _ _ m _ HM.out hc).mono ?_; rintro e w' ⟨rfl, rfl⟩
  go_wp2_with fail
  refine (rturn_any _ _ _ ys at_ T _ (by omega) HO.out HT.out).mono ?_; rintro e w1 ⟨v1, rfl, o, b⟩
  rw [EBS.out] at o
  obtain ⟨A1, c1, rfl, l1, s1⟩ := o.form HBL.out
  have SB1 := Lib.hid s1
  have B1 := Lib.hid b
  clear o b s1 l1
  go_wp2_with fail
  refine (rseal_any _ _ _ ys _ (by omega) (HO.out.below B1.out)).mono ?_; rintro e w2 ⟨v2, rfl, o, b⟩
  rw [ESS.out] at o
  obtain ⟨A2, c2, rfl, l2, s2⟩ := o.form HSL.out
  have SS2 := Lib.hid s2
  have B2 : Hid (Below w.heap.size w w2) := bthen B1.out b
  have SB2 := Lib.hid (SB1.out.below b)
  clear o b s2 l2
  go_wp2_with fail
  refine (rturn_any _ _ _ ss at_ T _ (by omega) SS2.out HT.out).mono ?_; rintro e w3 ⟨v3, rfl, o, b⟩
  rw [ECS.out] at o
  obtain ⟨A3, c3, rfl, l3, s3⟩ := o.form HCL.out
  have SC3 := Lib.hid s3
  have B3 : Hid (Below w.heap.size w w3) := bthen B2.out b
  have SB3 := Lib.hid (SB2.out.below b)
  have SS3 := Lib.hid (SS2.out.below b)
  clear o b s3
  go_wp2_with fail
  refine (open_any _ _ _ cs _ (by omega) l3 SC3.out (HE.out.below B3.out)).mono ?_; rintro e w4 ⟨v4, rfl, o, b⟩
  rw [EE.out]
  have B4 : Hid (Below w.heap.size w w4) := bthen B3.out b
  have SB4 := Lib.hid (SB3.out.below b)
  have SS4 := Lib.hid (SS3.out.below b)
  have SC4 := Lib.hid (SC3.out.below b)
  clear o b
  have cv1 := fun k => ((HO.out.below B4.out).drewN k).conv bt Tryd.underlying9 c
  have cv2 := fun k => (SB4.out.drewN k).conv bt Tryd.underlying9 c1
  have cv3 := fun k => (SS4.out.drewN k).conv bt Tryd.underlying9 c2
  have cv4 := fun k => (SC4.out.drewN k).conv bt Tryd.underlying9 c3
  have hp1 := HP1.out
  have hp2 := HP2.out
  rcases KEY.out with ⟨hq, rfl⟩ | ⟨hq, rfl⟩
  · go_wp2_with fail
    go_quiet (fail)
    go_wp2_with fail
    refine (sum_here _ _ _ _ ys ra _ rfl (by omega) ((HO.out.below B4.out).drewN nq) ((HE.out.below B4.out).drewN nq) ERA.out).mono ?_; rintro e w5 ⟨rfl, hw⟩
    have B5 : Hid (Below w.heap.size w w5) := by rw [← hw]; exact bthen (below_drewN B4.out nq) (balloc _ _)
    have SB5 : Hid (Oct w5 A1 m bs) := by rw [← hw]; exact (SB4.out.drewN nq).alloc _
    clear hw
    go_wp2_with fail
    refine (sum_here _ _ _ _ bs rb _ rfl (by omega) SB5.out (HE.out.below B5.out) ERB.out).mono ?_; rintro e w6 ⟨rfl, hw⟩
    have B6 : Hid (Below w.heap.size w w6) := by rw [← hw]; exact bthen B5.out (balloc _ _)
    clear hw
    go_wp2_with fail
    refine (awake_any _ (HE.out.below B6.out)).mono ?_; rintro e w7 ⟨rfl, b⟩
    have B7 := Lib.hid b
    clear b
    go_wp2
    go_ret
    exact ⟨rfl, bthen B6.out B7.out⟩
  · go_wp2_with fail
    go_quiet (fail)
    go_wp2_with fail
    refine (sum_here _ _ _ _ ys ra _ rfl (by omega) ((HO.out.below B4.out).drewN nq) ((HE.out.below B4.out).drewN nq) ERA.out).mono ?_; rintro e w5 ⟨rfl, hw⟩
    have B5 : Hid (Below w.heap.size w w5) := by rw [← hw]; exact bthen (below_drewN B4.out nq) (balloc _ _)
    have SB5 : Hid (Oct w5 A1 m bs) := by rw [← hw]; exact (SB4.out.drewN nq).alloc _
    clear hw
    go_wp2_with fail
    refine (sum_here _ _ _ _ bs rb _ rfl (by omega) SB5.out (HE.out.below B5.out) ERB.out).mono ?_; rintro e w6 ⟨rfl, hw⟩
    have B6 : Hid (Below w.heap.size w w6) := by rw [← hw]; exact bthen B5.out (balloc _ _)
    clear hw
    go_wp2_with fail
    refine (awake_any _ (HE.out.below B6.out)).mono ?_; rintro e w7 ⟨rfl, b⟩
    have B7 := Lib.hid b
    clear b
    go_wp2
    go_ret
    exact ⟨rfl, bthen B6.out B7.out⟩

theorem bursts_law (w : World) (A : Option Addr) (n c : Nat) (xs : List UInt8) (hc : n ≤ c) (hm : c ≤ maxLen) (ho : Oct w A n xs) (a : Int) (ha : (Lit.int .u16 a).wf = true) (s : Int) (hs : (Lit.int .u32 s).wf = true) (he : Env w) :
    Calls Tryd.prog 6 #[.slice A n c, .int .u16 a, .int .u32 s] w fun e w' => e = .returned (.bool true) ∧ Below w.heap.size w w' := by
  obtain ⟨N, rfl, hN⟩ := nat_u16 ha
  obtain ⟨M, rfl, hM⟩ := nat_u32 hs
  exact bursts_walk A n c xs N M w hc ho hN hM he
end Go.Proofs.YtnbpmnnppkehpaaDoor.W
