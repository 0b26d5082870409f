/-
  The walk of the statement on Turn and Apart. No conditions.
-/
import Derived.Test.YtnbpmnnppkehpaaDoorCrcBursts
import Derived.Deep.RegionHeld
import Derived.Deep.DrawnRows
namespace Go.Proofs.YtnbpmnnppkehpaaDoor.W
open Go.RowKit Oc
set_option linter.unusedVariables false
attribute [local go_sem ↓] Go.wp_at_zero Go.wp_at_succ

theorem below_of_drew {B : Nat} {w w' : World} (h : Below B w.drew w') : Below B w w' := ⟨h.os, h.tape, h.output, h.size, h.block⟩

/-- how far two are apart: the program and the reference tell the same -/
theorem apart_both (A A2 : Option Addr) (n c n2 c2 : Nat) (xs ys : List UInt8) (w : World) (hn : n ≤ 1000000) (hn2 : n2 ≤ 1000000) (ho : Oct w A n xs) (ho2 : Oct w A2 n2 ys) : ∃ (r : Int) (g : Bool),
    Calls Tryd.prog 18 #[.slice A n c, .slice A2 n2 c2] w (Tells w (.tuple #[.int .i64 r, .bool g])) ∧ ∀ k, Calls Tryd.prog 19 #[.slice A n c, .slice A2 n2 c2] (w.drewN k) fun e w' => e = .returned (.tuple #[.int .i64 r, .bool g]) ∧ w.drewN k = w' := by
  by_cases h : n = n2
  · subst h
    obtain ⟨f, l, hs⟩ := span_ex (8 * n) (num xs ^^^ num ys)
    exact ⟨_, _, apart_any A A2 n c c2 xs ys f l w hn ho ho2 hs, fun k => rapart_any A A2 n c c2 xs ys f l _ hn (ho.drewN k) (ho2.drewN k) hs⟩
  · exact ⟨_, _, apart_no A A2 n n2 c c2 w hn hn2 h, fun k => rapart_no A A2 n n2 c c2 _ hn hn2 h⟩

set_option maxHeartbeats 4000000 in
theorem turns_walk (A A2 : Option Addr) (n c n2 c2 : Nat) (xs xs2 : List UInt8) (at_ : Int) (T : Nat) (w : World) (hc : n ≤ c) (hc2 : n2 ≤ c2) (ho : Oct w A n xs) (ho2 : Oct w A2 n2 xs2) (hT : T < 4294967296) (he : Env w) :
    Calls Tryd.prog 5 #[.slice A n c, .slice A2 n2 c2, .int .i64 at_, .int .u32 (T : Int)] w fun e w' => e = .returned (.bool true) ∧ Below w.heap.size w w' := by
  obtain ⟨m, ys, hm, hm3, hy⟩ := first ho
  obtain ⟨m2, zs, hm2, hm4, hz⟩ := first ho2
  have hyl := hy.len
  obtain ⟨r, g, a1, a2⟩ := apart_both A A2 m c m2 c2 ys zs w (by omega) (by omega) hy hz
  obtain ⟨bs, ebs⟩ : ∃ bs, turned ys at_ T 32 = bs := ⟨_, rfl⟩
  have hbl : bs.length = m := by rw [← ebs, turned_length, hyl]
  obtain ⟨f, l, hsp⟩ := span_ex (8 * m) (num ys ^^^ num bs)
  have hgap : gap f l ≤ 32 := gap_window (at_ := at_) hsp fun k hk => turned_bits ys at_ T 32 k (by rw [ebs]; exact hk)
  obtain ⟨d, ed⟩ : ∃ d, gap f l = d := ⟨_, rfl⟩
  rw [ed] at hgap
  have A1 := Lib.hid a1
  have A2' := Lib.hid a2
  have EBS := Lib.hid ebs
  have HBL := Lib.hid hbl
  have HSP := Lib.hid hsp
  have ED := Lib.hid ed
  have HM := Lib.hid hm
  have HM2 := Lib.hid hm2
  have HO := Lib.hid hy
  have HT := Lib.hid hT
  have HE := Lib.hid he
  clear a1 a2 ebs hbl hsp ed hyl hm hm2 hy hz hT he ho ho2
  go_enter Tryd.func5, Tryd.ntmps5
  go_wp2_with fail
  refine (few_any _ _ _ m _ HM.out hc).mono ?_; rintro e w' ⟨rfl, rfl⟩
  go_wp2_with fail
  refine (few_any _ _ _ m2 _ HM2.out hc2).mono ?_; rintro e w' ⟨rfl, rfl⟩
  go_wp2_with fail
  refine A1.out.mono ?_; rintro e w1 ⟨rfl, k1, rfl⟩
  go_wp2_with fail
  refine (A2'.out k1).mono ?_; rintro e w' ⟨rfl, rfl⟩
  have B1 := Lib.hid (below_drewN (Below.refl w.heap.size w) k1)
  go_wp2_with fail
  refine (rturn_any _ _ _ ys at_ T _ (by omega) (HO.out.below B1.out) HT.out).mono ?_; rintro e w2 ⟨v2, rfl, o, b⟩
  rw [EBS.out] at o
  obtain ⟨A3, c3, rfl, l3, s3⟩ := o.form HBL.out
  have S2 := Lib.hid s3
  have B2 : Hid (Below w.heap.size w w2) := bthen B1.out b
  clear o b s3 l3
  go_wp2_with fail
  refine (apart_any _ _ _ _ _ ys bs f l _ (by omega) (HO.out.below B2.out) S2.out HSP.out).mono ?_; rintro e w3 ⟨rfl, k3, hw⟩
  rw [ED.out]
  have B3 : Hid (Below w.heap.size w w3) := by rw [hw]; exact below_drewN B2.out k3
  clear hw
  go_wp2_with fail
  go_region_held (fun _ => True) (exact trivial) (first
    | (go_at_call 21; (with_reducible refine (turn_any _ _ _ ys at_ T _ (by omega) (HO.out.below B3.out).drew HT.out).mono ?_); rintro e w5 ⟨v5, rfl, o5, b5⟩; rw [EBS.out] at o5; obtain ⟨A5, c5, rfl, l5, s5⟩ := o5.form HBL.out; have S5 := Lib.hid s5; have B5 : Hid (Below w.heap.size w w5) := bthen B3.out (below_of_drew b5); have cv5 := s5.conv bt Tryd.underlying9 c5; clear o5 b5 s5 l5)
    | (go_at_call 20; (with_reducible refine (rturn_any _ _ _ ys at_ T _ (by omega) (HO.out.below B5.out) HT.out).mono ?_); rintro e w6 ⟨v6, rfl, o6, b6⟩; rw [EBS.out] at o6; obtain ⟨A6, c6, rfl, l6, s6⟩ := o6.form HBL.out; have B6 : Hid (Below w.heap.size w w6) := bthen B5.out b6; have cv6 := s6.conv bt Tryd.underlying9 c6; have cv7 := (S5.out.below b6).conv bt Tryd.underlying9 c5; clear o6 b6 s6 l6)
    | (go_at_call 13; (with_reducible refine (awake_any _ (HE.out.below B6.out)).mono ?_); rintro e w7 ⟨rfl, b7⟩; have B7 := Lib.hid b7; clear b7))
  all_goals go_wp2
  all_goals (go_ret; exact ⟨rfl, bthen B6.out B7.out⟩)

theorem turns_law (w : World) (A : Option Addr) (n c : Nat) (xs : List UInt8) (hc : n ≤ c) (hm : c ≤ maxLen) (ho : Oct w A n xs) (A2 : Option Addr) (n2 c2 : Nat) (xs2 : List UInt8) (hc2 : n2 ≤ c2) (hm2 : c2 ≤ maxLen) (ho2 : Oct w A2 n2 xs2) (a : Int) (ha : (Lit.int .i64 a).wf = true) (s : Int) (hs : (Lit.int .u32 s).wf = true) (he : Env w) :
    Calls Tryd.prog 5 #[.slice A n c, .slice A2 n2 c2, .int .i64 a, .int .u32 s] w fun e w' => e = .returned (.bool true) ∧ Below w.heap.size w w' := by
  obtain ⟨N, rfl, hN⟩ := nat_u32 hs
  exact turns_walk A A2 n c n2 c2 xs xs2 a N w hc hc2 ho ho2 hN he
end Go.Proofs.YtnbpmnnppkehpaaDoor.W
