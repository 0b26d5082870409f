/-
  Contracts of Get and Kind, and of the reference's Get, Kind and Blank. No conditions.
-/
import Derived.Test.YthclgehifomkhaaDoorPgRput
namespace Go.Proofs.YthclgehifomkhaaDoor.W
open Go.RowKit Oc
set_option linter.unusedVariables false

theorem popen_short (A : Option Addr) (n c : Nat) (w : World) (hn : n ≤ 1000000) (h : n ≠ 64) :
    Calls Tryd.prog 34 #[.slice A n c] w fun e w' => e = .returned (.tuple #[.slice none 0 0, .int .i64 30]) ∧ w = w' := by
  go_enter Tryd.func34, Tryd.ntmps34
  go_wp2
  go_ret2
  exact ⟨rfl, rfl⟩
theorem popen_any (A : Option Addr) (c : Nat) (ys : List UInt8) (w : World) (hc : 64 ≤ c) (ho : Oct w A 64 ys) (he : Env w) :
    Calls Tryd.prog 34 #[.slice A 64 c] w (Opened w ys) := by
  have HO := Lib.hid ho
  have HE := Lib.hid he
  clear ho he
  go_enter Tryd.func34, Tryd.ntmps34
  go_wp2_with fail
  refine (open_any _ _ _ ys _ (by omega) hc HO.out HE.out).mono ?_; rintro e w1 ⟨v1, rfl, o, b⟩
  have O := Lib.hid o
  have B := Lib.hid b
  clear o b
  obtain ⟨E, hE⟩ : ∃ E, openE ys = E := ⟨_, rfl⟩
  rw [hE]
  go_wp2
  go_ret2
  exact ⟨v1, by rw [hE]; rfl, O.out, B.out⟩

set_option maxHeartbeats 1000000 in
theorem kindOf_any (A : Option Addr) (c r : Nat) (bs : List UInt8) (w : World) (ho : Oct w A 60 bs) (hr : kindL bs = r) :
    Calls Tryd.prog 35 #[.slice A 60 c] w fun e w' => e = .returned (.int .i64 (r : Int)) ∧ w = w' := by
  obtain ⟨b, off, x, rfl, hx, c0⟩ := ho.at_ (k := 0) (by decide)
  obtain ⟨b', off', y, e, hy, c1⟩ := ho.at_ (k := 1) (by decide)
  injection e with e
  injection e with e1 e2
  subst e1 e2
  rw [Nat.add_zero] at c0
  unfold kindL at hr
  rw [getD_of hx, getD_of hy] at hr
  have hyl := y.toNat_lt
  clear ho hx hy
  by_cases h1 : x = 213
  · have hx0 : (x.toNat : Int) = 213 := by rw [h1]; rfl
    rw [hx0] at c0
    obtain ⟨N, hN⟩ : ∃ N, y.toNat = N := ⟨_, rfl⟩
    rw [hN] at c1 hyl
    by_cases h2 : Right (N : Int)
    · have hq : r = N := by rw [← hr]; unfold kindV; rw [if_pos ⟨h1, by rw [hN]; exact h2⟩, hN]
      subst hq
      have HK := Lib.hid h2
      clear hr hx0 h1 h2 hN
      go_enter Tryd.func35, Tryd.ntmps35
      go_wp2_with fail
      refine (kind_yes _ _ HK.out).mono ?_; rintro e w' ⟨rfl, rfl⟩
      go_wp2
      go_ret
      exact ⟨rfl, rfl⟩
    · have hq : r = 0 := by rw [← hr]; unfold kindV; rw [if_neg (fun h => h2 (by rw [← hN]; exact h.2))]
      subst hq
      have HK := Lib.hid h2
      clear hr hx0 h1 h2 hN
      go_enter Tryd.func35, Tryd.ntmps35
      go_wp2_with fail
      refine (kind_no _ _ HK.out).mono ?_; rintro e w' ⟨rfl, rfl⟩
      go_wp2
      go_ret
      exact ⟨rfl, rfl⟩
  · have hx0 : ¬ (x.toNat : Int) = 213 := fun h => h1 (UInt8.toNat_inj.1 (by have : x.toNat = 213 := by omega
                                                                             exact this))
    have hq : r = 0 := by rw [← hr]; unfold kindV; rw [if_neg (fun h => h1 h.1)]
    subst hq
    clear hr h1
    go_enter Tryd.func35, Tryd.ntmps35
    go_wp2
    go_ret
    exact ⟨rfl, rfl⟩

/-- what a call leaves that gets a payload -/
def GTold (w : World) (ys : List UInt8) (k : Int) (e : Ending) (w' : World) : Prop := ∃ v, e = .returned (.tuple #[v, .int .i64 (getE ys k)]) ∧ Own w' 5 w.heap.size v (getL ys k) ∧ Below w.heap.size w w'
theorem gtold_no {w w' : World} {k : Int} {ys : List UInt8} {z : Int} (h : getE ys k = z) (hz : z ≠ 0) (hb : Below w.heap.size w w') : GTold w ys k (.returned (.tuple #[.slice none 0 0, .int .i64 z])) w' := by
  subst h
  refine ⟨_, rfl, ?_, hb⟩
  rw [getL_no hz]
  exact Own.nil _ _ _
theorem gtold_ok {w w' : World} {k : Int} {ys zs : List UInt8} {v : Value} (h : getE ys k = 0) (hz : (openL ys).drop 2 = zs) (ho : Own w' 5 w.heap.size v zs) (hb : Below w.heap.size w w') : GTold w ys k (.returned (.tuple #[v, .int .i64 0])) w' := by
  refine ⟨v, by rw [h], ?_, hb⟩
  rw [getL_ok h, hz]
  exact ho
theorem all_new (bs : List UInt8) (h : bs.length = 60) : (List.replicate 58 (0 : UInt8)).take 0 ++ (bs.drop 2 ++ (List.replicate 58 (0 : UInt8)).drop (0 + 58)) = bs.drop 2 := by simp

set_option maxHeartbeats 1000000 in
theorem pget_any (A : Option Addr) (n c : Nat) (ys : List UInt8) (k : Int) (w : World) (hn : n ≤ 1000000) (hc : n ≤ c) (ho : Oct w A n ys) (he : Env w) :
    Calls Tryd.prog 23 #[.slice A n c, .int .i64 k] w (GTold w ys k) := by
  have HO := Lib.hid ho
  have HE := Lib.hid he
  have hl := ho.len
  by_cases h64 : n = 64
  · subst h64
    rcases openE_some ys hl with h0 | h0
    · have hbl := openL_length hl h0
      obtain ⟨bs, hbs⟩ : ∃ bs, openL ys = bs := ⟨_, rfl⟩
      rw [hbs] at hbl
      by_cases hk : Right k
      · obtain ⟨r, hr⟩ : ∃ r, kindL bs = r := ⟨_, rfl⟩
        by_cases hq : (r : Int) = k
        · have hz := getE_ok hl h0 hk (by rw [hbs, hr]; exact hq)
          have HZ := Lib.hid hz
          have H0 := Lib.hid h0
          have HBL := Lib.hid hbl
          have HBS := Lib.hid hbs
          have HK := Lib.hid hk
          have HR := Lib.hid hr
          subst hq
          clear ho he hl h0 hbl hbs hk hr hz
          go_enter Tryd.func23, Tryd.ntmps23
          go_wp2_with fail
          refine (popen_any _ _ ys _ hc HO.out HE.out).mono ?_; rintro e w1 ⟨v1, rfl, o, b⟩
          rw [H0.out]
          rw [HBS.out] at o
          obtain ⟨A1, c1, rfl, l1, s1⟩ := o.form HBL.out
          have S1 := Lib.hid s1
          have B1 := Lib.hid b
          clear o b s1
          go_wp2_with fail
          refine (kind_yes _ _ HK.out).mono ?_; rintro e w' ⟨rfl, rfl⟩
          go_wp2_with fail
          refine (kindOf_any _ _ r bs _ S1.out HR.out).mono ?_; rintro e w' ⟨rfl, rfl⟩
          go_wp2_with (first
            | (at_make; refine wpList_make_zero rfl _ _ 26 rfl bt 58 58 58 rfl rfl rfl rfl (by omega) ?_; intro w2 o2 b2; have O2 := Lib.hid o2; have B2 := Lib.hid b2; clear o2 b2)
            | ((with_reducible apply wpList_copy_at w1 bt); (case hd => rfl); (case hs => rfl); (case hdl => rfl); (case hown => exact O2.out); (case hxl => rw [List.length_replicate]); (case hb => exact B2.out); (case hr => exact (S1.out.map (k := 2) (by omega)).below B2.out); (case hle => omega); intro w3 o3 b3; rw [all_new bs HBL.out] at o3; have O3 := Lib.hid (o3.more B1.out.size); have B3 := Lib.hid (bthen B1.out b3); clear o3 b3))
          go_ret2
          exact gtold_ok HZ.out (by rw [HBS.out]) O3.out B3.out
        · have hz := getE_form (k := k) hl h0 (fun h => hq (by rw [← hr, ← hbs]; exact h.2))
          have HZ := Lib.hid hz
          have H0 := Lib.hid h0
          have HBL := Lib.hid hbl
          have HBS := Lib.hid hbs
          have HK := Lib.hid hk
          have HR := Lib.hid hr
          clear ho he hl h0 hbl hbs hk hr hz
          go_enter Tryd.func23, Tryd.ntmps23
          go_wp2_with fail
          refine (popen_any _ _ ys _ hc HO.out HE.out).mono ?_; rintro e w1 ⟨v1, rfl, o, b⟩
          rw [H0.out]
          rw [HBS.out] at o
          obtain ⟨A1, c1, rfl, l1, s1⟩ := o.form HBL.out
          have S1 := Lib.hid s1
          have B1 := Lib.hid b
          clear o b s1
          go_wp2_with fail
          refine (kind_yes _ _ HK.out).mono ?_; rintro e w' ⟨rfl, rfl⟩
          go_wp2_with fail
          refine (kindOf_any _ _ r bs _ S1.out HR.out).mono ?_; rintro e w' ⟨rfl, rfl⟩
          go_wp2
          go_ret2
          exact gtold_no HZ.out (by decide) B1.out
      · have hz := getE_form (k := k) hl h0 (fun h => hk h.1)
        have HZ := Lib.hid hz
        have H0 := Lib.hid h0
        have HK := Lib.hid hk
        clear ho he hl h0 hbl hbs hk hz
        go_enter Tryd.func23, Tryd.ntmps23
        go_wp2_with fail
        refine (popen_any _ _ ys _ hc HO.out HE.out).mono ?_; rintro e w1 ⟨v1, rfl, o, b⟩
        rw [H0.out]
        have B1 := Lib.hid b
        clear o b
        go_wp2_with fail
        refine (kind_no _ _ HK.out).mono ?_; rintro e w' ⟨rfl, rfl⟩
        go_wp2
        go_ret2
        exact gtold_no HZ.out (by decide) B1.out
    · have hz := getE_sum hl (by rw [h0]; decide) k
      rw [h0] at hz
      have HZ := Lib.hid hz
      have H0 := Lib.hid h0
      clear ho he hl h0 hz
      go_enter Tryd.func23, Tryd.ntmps23
      go_wp2_with fail
      refine (popen_any _ _ ys _ hc HO.out HE.out).mono ?_; rintro e w1 ⟨v1, rfl, o, b⟩
      rw [H0.out]
      have B1 := Lib.hid b
      clear o b
      go_wp2
      go_ret2
      exact gtold_no HZ.out (by decide) B1.out
  · have hz := getE_short (ys := ys) (by omega) k
    have HZ := Lib.hid hz
    clear ho he hl hz
    go_enter Tryd.func23, Tryd.ntmps23
    go_wp2_with fail
    refine (popen_short _ _ _ _ hn h64).mono ?_; rintro e w1 ⟨rfl, rfl⟩
    go_wp2
    go_ret2
    exact gtold_no HZ.out (by decide) (Below.refl _ _)

/-- the reference tells a part of what it got -/
def RGTold (w : World) (ys : List UInt8) (k : Int) (e : Ending) (w' : World) : Prop := ∃ A m c, e = .returned (.tuple #[.slice A m c, .int .i64 (getE ys k)]) ∧ Oct w A m (getL ys k) ∧ ∃ j, w' = w.drewN j
theorem rgtold_no {w : World} {k : Int} {ys : List UInt8} {z : Int} (h : getE ys k = z) (hz : z ≠ 0) (j : Nat) : RGTold w ys k (.returned (.tuple #[.slice none 0 0, .int .i64 z])) (w.drewN j) := by
  subst h
  refine ⟨none, 0, 0, rfl, ?_, j, rfl⟩
  rw [getL_no hz]
  exact Oct.nil _ _
theorem rgtold_ok {w : World} {k : Int} {ys zs : List UInt8} {A : Option Addr} {m c : Nat} (h : getE ys k = 0) (hz : (openL ys).drop 2 = zs) (ho : Oct w A m zs) (j : Nat) : RGTold w ys k (.returned (.tuple #[.slice A m c, .int .i64 0])) (w.drewN j) := by
  refine ⟨A, m, c, by rw [h], ?_, j, rfl⟩
  rw [getL_ok h, hz]
  exact ho

set_option maxHeartbeats 1000000 in
theorem rget_any (A : Option Addr) (n c : Nat) (ys : List UInt8) (k : Int) (w : World) (hn : n ≤ 1000000) (hc : n ≤ c) (ho : Oct w A n ys) :
    Calls Tryd.prog 25 #[.slice A n c, .int .i64 k] w (RGTold w ys k) := by
  have HO := Lib.hid ho
  have hl := ho.len
  by_cases h64 : n = 64
  · subst h64
    rcases openE_some ys hl with h0 | h0
    · have hbl := openL_length hl h0
      obtain ⟨bs, hbs⟩ : ∃ bs, openL ys = bs := ⟨_, rfl⟩
      rw [hbs] at hbl
      by_cases hk : Right k
      · obtain ⟨x, hx⟩ : ∃ x, bs[0]? = some x := ⟨_, List.getElem?_eq_getElem (by omega)⟩
        obtain ⟨y, hy⟩ : ∃ y, bs[1]? = some y := ⟨_, List.getElem?_eq_getElem (by omega)⟩
        have hyl := y.toNat_lt
        have hkl : kindL bs = kindV x y := by unfold kindL; rw [getD_of hx, getD_of hy]
        have his := kindV_is (x := x) (y := y) hk
        rw [← hkl, ← hbs] at his
        have hq : (getE ys k = 0 ∧ (x.toNat : Int) = 213 ∧ (y.toNat : Int) = k) ∨ (getE ys k = 31 ∧ ¬ (x.toNat : Int) = 213) ∨ (getE ys k = 31 ∧ (x.toNat : Int) = 213 ∧ ¬ (y.toNat : Int) = k) := by
          by_cases h1 : x = 213
          · have h2 : (x.toNat : Int) = 213 := by rw [h1]; rfl
            by_cases h3 : (y.toNat : Int) = k
            · exact .inl ⟨getE_ok hl h0 hk (his.2 ⟨h1, h3⟩), h2, h3⟩
            · exact .inr (.inr ⟨getE_form hl h0 (fun h => h3 (his.1 h.2).2), h2, h3⟩)
          · refine .inr (.inl ⟨getE_form hl h0 (fun h => h1 (his.1 h.2).1), fun h => h1 (UInt8.toNat_inj.1 (by have : x.toNat = 213 := by omega
                                                                                                               exact this))⟩)
        have H0 := Lib.hid h0
        have HBL := Lib.hid hbl
        have HBS := Lib.hid hbs
        have HK := Lib.hid hk
        have HX := Lib.hid hx
        have HY := Lib.hid hy
        have HQ := Lib.hid hq
        clear ho hl h0 hbl hbs hk hx hy his hkl hq
        go_enter Tryd.func25, Tryd.ntmps25
        go_wp2_with fail
        refine (ropen2_any _ _ _ ys _ (by omega) hc HO.out).mono ?_; rintro e w1 ⟨A1, m1, c1, hmc, rfl, o, kk, rfl⟩
        rw [H0.out]
        rw [HBS.out] at o
        have hm1 : m1 = 60 := by rw [← o.len]; exact HBL.out
        subst hm1
        obtain ⟨b, off, rfl, hcs⟩ := o.2 (by decide)
        have d0 : w.cell? ⟨b, off, none⟩ = some (.int .u8 (x.toNat : Int)) := hcs 0 x HX.out
        have d1 : w.cell? ⟨b, off + 1, none⟩ = some (.int .u8 (y.toNat : Int)) := hcs 1 y HY.out
        have O := Lib.hid o
        clear o hcs
        rcases HQ.out with ⟨hz, q1, q2⟩ | ⟨hz, q1⟩ | ⟨hz, q1, q2⟩
        · rw [q1] at d0
          have HZ := Lib.hid hz
          subst q2
          clear hz q1
          have o2 := O.out.map (k := 2) (by omega)
          have O2 := Lib.hid o2
          clear o2
          go_wp2_with fail
          refine (rright_yes _ _ HK.out).mono ?_; rintro e w' ⟨rfl, rfl⟩
          go_wp2
          go_ret2
          exact rgtold_ok HZ.out (by rw [HBS.out]) O2.out _
        · have HZ := Lib.hid hz
          clear hz
          go_wp2_with fail
          refine (rright_yes _ _ HK.out).mono ?_; rintro e w' ⟨rfl, rfl⟩
          go_wp2
          go_ret2
          exact rgtold_no HZ.out (by decide) _
        · rw [q1] at d0
          have HZ := Lib.hid hz
          clear hz q1
          go_wp2_with fail
          refine (rright_yes _ _ HK.out).mono ?_; rintro e w' ⟨rfl, rfl⟩
          go_wp2
          go_ret2
          exact rgtold_no HZ.out (by decide) _
      · have hz := getE_form (k := k) hl h0 (fun h => hk h.1)
        have HZ := Lib.hid hz
        have H0 := Lib.hid h0
        have HK := Lib.hid hk
        clear ho hl h0 hbl hbs hk hz
        go_enter Tryd.func25, Tryd.ntmps25
        go_wp2_with fail
        refine (ropen_any _ _ _ ys _ (by omega) hc HO.out).mono ?_; rintro e w1 ⟨A1, m1, c1, rfl, o, kk, rfl⟩
        rw [H0.out]
        clear o
        go_wp2_with fail
        refine (rright_no _ _ HK.out).mono ?_; rintro e w' ⟨rfl, rfl⟩
        go_wp2
        go_ret2
        exact rgtold_no HZ.out (by decide) _
    · have hz := getE_sum hl (by rw [h0]; decide) k
      rw [h0] at hz
      have HZ := Lib.hid hz
      have H0 := Lib.hid h0
      clear ho hl h0 hz
      go_enter Tryd.func25, Tryd.ntmps25
      go_wp2_with fail
      refine (ropen_any _ _ _ ys _ (by omega) hc HO.out).mono ?_; rintro e w1 ⟨A1, m1, c1, rfl, o, kk, rfl⟩
      rw [H0.out]
      clear o
      go_wp2
      go_ret2
      exact rgtold_no HZ.out (by decide) _
  · have hz := getE_short (ys := ys) (by omega) k
    have HZ := Lib.hid hz
    clear ho hl hz
    go_enter Tryd.func25, Tryd.ntmps25
    go_wp2
    go_ret2
    exact rgtold_no HZ.out (by decide) 0

theorem zeros_eq (xs : List UInt8) (n : Nat) (p : Bool) (hl : xs.length = n) (hp : blank xs = p) : ((bstr xs).toList == (bstr (List.replicate n 0)).toList) = p := by
  rw [ByteArray.toList_eq, ByteArray.toList_eq]
  show (xs == List.replicate n 0) = p
  rw [← hp]
  have h := blank_iff xs
  rw [hl] at h
  by_cases h2 : xs = List.replicate n 0
  · rw [h.2 h2]; simp [h2]
  · have h3 : blank xs = false := by
      cases h4 : blank xs
      · rfl
      · exact absurd (h.1 h4) h2
    rw [h3]
    simp [h2]

theorem below_of_drew {w w' : World} (h : Below w.drew.heap.size w.drew w') : Below w.heap.size w w' := ⟨h.os, h.tape, h.output, h.size, h.block⟩
theorem made_zero (w : World) (n : Nat) (hn : n ≤ 1000000) : ∃ w', (Instr.makeSlice 26 (.int .i64 (n : Int)) (.int .i64 (n : Int))).run Tryd.prog w = .ok (.slice (some ⟨w.heap.size, 0, none⟩) n n) w' ∧ Own w' 5 w.heap.size (.slice (some ⟨w.heap.size, 0, none⟩) n n) (List.replicate n 0) ∧ Below w.heap.size w w' := by
  obtain ⟨i, hi, hz0, hz1, hz2⟩ := info_parts bt.info
  obtain ⟨w', hrun, h1, h2⟩ := run_make_full (P := Tryd.prog) w w.heap.size 26 5 i (.int .u8 0) 1 bt.sl hi hz0 hz1 .i64 .i64 n (by rw [hz2]; omega) (by unfold maxLen; omega) (Nat.le_refl _)
  refine ⟨w', hrun, ?_, (Below.refl _ _).grown h2 (Nat.le_refl _) (fun _ h => by cases h)⟩
  unfold Own
  rw [List.length_replicate, zeros_map]
  rwa [show (Value.int .u8 0).cells = #[.int .u8 0] from rfl, Nat.mul_one, toList_madeCells_one] at h1
end Go.Proofs.YthclgehifomkhaaDoor.W
