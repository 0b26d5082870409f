/-
  The contract of the reference's Get of pages once more, with a word on the room behind what it tells. No conditions.
-/
import Derived.Test.YtheflapmjopemaaDoorHdGet
namespace Go.Proofs.YtheflapmjopemaaDoor.W.Hd
open Go.RowKit Oc
set_option linter.unusedVariables false

/-- the reference tells a part of what it got -/
def RGTold2 (w : World) (ys : List UInt8) (k : Int) (e : Ending) (w' : World) : Prop := ∃ A m c, m ≤ c ∧ e = .returned (.tuple #[.slice A m c, .int .i64 (getE ys k)]) ∧ Oct w A m (getL ys k) ∧ ∃ j, w' = w.drewN j
theorem rgtold2_no {w : World} {k : Int} {ys : List UInt8} {z : Int} (h : getE ys k = z) (hz : z ≠ 0) (j : Nat) : RGTold2 w ys k (.returned (.tuple #[.slice none 0 0, .int .i64 z])) (w.drewN j) := by
  subst h
  refine ⟨none, 0, 0, Nat.le_refl _, rfl, ?_, j, rfl⟩
  rw [getL_no hz]
  exact Oct.nil _ _
theorem rgtold2_ok {w : World} {k : Int} {ys zs : List UInt8} {A : Option Addr} {m c : Nat} (h : getE ys k = 0) (hz : (openL ys).drop 2 = zs) (ho : Oct w A m zs) (hmc : m ≤ c) (j : Nat) : RGTold2 w ys k (.returned (.tuple #[.slice A m c, .int .i64 0])) (w.drewN j) := by
  refine ⟨A, m, c, hmc, by rw [h], ?_, j, rfl⟩
  rw [getL_ok h, hz]
  exact ho

set_option maxHeartbeats 1000000 in
theorem rget2_any (A : Option Addr) (n c : Nat) (ys : List UInt8) (k : Int) (w : World) (hn : n ≤ 1000000) (hc : n ≤ c) (ho : Oct w A n ys) :
    Calls Tryd.prog 29 #[.slice A n c, .int .i64 k] w (RGTold2 w ys k) := by
  have HO := Lib.hid ho
  have hl := ho.len
  by_cases h64 : n = 64
  · subst h64
    rcases openE_some ys hl with h0 | h0
    · have hbl := openL_length hl h0
      obtain ⟨bs, hbs⟩ : ∃ bs, openL ys = bs := ⟨_, rfl⟩
      rw [hbs] at hbl
      by_cases hk : Right k
      · obtain ⟨x, hx⟩ : ∃ x, bs[0]? = some x := ⟨_, List.getElem?_eq_getElem (by omega)⟩
        obtain ⟨y, hy⟩ : ∃ y, bs[1]? = some y := ⟨_, List.getElem?_eq_getElem (by omega)⟩
        have hyl := y.toNat_lt
        have hkl : kindL bs = kindV x y := by unfold kindL; rw [getD_of hx, getD_of hy]
        have his := kindV_is (x := x) (y := y) hk
        rw [← hkl, ← hbs] at his
        have hq : (getE ys k = 0 ∧ (x.toNat : Int) = 213 ∧ (y.toNat : Int) = k) ∨ (getE ys k = 31 ∧ ¬ (x.toNat : Int) = 213) ∨ (getE ys k = 31 ∧ (x.toNat : Int) = 213 ∧ ¬ (y.toNat : Int) = k) := by
          by_cases h1 : x = 213
          · have h2 : (x.toNat : Int) = 213 := by rw [h1]; rfl
            by_cases h3 : (y.toNat : Int) = k
            · exact .inl ⟨getE_ok hl h0 hk (his.2 ⟨h1, h3⟩), h2, h3⟩
            · exact .inr (.inr ⟨getE_form hl h0 (fun h => h3 (his.1 h.2).2), h2, h3⟩)
          · refine .inr (.inl ⟨getE_form hl h0 (fun h => h1 (his.1 h.2).1), fun h => h1 (UInt8.toNat_inj.1 (by have : x.toNat = 213 := by omega
                                                                                                               exact this))⟩)
        have H0 := Lib.hid h0
        have HBL := Lib.hid hbl
        have HBS := Lib.hid hbs
        have HK := Lib.hid hk
        have HX := Lib.hid hx
        have HY := Lib.hid hy
        have HQ := Lib.hid hq
        clear ho hl h0 hbl hbs hk hx hy his hkl hq
        go_enter Tryd.func29, Tryd.ntmps29
        go_wp2_with fail
        refine (ropen2_any _ _ _ ys _ (by omega) hc HO.out).mono ?_; rintro e w1 ⟨A1, m1, c1, hmc, rfl, o, kk, rfl⟩
        rw [H0.out]
        rw [HBS.out] at o
        have hm1 : m1 = 60 := by rw [← o.len]; exact HBL.out
        subst hm1
        obtain ⟨b, off, rfl, hcs⟩ := o.2 (by decide)
        have d0 : w.cell? ⟨b, off, none⟩ = some (.int .u8 (x.toNat : Int)) := hcs 0 x HX.out
        have d1 : w.cell? ⟨b, off + 1, none⟩ = some (.int .u8 (y.toNat : Int)) := hcs 1 y HY.out
        have O := Lib.hid o
        clear o hcs
        rcases HQ.out with ⟨hz, q1, q2⟩ | ⟨hz, q1⟩ | ⟨hz, q1, q2⟩
        · rw [q1] at d0
          have HZ := Lib.hid hz
          subst q2
          clear hz q1
          have o2 := O.out.map (k := 2) (by omega)
          have O2 := Lib.hid o2
          clear o2
          go_wp2_with fail
          refine (rright_yes _ _ HK.out).mono ?_; rintro e w' ⟨rfl, rfl⟩
          go_wp2
          go_ret2
          exact rgtold2_ok HZ.out (by rw [HBS.out]) O2.out (by omega) _
        · have HZ := Lib.hid hz
          clear hz
          go_wp2_with fail
          refine (rright_yes _ _ HK.out).mono ?_; rintro e w' ⟨rfl, rfl⟩
          go_wp2
          go_ret2
          exact rgtold2_no HZ.out (by decide) _
        · rw [q1] at d0
          have HZ := Lib.hid hz
          clear hz q1
          go_wp2_with fail
          refine (rright_yes _ _ HK.out).mono ?_; rintro e w' ⟨rfl, rfl⟩
          go_wp2
          go_ret2
          exact rgtold2_no HZ.out (by decide) _
      · have hz := getE_form (k := k) hl h0 (fun h => hk h.1)
        have HZ := Lib.hid hz
        have H0 := Lib.hid h0
        have HK := Lib.hid hk
        clear ho hl h0 hbl hbs hk hz
        go_enter Tryd.func29, Tryd.ntmps29
        go_wp2_with fail
        refine (ropen_any _ _ _ ys _ (by omega) hc HO.out).mono ?_; rintro e w1 ⟨A1, m1, c1, rfl, o, kk, rfl⟩
        rw [H0.out]
        clear o
        go_wp2_with fail
        refine (rright_no _ _ HK.out).mono ?_; rintro e w' ⟨rfl, rfl⟩
        go_wp2
        go_ret2
        exact rgtold2_no HZ.out (by decide) _
    · have hz := getE_sum hl (by rw [h0]; decide) k
      rw [h0] at hz
      have HZ := Lib.hid hz
      have H0 := Lib.hid h0
      clear ho hl h0 hz
      go_enter Tryd.func29, Tryd.ntmps29
      go_wp2_with fail
      refine (ropen_any _ _ _ ys _ (by omega) hc HO.out).mono ?_; rintro e w1 ⟨A1, m1, c1, rfl, o, kk, rfl⟩
      rw [H0.out]
      clear o
      go_wp2
      go_ret2
      exact rgtold2_no HZ.out (by decide) _
  · have hz := getE_short (ys := ys) (by omega) k
    have HZ := Lib.hid hz
    clear ho hl hz
    go_enter Tryd.func29, Tryd.ntmps29
    go_wp2
    go_ret2
    exact rgtold2_no HZ.out (by decide) 0

end Go.Proofs.YtheflapmjopemaaDoor.W.Hd
