/-
  The walk of the statement on a log that is read twice. No conditions.
-/
import Derived.Test.YtikbbikcacoobaaGreatDoorIvSdOps
import Derived.BigQuiet
import Derived.Deep.RegionHeld
import Derived.Deep.DrawnRows
namespace Go.Proofs.YtikbbikcacoobaaGreatDoor.Pd.Iv
open Go.RowKit Oc Dm W Dw Sr Gt
set_option linter.unusedVariables false
set_option maxRecDepth 100000
attribute [local go_sem ↓] Go.wp_at_zero Go.wp_at_succ
section
variable {w : World} {k c : Nat} {A : Option Addr} {L : Nat → ActV}
set_option maxHeartbeats 16000000 in
theorem twice_walk (x f : Nat) (hx : x ≤ 65535) (hf : f ≤ 65535) (ha : Acts w A k L) (hk : k ≤ maxLen) (he : Env w) :
    Calls Tryz.prog 5 #[.int .u16 (x : Int), .int .u16 (f : Int), .slice A k c] w fun e w' => e = .returned (.bool true) ∧ Below w.heap.size w w' := by
  obtain ⟨xm, hxm⟩ : ∃ f : Nat, (x : Int) % 12 = (f : Int) := ⟨x % 12, by omega⟩
  have hx2 : xm ≤ 255 := by omega
  obtain ⟨p, la, lg, n, hP, hB⟩ := begin_some xm hx2 f hf w he
  have HB := Lib.hid hB
  have HP := Lib.hid hP
  have HE := Lib.hid he
  have HA := Lib.hid ha
  have G0 : Hid (GOk 70000 lg ⟨f, f, 0⟩) := gok_first hf
  have hk9 : (k : Int) ≤ 9223372036854775807 := by unfold maxLen at hk; omega
  clear hB hP he ha hx2
  go_enter Tryz.func5, Tryz.ntmps5
  go_wp2_with fail
  refine HB.out.mono ?_; rintro e w1 ⟨P, rfl, st1⟩
  have ST1 := Lib.hid st1
  clear st1 HB hxm
  go_upto_block 0 with fail
  go_cut [9] from 29 to 44 (fun q9 wc => ∃ i : Nat, i ≤ 30 ∧ q9 = .int .i64 (i : Int) ∧ Hid (∃ m g, St w P p n (8 * i) m m (some g) (some g) w (fun b => w.heap.size ≤ b) wc ∧ GOk (70000 + 300 * i) lg g))
  case first =>
    go_wp2_with fail
    go_loopw [9] (fun q9 wr => ∃ i : Nat, i ≤ 30 ∧ q9 = .int .i64 (i : Int) ∧ Hid (∃ m g, St w P p n (8 * i) m m (some g) (some g) w (fun b => w.heap.size ≤ b) wr ∧ GOk (70000 + 300 * i) lg g)) (fun q9 _ => 30 - (intOf q9).toNat)
    case atStart => exact ⟨0, Nat.zero_le _, rfl, m00, _, ST1.out, G0.out⟩
    case round =>
      obtain ⟨i, hi, rfl, SI⟩ := hrel
      clear ST1 G0
      obtain ⟨mi, gi, st, gk⟩ := SI.out
      have ST := Lib.hid st
      have GK := Lib.hid gk
      have BE := Lib.hid st.bel
      clear st gk SI
      have hcase : (i < k ∧ i < 30) ∨ (k ≤ i) ∨ (i < k ∧ 30 ≤ i) := by omega
      rcases hcase with ⟨h1, h2⟩ | hend
      · obtain ⟨b, off, rfl, hld, hok⟩ := act_load HA.out h1
        have LD := Lib.hid (hld wr BE.out)
        have DO := Lib.hid (st_do ST.out HE.out HP.out GK.out (by omega) (by omega) (by omega) (L i) hok)
        have h1' : (i : Int) < (k : Int) := by omega
        have h2' : (i : Int) < 30 := by omega
        clear hld hok
        generalize L i = y at LD DO
        go_wp2_with ((with_reducible apply L_ld); exact rfl; exact LD.out)
        refine DO.out.mono ?_; rintro e w3 ⟨rfl, m3, g3, s3, k3⟩
        have ST3 := Lib.hid s3
        have GK3 := Lib.hid k3
        clear s3 k3
        go_wp2
        go_roundw
        case rel => exact ⟨i + 1, by omega, by go_num, m3, g3, by rw [show 8 * (i + 1) = 8 * i + 8 by omega]; exact ST3.out, by rw [show 70000 + 300 * (i + 1) = 70000 + 300 * i + 300 by omega]; exact GK3.out⟩
        case measure => simp [intOf]; omega
      · rcases hend with hend | ⟨hend, hend2⟩
        all_goals
          go_wp2
          go_meet
          exact ⟨i, hi, rfl, mi, gi, ST.out, GK.out⟩
  case rest =>
    obtain ⟨i, hi, rfl, SI⟩ := hcut
    obtain ⟨mi, gi, st, gk⟩ := SI.out
    have ST := Lib.hid st
    have GK := Lib.hid gk
    clear st gk SI ST1 G0
    obtain ⟨pw, D, q, E, T0, U, F, G, H1, H2, r, hh, kk⟩ := ST.out
    obtain ⟨t, rfl, sd⟩ := Sd.of r hh
    have SD := Lib.hid sd
    clear r hh kk sd ST
    have hlg : lg ≤ 256 := HP.out.hl2
    have hl1 : 1 ≤ lg := HP.out.hl
    have hgB : gi.nx ≤ 70000 + 300 * i := GK.out.h3
    have hg1 : gi.f ≤ gi.nx := GK.out.h1
    have hfm : gi.f ≤ most := by unfold most; omega
    have hf1m : gi.f + 1 ≤ most := by unfold most; omega
    have hep : gi.ep ≤ most := GK.out.h4
    have HFM := Lib.hid hfm
    have HF1M := Lib.hid hf1m
    have HEP := Lib.hid hep
    have c27 := SD.out.cells.2.1
    go_wp2_with fail
    refine SD.out.fail0.mono ?_; rintro e w3 ⟨rfl, F9, sd3⟩
    have SD3 := Lib.hid sd3
    clear sd3 c27
    obtain ⟨m', hm'⟩ : ∃ m' : Vs, m' = { mi with rd := 0, wr := 0 } := ⟨_, rfl⟩
    rw [← hm'] at SD3
    have hrd : m'.rd = 0 := by rw [hm']
    clear hm'
    have HRD := Lib.hid hrd
    clear hrd SD
    obtain ⟨x0, x1, x2, x3, x4, x5, x6, x7, x8, x9, x10, x11, x12, x13, x14⟩ := SD3.out.map
    have KF : Hid (∀ y, Below w3.heap.size w3 y → Calls Tryz.prog 15 #[.pointer (some ⟨t, 0, none⟩)] y fun e y' => e = .returned (.int .u64 (gi.f : Int)) ∧ y = y') := fun y hy => (SD3.out.below hy).first
    have KE : Hid (∀ y, Below w3.heap.size w3 y → Calls Tryz.prog 12 #[.pointer (some ⟨t, 0, none⟩)] y fun e y' => e = .returned (.int .u64 (gi.ep : Int)) ∧ y = y') := fun y hy => (SD3.out.below hy).epoch
    cases hoff : m'.s.off
    · have HO := Lib.hid hoff
      clear hoff
      obtain ⟨L1, hL1⟩ : ∃ L1, L1 = (rdl la lg gi.ep lg gi.f 0 m').1 := ⟨_, rfl⟩
      have R1 : Hid (rdl la lg gi.ep lg gi.f 0 m' = (L1, m')) := Prod.ext hL1.symm (rdl_still HO.out HRD.out _ _ _)
      have R2 : Hid (2 ≤ L1.length → rdl la lg gi.ep lg (gi.f + 1) 0 m' = (L1.drop 1, m')) := fun h2 => Prod.ext (by rw [rdl_tail hl1 HO.out HRD.out gi.f (by rw [← hL1]; exact h2), ← hL1]) (rdl_still HO.out HRD.out _ _ _)
      have RL : L1.length ≤ 256 := by rw [hL1]; exact Nat.le_trans (rdl_len _ _ _ _) hlg
      clear hL1
      have KO : Hid (∀ y, Below w3.heap.size w3 y → Calls Tryz.prog 22 #[.pointer (some ⟨D, 0, none⟩), (.agg #[.int .i64 p.a0, .int .i64 p.a1, .int .i64 p.a2, .int .i64 p.a3, .int .i64 p.a4, .int .i64 p.a5, .int .i64 p.a6, .int .i64 p.a7, .int .i64 p.a8, .int .i64 p.a9, .int .i64 p.a10, .int .i64 p.a11, .int .i64 p.a12]), .int .u64 (gi.f : Int), .int .u64 (gi.ep : Int)] y fun e y' => ∃ T A c, e = .returned (.tuple #[.pointer (some ⟨T, 0, none⟩), .slice A L1.length c, .int .i64 0]) ∧ L1.length ≤ c ∧ Lr y' F9 p D T ⟨gi.f, gi.f + L1.length, gi.ep⟩ A L1 ∧ Sd w P p n (8 * i) pw D q E t U F9 m' gi y' ∧ Chg F9 y y') := fun y hy => (SD3.out.below hy).open_yes HE.out HP.out HO.out HFM.out HEP.out R1.out
      go_wp2_with fail
      go_region_held (fun y => y.cell? ⟨P, 0, none⟩ = some (.int .i64 p.a0) ∧ y.cell? ⟨P, 1, none⟩ = some (.int .i64 p.a1) ∧ y.cell? ⟨P, 2, none⟩ = some (.int .i64 p.a2) ∧ y.cell? ⟨P, 3, none⟩ = some (.int .i64 p.a3) ∧ y.cell? ⟨P, 4, none⟩ = some (.int .i64 p.a4) ∧ y.cell? ⟨P, 5, none⟩ = some (.int .i64 p.a5) ∧ y.cell? ⟨P, 6, none⟩ = some (.int .i64 p.a6) ∧ y.cell? ⟨P, 7, none⟩ = some (.int .i64 p.a7) ∧ y.cell? ⟨P, 8, none⟩ = some (.int .i64 p.a8) ∧ y.cell? ⟨P, 9, none⟩ = some (.int .i64 p.a9) ∧ y.cell? ⟨P, 10, none⟩ = some (.int .i64 p.a10) ∧ y.cell? ⟨P, 11, none⟩ = some (.int .i64 p.a11) ∧ y.cell? ⟨P, 12, none⟩ = some (.int .i64 p.a12) ∧ y.cell? ⟨P, 27, none⟩ = some (.pointer (some ⟨D, 0, none⟩)) ∧ y.cell? ⟨P, 28, none⟩ = some (.pointer (some ⟨t, 0, none⟩))) (first | go_keep | exact SD4.out.map)
        (first
          | (go_at_call 15; (with_reducible refine (KF.out _ (bdrew _)).mono ?_); rintro e w' ⟨rfl, rfl⟩)
          | (go_at_call 12; (with_reducible refine (KE.out _ (bdrew _)).mono ?_); rintro e w' ⟨rfl, rfl⟩)
          | (go_at_call 22; (with_reducible refine (KO.out _ (bdrew _)).mono ?_); rintro e w4 ⟨T1, A1, c1, rfl, hc1, l4, s4, g4⟩; have LR1 := Lib.hid l4; have SD4 := Lib.hid s4; clear l4 s4 g4))
      all_goals
        clear x0 x1 x2 x3 x4 x5 x6 x7 x8 x9 x10 x11 x12 x13 x14 KF KE KO SD3
        obtain ⟨x0, x1, x2, x3, x4, x5, x6, x7, x8, x9, x10, x11, x12, x13, x14⟩ := SD4.out.map
        have KF : Hid (∀ y, Below w4.heap.size w4 y → Calls Tryz.prog 15 #[.pointer (some ⟨t, 0, none⟩)] y fun e y' => e = .returned (.int .u64 (gi.f : Int)) ∧ y = y') := fun y hy => (SD4.out.below hy).first
        have KE : Hid (∀ y, Below w4.heap.size w4 y → Calls Tryz.prog 12 #[.pointer (some ⟨t, 0, none⟩)] y fun e y' => e = .returned (.int .u64 (gi.ep : Int)) ∧ y = y') := fun y hy => (SD4.out.below hy).epoch
        have KO : Hid (∀ y, Below w4.heap.size w4 y → Calls Tryz.prog 22 #[.pointer (some ⟨D, 0, none⟩), (.agg #[.int .i64 p.a0, .int .i64 p.a1, .int .i64 p.a2, .int .i64 p.a3, .int .i64 p.a4, .int .i64 p.a5, .int .i64 p.a6, .int .i64 p.a7, .int .i64 p.a8, .int .i64 p.a9, .int .i64 p.a10, .int .i64 p.a11, .int .i64 p.a12]), .int .u64 (gi.f : Int), .int .u64 (gi.ep : Int)] y fun e y' => ∃ T A c, e = .returned (.tuple #[.pointer (some ⟨T, 0, none⟩), .slice A L1.length c, .int .i64 0]) ∧ L1.length ≤ c ∧ Lr y' F9 p D T ⟨gi.f, gi.f + L1.length, gi.ep⟩ A L1 ∧ Sd w P p n (8 * i) pw D q E t U F9 m' gi y' ∧ Lr y' F9 p D T1 ⟨gi.f, gi.f + L1.length, gi.ep⟩ A1 L1) := fun y hy => ((SD4.out.below hy).open_yes HE.out HP.out HO.out HFM.out HEP.out R1.out).mono fun e y' ⟨T, A, c, e1, e2, e3, e4, e5⟩ => ⟨T, A, c, e1, e2, e3, e4, (LR1.out.below hy).kept e5⟩
        go_wp2_with fail
        go_region_held (fun y => y.cell? ⟨P, 0, none⟩ = some (.int .i64 p.a0) ∧ y.cell? ⟨P, 1, none⟩ = some (.int .i64 p.a1) ∧ y.cell? ⟨P, 2, none⟩ = some (.int .i64 p.a2) ∧ y.cell? ⟨P, 3, none⟩ = some (.int .i64 p.a3) ∧ y.cell? ⟨P, 4, none⟩ = some (.int .i64 p.a4) ∧ y.cell? ⟨P, 5, none⟩ = some (.int .i64 p.a5) ∧ y.cell? ⟨P, 6, none⟩ = some (.int .i64 p.a6) ∧ y.cell? ⟨P, 7, none⟩ = some (.int .i64 p.a7) ∧ y.cell? ⟨P, 8, none⟩ = some (.int .i64 p.a8) ∧ y.cell? ⟨P, 9, none⟩ = some (.int .i64 p.a9) ∧ y.cell? ⟨P, 10, none⟩ = some (.int .i64 p.a10) ∧ y.cell? ⟨P, 11, none⟩ = some (.int .i64 p.a11) ∧ y.cell? ⟨P, 12, none⟩ = some (.int .i64 p.a12) ∧ y.cell? ⟨P, 27, none⟩ = some (.pointer (some ⟨D, 0, none⟩)) ∧ y.cell? ⟨P, 28, none⟩ = some (.pointer (some ⟨t, 0, none⟩))) (first | go_keep | exact SD5.out.map)
          (first
            | (go_at_call 15; (with_reducible refine (KF.out _ (bdrew _)).mono ?_); rintro e w' ⟨rfl, rfl⟩)
            | (go_at_call 12; (with_reducible refine (KE.out _ (bdrew _)).mono ?_); rintro e w' ⟨rfl, rfl⟩)
            | (go_at_call 22; (with_reducible refine (KO.out _ (bdrew _)).mono ?_); rintro e w5 ⟨T2, A2, c2, rfl, hc2, l5, s5, l15⟩; have LR2 := Lib.hid l5; have SD5 := Lib.hid s5; have LR15 := Lib.hid l15; clear l5 s5 l15))
        all_goals
          clear x0 x1 x2 x3 x4 x5 x6 x7 x8 x9 x10 x11 x12 x13 x14 KF KE KO SD4 LR1
          have GK5 : Hid (GOk (70000 + 300 * i + 256) lg ⟨gi.f, gi.f + L1.length, gi.ep⟩) := ⟨Nat.le_add_right _ _, by
            have := rdl_len (la := la) (lg := lg) (ep := gi.ep) lg gi.f 0 m'
            rw [R1.out] at this
            exact Nat.add_le_add_left this _, by show gi.f + L1.length ≤ _; omega, HEP.out, by omega⟩
          go_wp2_with fail
          refine (rsame_any LR15.out.rs LR2.out.rs (by omega)).mono ?_; rintro e w6 ⟨rfl, b6⟩
          have B6 := Lib.hid b6
          clear b6
          go_wp2_with fail
          refine ((LR15.out.below B6.out).next).mono ?_; rintro e w' ⟨rfl, rfl⟩
          go_wp2_with fail
          refine ((LR2.out.below B6.out).next).mono ?_; rintro e w' ⟨rfl, rfl⟩
          go_wp2_with fail
          refine ((LR15.out.below B6.out).room HP.out GK5.out).mono ?_; rintro e w7 ⟨rfl, b7⟩
          have B7 := Lib.hid (bthen B6.out b7)
          clear b7
          go_wp2_with fail
          refine ((LR2.out.below B7.out).room HP.out GK5.out).mono ?_; rintro e w8 ⟨rfl, b8⟩
          have B8 := Lib.hid (bthen B7.out b8)
          clear b8 B6 B7
          have SD8 := Lib.hid (SD5.out.below B8.out)
          have LR8 := Lib.hid (LR15.out.below B8.out)
          clear SD5 LR15 LR2
          by_cases h2 : L1.length < 2
          · have h2' : (L1.length : Int) < 2 := by omega
            have BW := Lib.hid SD8.out.bel
            clear R1 R2
            go_wp2_with fail
            refine (awake_any _ (HE.out.below BW.out)).mono ?_; rintro e w9 ⟨rfl, b9⟩
            have B9 := Lib.hid (bthen BW.out b9)
            clear b9
            go_wp2
            go_ret
            exact ⟨rfl, B9.out⟩
          · have h2' : ¬ (L1.length : Int) < 2 := by omega
            obtain ⟨L3, hL3⟩ : ∃ L3, L3 = L1.drop 1 := ⟨_, rfl⟩
            have R3 : Hid (rdl la lg gi.ep lg (gi.f + 1) 0 m' = (L3, m')) := by show _ = _; rw [hL3]; exact R2.out (by omega)
            have hl3 : L3.length = L1.length - 1 := by rw [hL3, List.length_drop]
            have HL3 := Lib.hid hL3
            have HN3 : Hid (gi.f + 1 + L3.length = gi.f + L1.length ∧ L3.length ≤ 1000000 ∧ L3.length = L1.length - 1) := ⟨by omega, by omega, hl3⟩
            have HW3 : Hid (IntKind.u64.wrap ((gi.f : Int) + 1) = ((gi.f + 1 : Nat) : Int)) := by
              have := HFM.out
              show _ = _
              unfold most at this
              rw [IntWalk.u64_in _ ⟨by omega, by omega⟩]
              omega
            clear R1 R2 hL3 hl3
            have KF : Hid (∀ y, Below w8.heap.size w8 y → Calls Tryz.prog 15 #[.pointer (some ⟨t, 0, none⟩)] y fun e y' => e = .returned (.int .u64 (gi.f : Int)) ∧ y = y') := fun y hy => (SD8.out.below hy).first
            have KE : Hid (∀ y, Below w8.heap.size w8 y → Calls Tryz.prog 12 #[.pointer (some ⟨t, 0, none⟩)] y fun e y' => e = .returned (.int .u64 (gi.ep : Int)) ∧ y = y') := fun y hy => (SD8.out.below hy).epoch
            have KO : Hid (∀ y, Below w8.heap.size w8 y → Calls Tryz.prog 22 #[.pointer (some ⟨D, 0, none⟩), (.agg #[.int .i64 p.a0, .int .i64 p.a1, .int .i64 p.a2, .int .i64 p.a3, .int .i64 p.a4, .int .i64 p.a5, .int .i64 p.a6, .int .i64 p.a7, .int .i64 p.a8, .int .i64 p.a9, .int .i64 p.a10, .int .i64 p.a11, .int .i64 p.a12]), .int .u64 (IntKind.u64.wrap ((gi.f : Int) + 1)), .int .u64 (gi.ep : Int)] y fun e y' => ∃ T A c, e = .returned (.tuple #[.pointer (some ⟨T, 0, none⟩), .slice A L3.length c, .int .i64 0]) ∧ Lr y' F9 p D T ⟨gi.f + 1, gi.f + L1.length, gi.ep⟩ A L3 ∧ Sd w P p n (8 * i) pw D q E t U F9 m' gi y' ∧ Lr y' F9 p D T1 ⟨gi.f, gi.f + L1.length, gi.ep⟩ A1 L1) := fun y hy => by
              rw [HW3.out]
              exact ((SD8.out.below hy).open_yes (f := gi.f + 1) HE.out HP.out HO.out HF1M.out HEP.out R3.out).mono fun e y' ⟨T, A, c, e1, e2, e3, e4, e5⟩ => ⟨T, A, c, e1, by rw [HN3.out.1] at e3; exact e3, e4, (LR8.out.below hy).kept e5⟩
            obtain ⟨x0, x1, x2, x3, x4, x5, x6, x7, x8, x9, x10, x11, x12, x13, x14⟩ := SD8.out.map
            go_wp2_with fail
            go_region_held (fun y => y.cell? ⟨P, 0, none⟩ = some (.int .i64 p.a0) ∧ y.cell? ⟨P, 1, none⟩ = some (.int .i64 p.a1) ∧ y.cell? ⟨P, 2, none⟩ = some (.int .i64 p.a2) ∧ y.cell? ⟨P, 3, none⟩ = some (.int .i64 p.a3) ∧ y.cell? ⟨P, 4, none⟩ = some (.int .i64 p.a4) ∧ y.cell? ⟨P, 5, none⟩ = some (.int .i64 p.a5) ∧ y.cell? ⟨P, 6, none⟩ = some (.int .i64 p.a6) ∧ y.cell? ⟨P, 7, none⟩ = some (.int .i64 p.a7) ∧ y.cell? ⟨P, 8, none⟩ = some (.int .i64 p.a8) ∧ y.cell? ⟨P, 9, none⟩ = some (.int .i64 p.a9) ∧ y.cell? ⟨P, 10, none⟩ = some (.int .i64 p.a10) ∧ y.cell? ⟨P, 11, none⟩ = some (.int .i64 p.a11) ∧ y.cell? ⟨P, 12, none⟩ = some (.int .i64 p.a12) ∧ y.cell? ⟨P, 27, none⟩ = some (.pointer (some ⟨D, 0, none⟩)) ∧ y.cell? ⟨P, 28, none⟩ = some (.pointer (some ⟨t, 0, none⟩))) (first | go_keep | exact SD9.out.map)
              (first
                | (go_at_call 15; (with_reducible refine (KF.out _ (bdrew _)).mono ?_); rintro e w' ⟨rfl, rfl⟩)
                | (go_at_call 12; (with_reducible refine (KE.out _ (bdrew _)).mono ?_); rintro e w' ⟨rfl, rfl⟩)
                | (go_at_call 22; (with_reducible refine (KO.out _ (bdrew _)).mono ?_); rintro e w9 ⟨T3, A3, c3, rfl, l9, s9, l19⟩; have LR3 := Lib.hid l9; have SD9 := Lib.hid s9; have LR9 := Lib.hid l19; clear l9 s9 l19))
            all_goals
              clear x0 x1 x2 x3 x4 x5 x6 x7 x8 x9 x10 x11 x12 x13 x14 KF KE KO SD8 LR8
              obtain ⟨b1, o1, eA1, _⟩ := LR9.out.rs.2 (by omega)
              subst eA1
              have hcut1 : (1 : Int) ≤ (c1 : Int) := by omega
              have hcut2 : ¬ (1 : Nat) = c1 := by omega
              have hcut3 : 1 < c1 := by omega
              have RS9 : Hid (Rs w9 (some ⟨b1, o1 + 5, none⟩) (L1.length - 1) L3) := by
                have := LR9.out.rs.cut (k := 1) (L1.length - 1) (by omega)
                rw [List.take_of_length_le (by rw [List.length_drop]; exact Nat.le_refl _), ← HL3.out] at this
                exact this
              have RS3 : Hid (Rs w9 A3 (L1.length - 1) L3) := by
                have := LR3.out.rs
                rw [HN3.out.2.2] at this
                exact this
              have hl31 : L3.length = L1.length - 1 := HN3.out.2.2
              have hl32 : L1.length - 1 ≤ 1000000 := by omega
              go_wp2_with fail
              refine (rsame_any RS3.out RS9.out hl32).mono ?_; rintro e w10 ⟨rfl, b10⟩
              have B10 := Lib.hid b10
              clear b10
              go_wp2_with fail
              refine ((LR3.out.below B10.out).next).mono ?_; rintro e w' ⟨rfl, rfl⟩
              go_wp2_with fail
              refine ((LR9.out.below B10.out).next).mono ?_; rintro e w' ⟨rfl, rfl⟩
              have BW := Lib.hid (SD9.out.below B10.out).bel
              go_wp2_with fail
              refine (awake_any _ (HE.out.below BW.out)).mono ?_; rintro e w11 ⟨rfl, b11⟩
              have B11 := Lib.hid (bthen BW.out b11)
              clear b11
              go_wp2
              go_ret
              exact ⟨rfl, B11.out⟩
    · have HO := Lib.hid hoff
      clear hoff
      have KO : Hid (∀ y, Below w3.heap.size w3 y → Calls Tryz.prog 22 #[.pointer (some ⟨D, 0, none⟩), (.agg #[.int .i64 p.a0, .int .i64 p.a1, .int .i64 p.a2, .int .i64 p.a3, .int .i64 p.a4, .int .i64 p.a5, .int .i64 p.a6, .int .i64 p.a7, .int .i64 p.a8, .int .i64 p.a9, .int .i64 p.a10, .int .i64 p.a11, .int .i64 p.a12]), .int .u64 (gi.f : Int), .int .u64 (gi.ep : Int)] y fun e y' => e = .returned (.tuple #[.pointer none, .slice none 0 0, .int .i64 80]) ∧ Below y.heap.size y y') := fun y hy => (SD3.out.below hy).open_off HP.out HO.out HFM.out HEP.out
      go_wp2_with fail
      go_region_held (fun y => y.cell? ⟨P, 0, none⟩ = some (.int .i64 p.a0) ∧ y.cell? ⟨P, 1, none⟩ = some (.int .i64 p.a1) ∧ y.cell? ⟨P, 2, none⟩ = some (.int .i64 p.a2) ∧ y.cell? ⟨P, 3, none⟩ = some (.int .i64 p.a3) ∧ y.cell? ⟨P, 4, none⟩ = some (.int .i64 p.a4) ∧ y.cell? ⟨P, 5, none⟩ = some (.int .i64 p.a5) ∧ y.cell? ⟨P, 6, none⟩ = some (.int .i64 p.a6) ∧ y.cell? ⟨P, 7, none⟩ = some (.int .i64 p.a7) ∧ y.cell? ⟨P, 8, none⟩ = some (.int .i64 p.a8) ∧ y.cell? ⟨P, 9, none⟩ = some (.int .i64 p.a9) ∧ y.cell? ⟨P, 10, none⟩ = some (.int .i64 p.a10) ∧ y.cell? ⟨P, 11, none⟩ = some (.int .i64 p.a11) ∧ y.cell? ⟨P, 12, none⟩ = some (.int .i64 p.a12) ∧ y.cell? ⟨P, 27, none⟩ = some (.pointer (some ⟨D, 0, none⟩)) ∧ y.cell? ⟨P, 28, none⟩ = some (.pointer (some ⟨t, 0, none⟩))) (first | go_keep | exact (SD3.out.below B4.out).map)
        (first
          | (go_at_call 15; (with_reducible refine (KF.out _ (bdrew _)).mono ?_); rintro e w' ⟨rfl, rfl⟩)
          | (go_at_call 12; (with_reducible refine (KE.out _ (bdrew _)).mono ?_); rintro e w' ⟨rfl, rfl⟩)
          | (go_at_call 22; (with_reducible refine (KO.out _ (bdrew _)).mono ?_); rintro e w4 ⟨rfl, b4⟩; have B4 : Hid (Below w3.heap.size w3 w4) := bthen (bdrew _) b4; clear b4))
      all_goals
        clear x0 x1 x2 x3 x4 x5 x6 x7 x8 x9 x10 x11 x12 x13 x14
        obtain ⟨x0, x1, x2, x3, x4, x5, x6, x7, x8, x9, x10, x11, x12, x13, x14⟩ := (SD3.out.below B4.out).map
        go_wp2_with fail
        go_region_held (fun y => y.cell? ⟨P, 0, none⟩ = some (.int .i64 p.a0) ∧ y.cell? ⟨P, 1, none⟩ = some (.int .i64 p.a1) ∧ y.cell? ⟨P, 2, none⟩ = some (.int .i64 p.a2) ∧ y.cell? ⟨P, 3, none⟩ = some (.int .i64 p.a3) ∧ y.cell? ⟨P, 4, none⟩ = some (.int .i64 p.a4) ∧ y.cell? ⟨P, 5, none⟩ = some (.int .i64 p.a5) ∧ y.cell? ⟨P, 6, none⟩ = some (.int .i64 p.a6) ∧ y.cell? ⟨P, 7, none⟩ = some (.int .i64 p.a7) ∧ y.cell? ⟨P, 8, none⟩ = some (.int .i64 p.a8) ∧ y.cell? ⟨P, 9, none⟩ = some (.int .i64 p.a9) ∧ y.cell? ⟨P, 10, none⟩ = some (.int .i64 p.a10) ∧ y.cell? ⟨P, 11, none⟩ = some (.int .i64 p.a11) ∧ y.cell? ⟨P, 12, none⟩ = some (.int .i64 p.a12) ∧ y.cell? ⟨P, 27, none⟩ = some (.pointer (some ⟨D, 0, none⟩)) ∧ y.cell? ⟨P, 28, none⟩ = some (.pointer (some ⟨t, 0, none⟩))) (first | go_keep | exact (SD3.out.below B5.out).map)
          (first
            | (go_at_call 15; (with_reducible refine (KF.out _ (bthen B4.out (bdrew _))).mono ?_); rintro e w' ⟨rfl, rfl⟩)
            | (go_at_call 12; (with_reducible refine (KE.out _ (bthen B4.out (bdrew _))).mono ?_); rintro e w' ⟨rfl, rfl⟩)
            | (go_at_call 22; (with_reducible refine (KO.out _ (bthen B4.out (bdrew _))).mono ?_); rintro e w5 ⟨rfl, b5⟩; have B5 : Hid (Below w3.heap.size w3 w5) := bthen (bthen B4.out (bdrew _)) b5; clear b5))
        all_goals
          clear x0 x1 x2 x3 x4 x5 x6 x7 x8 x9 x10 x11 x12 x13 x14 KF KE KO
          have BW := Lib.hid (SD3.out.below B5.out).bel
          go_wp2_with fail
          refine (awake_any _ (HE.out.below BW.out)).mono ?_; rintro e w6 ⟨rfl, b6⟩
          have B6 := Lib.hid (bthen BW.out b6)
          clear b6
          go_wp2
          go_ret
          exact ⟨rfl, B6.out⟩
theorem twice_law (W : World) (a0 : Int) (w0 : (Lit.int .u16 a0).wf = true) (a1 : Int) (w1 : (Lit.int .u16 a1).wf = true) (D : Option Addr) (n c : Nat) (L : Nat → ActV) (hl : n ≤ c) (hm : c ≤ maxLen) (h : Acts W D n L) (he : Env W) :
    Calls Tryz.prog 5 #[.int .u16 a0, .int .u16 a1, .slice D n c] W fun e w' => e = .returned (.bool true) ∧ Below W.heap.size W w' := by
  simp [Lit.wf, IntKind.min, IntKind.max, IntKind.signed, IntKind.bits] at w0 w1
  obtain ⟨x, rfl⟩ := Int.eq_ofNat_of_zero_le w0.1
  obtain ⟨f, rfl⟩ := Int.eq_ofNat_of_zero_le w1.1
  exact twice_walk x f (by omega) (by omega) h (Nat.le_trans hl hm) he
end
end Go.Proofs.YtikbbikcacoobaaGreatDoor.Pd.Iv
