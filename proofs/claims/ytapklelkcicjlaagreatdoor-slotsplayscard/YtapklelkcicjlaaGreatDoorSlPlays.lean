/-
  The walk of the statement on any calls of a store. No conditions.
-/
import Derived.Test.YtapklelkcicjlaaGreatDoorSlAwake
import Derived.Deep.RegionHeld
import Derived.Deep.DrawnRows
import Derived.Deep.CutRange
import Derived.Deep.CutBlock
namespace Go.Proofs.YtapklelkcicjlaaGreatDoor.Pd.Sl
set_option maxRecDepth 100000
open Go.RowKit Oc Dm W Dw Sr Gt W.Hd
set_option linter.unusedVariables false
set_option maxRecDepth 100000
attribute [local go_sem ↓] Go.wp_at_zero Go.wp_at_succ
section
variable {w : World} {k c : Nat} {A : Option Addr} {L : Nat → ActV}
set_option maxHeartbeats 8000000 in
theorem plays_walk (x : Nat) (hx : x ≤ 65535) (ha : Acts w A k L) (hk : k ≤ maxLen) (fa : Option Addr) (fl fc : Nat) (fs : List Int) (hfs : Fi w fa fl fs) (hfl : fl ≤ fc) (hfc : fc ≤ maxLen) (he : EnvH w) :
    Calls Tryz.prog 3 #[.int .u16 (x : Int), .slice A k c, .slice fa fl fc] w fun e w' => e = .returned (.bool true) ∧ Below w.heap.size w w' := by
  obtain ⟨xm, hxm⟩ : ∃ f : Nat, (x : Int) % 6 = (f : Int) := ⟨x % 6, by omega⟩
  have hx2 : xm ≤ 65535 := by omega
  obtain ⟨p, la, ns, n, hP, hnse, hB⟩ := begin_some xm hx2 w he
  clear hnse
  have HB := Lib.hid hB
  have HP := Lib.hid hP
  have HE := Lib.hid he
  have HA := Lib.hid ha
  have HF := Lib.hid hfs
  have HFC : Hid (fl ≤ fc ∧ fc ≤ maxLen) := ⟨hfl, hfc⟩
  have hk9 : (k : Int) ≤ 9223372036854775807 := by unfold maxLen at hk; omega
  have G0 : Hid ((fresh ns).length = ns ∧ small (fresh ns) 0) := ⟨fresh_len ns, fresh_small ns⟩
  generalize fresh ns = L0 at hB HB G0
  clear hB hP he ha hx2 hfs hfc
  go_enter Tryz.func3, Tryz.ntmps3
  go_wp2_with fail
  refine HB.out.mono ?_; rintro e w1 ⟨P, rfl, st1⟩
  have ST1 := Lib.hid st1
  clear st1 HB hxm
  go_upto_if 20 with fail
  go_cut [2] from 18 to 22 (fun s2 wc => ∃ A2 l2 c2 ls, s2 = .slice A2 l2 c2 ∧ l2 ≤ 12 ∧ Hid (Fi w A2 l2 ls) ∧ wc = w1)
  case first =>
    by_cases h12 : fl ≤ 12
    · have h12' : ¬ (12 : Int) < (fl : Int) := by omega
      go_wp2
      go_meet
      exact ⟨fa, fl, fc, fs, rfl, h12, HF, rfl⟩
    · have h12' : (12 : Int) < (fl : Int) := by omega
      have hc12 : 12 ≤ fc := by omega
      have hc13 : (12 : Int) ≤ (fc : Int) := by omega
      have FT : Hid (Fi w fa 12 (fs.take 12)) := fi_take HF.out (by omega)
      go_wp2
      go_meet
      exact ⟨fa, 12, fc, _, rfl, Nat.le_refl _, FT, rfl⟩
  case rest =>
    obtain ⟨A2, l2, c2, ls, rfl, hl12, HF2, hw⟩ := hcut
    subst hw
    clear HF HFC hfl
    go_wp2
    go_loopw [9] (fun q9 wr => ∃ i : Nat, i ≤ 30 ∧ q9 = .int .i64 (i : Int) ∧ Hid (∃ m g, St w P p n (12 * i) m m (some g) (some g) w (fun b => w.heap.size ≤ b) wr ∧ g.length = ns ∧ small g i)) (fun q9 _ => 30 - (intOf q9).toNat)
    case atStart => exact ⟨0, Nat.zero_le _, rfl, m00, _, ST1.out, G0.out⟩
    case round =>
      obtain ⟨i, hi, rfl, SI⟩ := hrel
      clear ST1 G0
      obtain ⟨mi, gi, st, gk⟩ := SI.out
      have ST := Lib.hid st
      have GK := Lib.hid gk
      have BE := Lib.hid st.bel
      clear st gk SI
      have hcase : (i < k ∧ i < 30) ∨ (k ≤ i) ∨ (i < k ∧ 30 ≤ i) := by omega
      rcases hcase with ⟨h1, h2⟩ | hend
      · obtain ⟨b, off, rfl, hld, hok⟩ := act_load HA.out h1
        have LD := Lib.hid (hld wr BE.out)
        have DO := Lib.hid (st_do ST.out HE.out HP.out GK.out.1 GK.out.2 (by omega) (by omega) (L i) hok)
        have h1' : (i : Int) < (k : Int) := by omega
        have h2' : (i : Int) < 30 := by omega
        clear hld hok
        generalize L i = y at LD DO
        go_wp2_with ((with_reducible apply L_ld); exact rfl; exact LD.out)
        refine DO.out.mono ?_; rintro e w3 ⟨rfl, m3, g3, s3, k3, z3⟩
        have ST3 := Lib.hid s3
        have K3 := Lib.hid k3
        have Z3 := Lib.hid z3
        have F3 := Lib.hid (HF2.out.below s3.bel)
        clear s3 k3 z3
        go_wp2_with fail
        refine (st_told ST3.out HP.out K3.out F3.out (show l2 ≤ 1000000 by omega)).mono ?_; rintro e w4 ⟨rfl, b4⟩
        have ST4 := Lib.hid (ST3.out.below b4)
        clear b4
        go_wp2
        go_roundw
        case rel => exact ⟨i + 1, by omega, by go_num, m3, g3, by rw [show 12 * (i + 1) = 12 * i + 12 by omega]; exact ST4.out, K3.out, Z3.out⟩
        case measure => simp [intOf]; omega
      · rcases hend with hend | ⟨hend, hend2⟩
        all_goals
          go_wp2_with fail
          refine (awake_any _ (HE.out.below BE.out)).mono ?_; rintro e w6 ⟨rfl, b6⟩
          have B6 := Lib.hid (bthen BE.out b6)
          clear b6
          go_wp2
          go_ret
          exact ⟨rfl, B6.out⟩
theorem plays_law (W : World) (a0 : Int) (w0 : (Lit.int .u16 a0).wf = true) (D : Option Addr) (n c : Nat) (L : Nat → ActV) (hl : n ≤ c) (hm : c ≤ maxLen) (h : Acts W D n L) (fa : Option Addr) (fl fc : Nat) (fs : List Int) (hfl : fl ≤ fc) (hfc : fc ≤ maxLen) (hfs : Fi W fa fl fs) (he : EnvH W) :
    Calls Tryz.prog 3 #[.int .u16 a0, .slice D n c, .slice fa fl fc] W fun e w' => e = .returned (.bool true) ∧ Below W.heap.size W w' := by
  simp [Lit.wf, IntKind.min, IntKind.max, IntKind.signed, IntKind.bits] at w0
  obtain ⟨x, rfl⟩ := Int.eq_ofNat_of_zero_le w0.1
  exact plays_walk x (by omega) h (Nat.le_trans hl hm) fa fl fc fs hfs hfl hfc he
end
end Go.Proofs.YtapklelkcicjlaaGreatDoor.Pd.Sl
