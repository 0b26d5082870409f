/-
  The walk of the statement on any calls of a log. No conditions.
-/
import Derived.Test.YtikbbikcacoobaaGreatDoorIvWalk
import Derived.Deep.RegionHeld
import Derived.Deep.DrawnRows
namespace Go.Proofs.YtikbbikcacoobaaGreatDoor.Pd.Iv
open Go.RowKit Oc Dm W Dw Sr Gt
set_option linter.unusedVariables false
set_option maxRecDepth 100000
attribute [local go_sem ↓] Go.wp_at_zero Go.wp_at_succ
section
variable {w : World} {k c : Nat} {A : Option Addr} {L : Nat → ActV}
set_option maxHeartbeats 8000000 in
theorem plays_walk (x f : Nat) (hx : x ≤ 65535) (hf : f ≤ 65535) (ha : Acts w A k L) (hk : k ≤ maxLen) (he : Env w) :
    Calls Tryz.prog 3 #[.int .u16 (x : Int), .int .u16 (f : Int), .slice A k c] w fun e w' => e = .returned (.bool true) ∧ Below w.heap.size w w' := by
  obtain ⟨xm, hxm⟩ : ∃ f : Nat, (x : Int) % 12 = (f : Int) := ⟨x % 12, by omega⟩
  have hx2 : xm ≤ 255 := by omega
  obtain ⟨p, la, lg, n, hP, hB⟩ := begin_some xm hx2 f hf w he
  have HB := Lib.hid hB
  have HP := Lib.hid hP
  have HE := Lib.hid he
  have HA := Lib.hid ha
  have G0 : Hid (GOk 70000 lg ⟨f, f, 0⟩) := gok_first hf
  have hk9 : (k : Int) ≤ 9223372036854775807 := by unfold maxLen at hk; omega
  clear hB hP he ha hx2
  go_enter Tryz.func3, Tryz.ntmps3
  go_wp2_with fail
  refine HB.out.mono ?_; rintro e w1 ⟨P, rfl, st1⟩
  have ST1 := Lib.hid st1
  clear st1 HB hxm
  go_wp2
  go_loopw [9] (fun q9 wr => ∃ i : Nat, i ≤ 40 ∧ q9 = .int .i64 (i : Int) ∧ Hid (∃ m g, St w P p n (8 * i) m m (some g) (some g) w (fun b => w.heap.size ≤ b) wr ∧ GOk (70000 + 300 * i) lg g)) (fun q9 _ => 40 - (intOf q9).toNat)
  case atStart => exact ⟨0, Nat.zero_le _, rfl, m00, _, ST1.out, G0.out⟩
  case round =>
    obtain ⟨i, hi, rfl, SI⟩ := hrel
    clear ST1 G0
    obtain ⟨mi, gi, st, gk⟩ := SI.out
    have ST := Lib.hid st
    have GK := Lib.hid gk
    have BE := Lib.hid st.bel
    clear st gk SI
    have hcase : (i < k ∧ i < 40) ∨ (k ≤ i) ∨ (i < k ∧ 40 ≤ i) := by omega
    rcases hcase with ⟨h1, h2⟩ | hend
    · obtain ⟨b, off, rfl, hld, hok⟩ := act_load HA.out h1
      have LD := Lib.hid (hld wr BE.out)
      have DO := Lib.hid (st_do ST.out HE.out HP.out GK.out (by omega) (by omega) (by omega) (L i) hok)
      have h1' : (i : Int) < (k : Int) := by omega
      have h2' : (i : Int) < 40 := by omega
      clear hld hok
      generalize L i = y at LD DO
      go_wp2_with ((with_reducible apply L_ld); exact rfl; exact LD.out)
      refine DO.out.mono ?_; rintro e w3 ⟨rfl, m3, g3, s3, k3⟩
      have ST3 := Lib.hid s3
      have GK3 := Lib.hid k3
      clear s3 k3
      go_wp2_with fail
      refine (st_told ST3.out HP.out GK3.out).mono ?_; rintro e w4 ⟨rfl, b4⟩
      have ST4 := Lib.hid (ST3.out.below b4)
      clear b4
      go_wp2
      go_roundw
      case rel => exact ⟨i + 1, by omega, by go_num, m3, g3, by rw [show 8 * (i + 1) = 8 * i + 8 by omega]; exact ST4.out, by rw [show 70000 + 300 * (i + 1) = 70000 + 300 * i + 300 by omega]; exact GK3.out⟩
      case measure => simp [intOf]; omega
    · rcases hend with hend | ⟨hend, hend2⟩
      all_goals
        go_wp2_with fail
        refine (awake_any _ (HE.out.below BE.out)).mono ?_; rintro e w6 ⟨rfl, b6⟩
        have B6 := Lib.hid (bthen BE.out b6)
        clear b6
        go_wp2
        go_ret
        exact ⟨rfl, B6.out⟩
theorem plays_law (W : World) (a0 : Int) (w0 : (Lit.int .u16 a0).wf = true) (a1 : Int) (w1 : (Lit.int .u16 a1).wf = true) (D : Option Addr) (n c : Nat) (L : Nat → ActV) (hl : n ≤ c) (hm : c ≤ maxLen) (h : Acts W D n L) (he : Env W) :
    Calls Tryz.prog 3 #[.int .u16 a0, .int .u16 a1, .slice D n c] W fun e w' => e = .returned (.bool true) ∧ Below W.heap.size W w' := by
  simp [Lit.wf, IntKind.min, IntKind.max, IntKind.signed, IntKind.bits] at w0 w1
  obtain ⟨x, rfl⟩ := Int.eq_ofNat_of_zero_le w0.1
  obtain ⟨f, rfl⟩ := Int.eq_ofNat_of_zero_le w1.1
  exact plays_walk x f (by omega) (by omega) h (Nat.le_trans hl hm) he
end
end Go.Proofs.YtikbbikcacoobaaGreatDoor.Pd.Iv
