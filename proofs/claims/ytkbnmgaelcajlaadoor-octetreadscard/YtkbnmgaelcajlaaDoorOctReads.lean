/-
  The walk of the statement on readers. No conditions.
-/
import Derived.Test.YtkbnmgaelcajlaaDoorOctState
import Derived.Test.YtkbnmgaelcajlaaDoorOctBack
import Derived.Deep.RegionHeld
import Derived.Deep.DrawnRows
import Derived.Deep.CutRange
import Derived.Deep.CutBlock
import Derived.Deep.LoopGhost
namespace Go.Proofs.YtkbnmgaelcajlaaDoor.W
open Go.RowKit Oc
set_option linter.unusedVariables false
attribute [local go_sem ↓] Go.wp_at_zero Go.wp_at_succ

/-- what holds at each round's end -/
def Inv (w : World) (R T : Nat) (wr : World) : Prop := ∃ zs bad, Both wr R T zs bad ∧ Below w.heap.size w wr

theorem quiet {P : Program} {f : FuncId} {args : Array Value} {w : World} {n : Nat} {v : Value} (h : Calls P f args (w.drewN n) fun e w' => e = .returned v ∧ w.drewN n = w') : Calls P f args (w.drewN n) fun e w'' => e = .returned v ∧ ∃ m, w'' = w.drewN m :=
  h.mono fun _ _ ⟨he, hm⟩ => ⟨he, n, hm.symm⟩
theorem Rd.dn {w : World} {T : TypeId} {R : Nat} {xs : List UInt8} {g : Bool} (h : Rd w T R xs g) (n : Nat) : Rd (w.drewN n) T R xs g := h.below (below_drewN (Below.refl _ _) n)
theorem Inv.dn {w : World} {R T : Nat} {wr : World} (h : Inv w R T wr) (n : Nat) : Inv w R T (wr.drewN n) := by
  obtain ⟨zs, bad, ⟨h1, h2, h3, h4⟩, hb⟩ := h
  exact ⟨zs, bad, ⟨Rd.dn h1 n, Rd.dn h2 n, h3, h4⟩, below_drewN hb n⟩
theorem act_w {w : World} {b p : Nat} {a : ActV} {g : Int} (h : ActAt w b p a) (eg : a.width = g) : w.cell? ⟨b, p + 1, none⟩ = some (.int .i64 g) := by subst eg; exact h.2.1
theorem act_n {w : World} {b p : Nat} {a : ActV} {g : Int} (h : ActAt w b p a) (eg : a.n = g) : w.cell? ⟨b, p + 2, none⟩ = some (.int .i64 g) := by subst eg; exact h.2.2.1

set_option maxRecDepth 100000 in
set_option maxHeartbeats 8000000 in
theorem reads_walk (A : Option Addr) (n c : Nat) (xs : List UInt8) (D : Option Addr) (n2 c2 : Nat) (L : Nat → ActV) (w : World) (hc : n ≤ c) (ho : Oct w A n xs) (ha : Acts w D n2 L) (he : Env w) :
    Calls Tryd.prog 4 #[.slice A n c, .slice D n2 c2] w fun e w' => e = .returned (.bool true) ∧ Below w.heap.size w w' := by
  obtain ⟨m, hm⟩ : ∃ m, m = min n 200 := ⟨_, rfl⟩
  have hm2 : m ≤ 200 := by omega
  have hmc : m ≤ c := by omega
  obtain ⟨ys, eys⟩ : ∃ ys, xs.take m = ys := ⟨_, rfl⟩
  have hys : Oct w A m ys := by rw [← eys]; exact ho.take (by omega)
  have hyl : Hid (ys.length = m) := hys.len
  have HM := Lib.hid hm
  have HO := Lib.hid hys
  have HA := Lib.hid ha
  have HE := Lib.hid he
  clear hm hys he ho eys ha
  go_enter Tryd.func4, Tryd.ntmps4
  go_wp2_with fail
  refine (few_any _ _ _ m _ HM.out hc).mono ?_; rintro e w' ⟨rfl, rfl⟩
  go_wp2_with fail
  refine (read_any _ _ _ ys _ (by omega) HO.out).mono ?_; rintro e w1 ⟨R, rfl, hR, r1, b1⟩
  have B1 := Lib.hid b1
  have R1 := Lib.hid r1
  have HR := Lib.hid hR
  have T1 : Hid (Rd (w1.alloc (.cells #[.slice A m c, .bool false] 38)) 38 w1.heap.size ys false) := by
    have := rd_new (c := c) (A := A) (w := w1) (xs := ys) (by rw [hyl.out]; exact HO.out.below b1) (by rw [hyl.out]; exact hmc) 38 false
    rw [hyl.out] at this
    exact this
  have I1 : Hid (Inv w R w1.heap.size (w1.alloc (.cells #[.slice A m c, .bool false] 38))) :=
    ⟨ys, false, ⟨R1.out.below ((Below.refl _ _).alloc (Nat.le_refl _) _), T1.out, (fun h => by cases h), (by rw [hyl.out]; exact hm2)⟩, B1.out.alloc B1.out.size _⟩
  clear b1 r1 hR
  go_wp2
  have hT : Hid (w.heap.size ≤ w1.heap.size) := B1.out.size
  go_loopw [7] (fun q wr => ∃ j : Nat, j ≤ 40 ∧ j ≤ n2 ∧ q = .int .i64 j ∧ Hid (Inv w R w1.heap.size wr)) (fun q _ => n2 - (intOf q).toNat)
  case atStart => exact ⟨0, by omega, by omega, rfl, I1⟩
  case round =>
    obtain ⟨j, hj40, hjn, rfl, IJ⟩ := hrel
    by_cases hlt : j < n2 ∧ j < 40
    · obtain ⟨hlt1, hlt2⟩ := hlt
      obtain ⟨zs, bad, both, bel⟩ := IJ.out
      obtain ⟨br, bk, bz, bn⟩ := both
      have br' : Rd wr.drew 52 R zs (!bad) := br.below (Below.refl _ _).drew
      have bk' : Rd wr.drew 38 w1.heap.size zs bad := bk.below (Below.refl _ _).drew
      have bn' : zs.length ≤ 1000000000 := by omega
      have BR := Lib.hid br'
      have BK := Lib.hid bk'
      have BZ := Lib.hid bz
      have BN := Lib.hid bn'
      have BNN := Lib.hid bn
      have BR0 := Lib.hid br
      have BK0 := Lib.hid bk
      have BL := Lib.hid bel
      obtain ⟨b, off, rfl, h0, h1, h2, h3, h4⟩ := (HA.out.below bel) j hlt1
      obtain ⟨kd, ekd⟩ : ∃ x, (L j).kind = x := ⟨_, rfl⟩
      obtain ⟨wd, ewd⟩ : ∃ x, (L j).width = x := ⟨_, rfl⟩
      obtain ⟨nn, enn⟩ : ∃ x, (L j).n = x := ⟨_, rfl⟩
      rw [ekd] at h0
      rw [ewd] at h1
      rw [enn] at h2
      have EKD := Lib.hid ekd
      have EWD := Lib.hid ewd
      have ENN := Lib.hid enn
      clear br bk bz bn br' bk' bn' bel ekd ewd enn h3 h4
      have hi0 : (0 : Int) ≤ (j : Int) := by omega
      have hi1 : (j : Int) < (n2 : Int) := by omega
      go_upto_block 2 with (fail)
      go_cut [7] from 17 to 102 (fun s7 wc => s7 = .int .i64 j ∧ Hid (Inv w R w1.heap.size wc))
      case first =>
        by_cases k0 : kd = 0
        · subst k0
          go_wp2
          go_region_held (fun w' => w'.cell? ⟨b, off + j * 4 + 1, none⟩ = some (.int .i64 wd))
            (first | go_keep | exact (act_w ((HA.out.below BW2.out).here hlt1) EWD.out) | exact (act_w ((HA.out.below BW1.out).here hlt1) EWD.out))
            (first
              | (go_at_call 16; (with_reducible refine (u_any (bad := bad) wd BR.out BN.out BZ.out).mono ?_); rintro e w2 ⟨rfl, r2, g2⟩; have BW1 : Hid (Below w.heap.size w w2) := BL.out.trans (below_of_drew (below_of_grown g2 BL.out.size HR.out)); have T2 := Lib.hid (BK.out.other BR.out (by decide) g2); have R2 := Lib.hid r2; clear r2 g2)
              | (go_at_call 17; (with_reducible refine (tu_any (bad := bad) wd T2.out).mono ?_); rintro e w3 ⟨rfl, r3, g3⟩; have BW2 : Hid (Below w.heap.size w w3) := BW1.out.trans (below_of_grown g3 BW1.out.size hT.out); have R3 := Lib.hid (R2.out.other T2.out (by decide) g3); have T3 := Lib.hid r3; clear r3 g3))
          go_wp2
          go_meet
          case rel => exact ⟨rfl, ⟨_, _, ⟨R3.out, T3.out, uRest_bad, Nat.le_trans (uRest_le _ _ _) BNN.out⟩, BW2.out⟩⟩
        · have hk0 : (kd == 0) = false := by simpa using k0
          by_cases k1 : kd = 1
          · subst k1
            obtain ⟨nb, enb⟩ : ∃ nb, (bOut zs bad nn).length = nb := ⟨_, rfl⟩
            have ENB := Lib.hid enb
            clear enb k0
            go_wp2
            go_region_held (fun w' => w'.cell? ⟨b, off + j * 4 + 2, none⟩ = some (.int .i64 nn))
              (first | go_keep | exact (act_n ((HA.out.below BW2.out).here hlt1) ENN.out) | exact (act_n ((HA.out.below BW1.out).here hlt1) ENN.out))
              (first
                | (go_at_call 18; (with_reducible refine (bytes_any (bad := bad) nn nb BR.out BN.out BZ.out ENB.out).mono ?_); rintro e w2 ⟨A2, d2, rfl, s2, r2, g2⟩; have BW1 : Hid (Below w.heap.size w w2) := BL.out.trans (below_of_drew (below_of_grown g2 BL.out.size HR.out)); have T2 := Lib.hid (BK.out.other BR.out (by decide) g2); have R2 := Lib.hid r2; have S2 := Lib.hid s2; have cv1 := s2.conv bt Tryd.underlying9 d2; clear r2 g2 s2)
                | (go_at_call 19; (with_reducible refine (tbytes_any (bad := bad) nn nb T2.out ENB.out).mono ?_); rintro e w3 ⟨A3, d3, rfl, s3, r3, g3⟩; have BW2 : Hid (Below w.heap.size w w3) := BW1.out.trans (below_of_grown g3 BW1.out.size hT.out); have R3 := Lib.hid (R2.out.other T2.out (by decide) g3); have T3 := Lib.hid r3; have cv2 := (S2.out.rd T2.out g3).conv bt Tryd.underlying9 d2; have cv3 := s3.conv bt Tryd.underlying9 d3; clear r3 g3 s3))
            all_goals go_wp2
            all_goals (go_meet; case rel => exact ⟨rfl, ⟨_, _, ⟨R3.out, T3.out, bRest_bad, Nat.le_trans (bRest_le _ _ _) BNN.out⟩, BW2.out⟩⟩)
          · have hk1 : (kd == 1) = false := by simpa using k1
            go_wp2
            go_meet
            case rel => exact ⟨rfl, IJ⟩
      case rest =>
        obtain ⟨rfl, IC⟩ := hcut
        clear BR BK BZ BN BNN BR0 BK0 BL EKD EWD ENN IJ
        obtain ⟨zs, bad, ⟨br, bk, bz, bn⟩, bel⟩ := IC.out
        have BL := Lib.hid bel
        have BNN := Lib.hid bn
        obtain ⟨AK, ck, hh, hck, hok⟩ := bk
        obtain ⟨p0, p1, f0, f1⟩ := pair_cell hh
        clear f0 f1 hh hck hok bel bn
        cases bad
        · rcases zs with _ | ⟨x, zs⟩
          · have BR := Lib.hid br
            clear br bz
            go_wp2
            go_quiet ((first | (go_at_call 20; exact quiet (left_good (Rd.dn BR.out _))) | (go_at_call 21; exact quiet (bad_rd (Rd.dn BR.out _))) | (go_at_call 22; exact quiet (done_all (Rd.dn BR.out _)))))
            go_wp2
            go_roundw
            case rel => exact ⟨j + 1, by omega, by omega, by go_num, IC.out.dn _⟩
            case measure => simp [intOf]; omega
          · have BR := Lib.hid br
            have hne : ((zs.length : Int) + 1 == 0) = false := by simp; omega
            clear br bz
            go_wp2
            go_quiet ((first | (go_at_call 20; exact quiet (left_good (Rd.dn BR.out _))) | (go_at_call 21; exact quiet (bad_rd (Rd.dn BR.out _))) | (go_at_call 22; exact quiet (done_more (Rd.dn BR.out _) (by simp)))))
            go_wp2
            go_roundw
            case rel => exact ⟨j + 1, by omega, by omega, by go_num, IC.out.dn _⟩
            case measure => simp [intOf]; omega
        · have e := bz rfl
          subst e
          have BR := Lib.hid br
          clear br bz
          go_wp2
          go_quiet ((first | (go_at_call 20; exact quiet (left_bad (Rd.dn BR.out _))) | (go_at_call 21; exact quiet (bad_rd (Rd.dn BR.out _))) | (go_at_call 22; exact quiet (done_bad (Rd.dn BR.out _)))))
          go_wp2
          go_roundw
          case rel => exact ⟨j + 1, by omega, by omega, by go_num, IC.out.dn _⟩
          case measure => simp [intOf]; omega
    · have hcase : (n2 ≤ j) ∨ (j < n2 ∧ 40 ≤ j) := by omega
      clear hlt
      obtain ⟨zs, bad, both, bel⟩ := IJ.out
      have BL := Lib.hid bel
      clear both bel
      rcases hcase with hx | ⟨hx1, hx2⟩
      all_goals
        go_wp2_with fail
        refine (awake_any _ (HE.out.below BL.out)).mono ?_; rintro e w7 ⟨rfl, b7⟩
        have B7 := Lib.hid (bthen4 BL.out b7)
        clear b7
        go_wp2
        go_ret
        exact ⟨rfl, B7.out⟩

theorem reads_law (w : World) (A : Option Addr) (n c : Nat) (xs : List UInt8) (hc : n ≤ c) (hm : c ≤ maxLen) (ho : Oct w A n xs) (D : Option Addr) (n2 c2 : Nat) (L : Nat → ActV) (hc2 : n2 ≤ c2) (hm2 : c2 ≤ maxLen) (ha : Acts w D n2 L) (he : Env w) :
    Calls Tryd.prog 4 #[.slice A n c, .slice D n2 c2] w fun e w' => e = .returned (.bool true) ∧ Below w.heap.size w w' := reads_walk A n c xs D n2 c2 L w hc ho ha he
end Go.Proofs.YtkbnmgaelcajlaaDoor.W
