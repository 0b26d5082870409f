/-
  The walk of the statement that what is put is read. No conditions.
-/
import Derived.Test.YtkbnmgaelcajlaaDoorOctActs
import Derived.Deep.RegionHeld3
namespace Go.Proofs.YtkbnmgaelcajlaaDoor.W
open Go.RowKit Oc
set_option linter.unusedVariables false

/-- what the first k acts put -/
def allPut (L : Nat → ActV) : Nat → List UInt8
  | 0 => []
  | k + 1 => allPut L k ++ putOf (L k).num (L k).width
/-- what d acts put, from the j-th on -/
def recPut (L : Nat → ActV) (j : Nat) : Nat → List UInt8
  | 0 => []
  | d + 1 => putOf (L j).num (L j).width ++ recPut L (j + 1) d
theorem allPut_rec (L : Nat → ActV) (d : Nat) : ∀ j, allPut L (j + d) = allPut L j ++ recPut L j d := by
  induction d with
  | zero => intro j; simp [recPut]
  | succ d ih =>
    intro j
    have := ih (j + 1)
    rw [show j + 1 + d = j + (d + 1) by omega] at this
    rw [this, allPut, recPut, List.append_assoc]
theorem allPut_zero (L : Nat → ActV) (k : Nat) : allPut L k = recPut L 0 k := by
  have := allPut_rec L k 0
  rw [Nat.zero_add] at this
  rw [this]; rfl
theorem allPut_length (L : Nat → ActV) (k : Nat) : (allPut L k).length ≤ 8 * k := by
  induction k with
  | zero => simp [allPut]
  | succ k ih =>
    have := putOf_length (L k).num (L k).width
    rw [allPut, List.length_append]
    omega
theorem bthen4 {w a b : World} (h : Below w.heap.size w a) (k : Below a.heap.size a b) : Below w.heap.size w b := h.trans (k.mono h.size)

theorem Acts.here {w : World} {b off n : Nat} {L : Nat → ActV} {i : Nat} (h : Acts w (some ⟨b, off, none⟩) n L) (hi : i < n) : ActAt w b (off + i * 4) (L i) := by
  obtain ⟨b', off', e, h'⟩ := h i hi
  injection e with e
  injection e with e1 e2
  subst e1 e2
  exact h'
/-- an act's width and number -/
theorem act_two {w : World} {b p : Nat} {a : ActV} {g : Int} {N : Nat} (h : ActAt w b p a) (eg : a.width = g) (eN : a.num = N) : w.cell? ⟨b, p + 1, none⟩ = some (.int .i64 g) ∧ w.cell? ⟨b, p + 3, none⟩ = some (.int .u64 (N : Int)) := by
  subst eg eN; exact ⟨h.2.1, h.2.2.2.1⟩
theorem rec_none {L : Nat → ActV} {j d : Nat} {g : Int} {N : Nat} (eg : (L j).width = g) (eN : (L j).num = N) (h : ¬ (1 ≤ g ∧ g ≤ 8)) : recPut L j (d + 1) = recPut L (j + 1) d := by
  rw [recPut, eg, eN, putOf_no h, List.nil_append]
theorem rec_some {L : Nat → ActV} {j d : Nat} {N k : Nat} (eg : (L j).width = (k : Int)) (eN : (L j).num = N) (h : 1 ≤ k ∧ k ≤ 8) : recPut L j (d + 1) = octs N k ++ recPut L (j + 1) d := by
  rw [recPut, eg, eN, putOf_yes (by omega), Int.toNat_natCast]
theorem rec_length (L : Nat → ActV) (d : Nat) : ∀ j, (recPut L j d).length ≤ 8 * d := by
  induction d with
  | zero => intro j; simp [recPut]
  | succ d ih =>
    intro j
    have := putOf_length (L j).num (L j).width
    have := ih (j + 1)
    rw [recPut, List.length_append]
    omega

set_option maxRecDepth 100000 in
set_option maxHeartbeats 4000000 in
theorem back_walk (A : Option Addr) (n c : Nat) (L : Nat → ActV) (w : World) (ha : Acts w A n L) (he : Env w) :
    Calls Tryd.prog 5 #[.slice A n c] w fun e w' => e = .returned (.bool true) ∧ Below w.heap.size w w' := by
  obtain ⟨K, hK⟩ : ∃ K, K = min n 40 := ⟨_, rfl⟩
  have hK1 : K ≤ n := by omega
  have hK2 : K ≤ 40 := by omega
  have HK := Lib.hid hK
  have HA := Lib.hid ha
  have HE := Lib.hid he
  clear hK ha he
  go_enter Tryd.func5, Tryd.ntmps5
  go_wp2
  go_loopw [3, 4] (fun v q wr => ∃ (j : Nat) (B : Option Addr) (k d : Nat), j ≤ K ∧ q = .int .i64 j ∧ v = .slice B k d ∧ Hid (Oct wr B k (allPut L j)) ∧ Hid (Below w.heap.size w wr)) (fun _ q _ => n - (intOf q).toNat)
  case atStart => exact ⟨0, none, 0, 0, by omega, rfl, rfl, Oct.nil _ _, Below.refl _ _⟩
  case round =>
    obtain ⟨j, B, k, d, hj, rfl, rfl, OJ, BJ⟩ := hrel
    by_cases hlt : j < K
    · have hjn : j < n := by omega
      have hj40 : j < 40 := by omega
      obtain ⟨b, off, rfl, h0, h1, h2, h3, h4⟩ := (HA.out.below BJ.out) j hjn
      have hkl : k ≤ 320 := by have := allPut_length L j; rw [OJ.out.len] at this; omega
      obtain ⟨N, eN⟩ : ∃ N, (L j).num = N := ⟨_, rfl⟩
      obtain ⟨g, eg⟩ : ∃ g, (L j).width = g := ⟨_, rfl⟩
      rw [eN] at h3 h4
      rw [eg] at h1
      have E1 := Lib.hid eN
      have E2 := Lib.hid eg
      have H4 := Lib.hid h4
      clear h0 h2 h4 eN eg
      have hi0 : (0 : Int) ≤ (j : Int) := by omega
      have hi1 : (j : Int) < (n : Int) := by omega
      go_wp2
      obtain ⟨n1, en1⟩ : ∃ n1, (allPut L j ++ putOf N g).length = n1 := ⟨_, rfl⟩
      have EN1 := Lib.hid en1
      clear en1
      go_region_held3 (fun w' => w'.cell? ⟨b, off + j * 4 + 1, none⟩ = some (.int .i64 g) ∧ w'.cell? ⟨b, off + j * 4 + 3, none⟩ = some (.int .u64 (N : Int)))
        (first | go_keep | exact act_two ((HA.out.below BW.out).here hjn) E2.out E1.out)
        (first | (go_at_call 11; (with_reducible refine (put_any _ _ _ _ N _ _ (by omega) OJ.out.drew H4.out).mono ?_); rintro e w1 ⟨v1, rfl, o1, b1⟩; obtain ⟨A1, c1, rfl, l1, s1⟩ := o1.form EN1.out; have BW : Hid (Below w.heap.size w w1) := bthen4 BJ.out (below_of_drew b1); have S1 := Lib.hid s1; clear o1 b1 s1))
      go_wp2
      go_roundw
      case rel => exact ⟨j + 1, A1, n1, c1, by omega, by go_num, rfl, by show Oct _ _ _ _; rw [allPut, E1.out, E2.out]; exact S1.out, BW⟩
      case measure => simp [intOf]; omega
    · have ej : j = K := by omega
      subst ej
      have hkl : k ≤ 320 := by have := allPut_length L j; rw [OJ.out.len] at this; omega
      have hcase : (n ≤ j) ∨ (j < n ∧ 40 ≤ j) := by have := HK.out; omega
      have hout : ∀ i, ¬ i < j → i < n → i < 40 → False := by have := HK.out; omega
      have HOUT := Lib.hid hout
      clear hout
      rcases hcase with hx | ⟨hx1, hx2⟩
      all_goals
        go_wp2_with fail
        refine (read_any _ _ _ _ _ (by omega) OJ.out).mono ?_; rintro e w2 ⟨R, rfl, hR, r2, b2⟩
        have B2 : Hid (Below w.heap.size w w2) := bthen4 BJ.out b2
        have HR : Hid (w.heap.size ≤ R) := Nat.le_trans BJ.out.size hR
        have R2 : Hid (Rd w2 52 R (recPut L 0 j) true) := by rw [← allPut_zero]; exact r2
        clear hR r2 b2
        go_wp2
        go_loopw [6] (fun q wr => ∃ (i d : Nat), i + d = j ∧ q = .int .i64 i ∧ Hid (Rd wr 52 R (recPut L i d) true) ∧ Hid (Below w.heap.size w wr)) (fun q _ => j - (intOf q).toNat)
        case atStart => exact ⟨0, j, by omega, rfl, R2, B2⟩
        case round =>
          obtain ⟨i, d, hid, rfl, RI, BI⟩ := hrel
          rcases d with _ | d
          · have e1 : i = j := by omega
            subst e1
            clear hid
            go_wp2_with fail
            refine (done_all RI.out).mono ?_; rintro e w' ⟨rfl, rfl⟩
            go_wp2_with fail
            refine (awake_any _ (HE.out.below BI.out)).mono ?_; rintro e w7 ⟨rfl, b7⟩
            have B7 := Lib.hid (bthen4 BI.out b7)
            clear b7
            go_wp2
            go_ret
            exact ⟨rfl, B7.out⟩
          · have hin : i < n := by omega
            have hi40 : i < 40 := by omega
            obtain ⟨b, off, rfl, h0, h1, h2, h3, h4⟩ := (HA.out.below BI.out) i hin
            obtain ⟨N, eN⟩ : ∃ N, (L i).num = N := ⟨_, rfl⟩
            obtain ⟨g, eg⟩ : ∃ g, (L i).width = g := ⟨_, rfl⟩
            rw [eN] at h3 h4
            rw [eg] at h1
            have E1 := Lib.hid eN
            have E2 := Lib.hid eg
            have H4 := Lib.hid h4
            have HID := Lib.hid hid
            have hlen : Hid ((recPut L i (d + 1)).length ≤ 320) := by have := rec_length L (d + 1) i; show _ ≤ _; omega
            have hi0 : (0 : Int) ≤ (i : Int) := by omega
            have hi1 : (i : Int) < (n : Int) := by omega
            clear h0 h2 h4 eN eg hid
            by_cases hg1 : 1 ≤ g
            · by_cases hg8 : g ≤ 8
              · obtain ⟨k8, ek8⟩ : ∃ k8 : Nat, g = (k8 : Int) := ⟨g.toNat, by omega⟩
                subst ek8
                have hk1 : 1 ≤ k8 := by omega
                have hk8 : k8 ≤ 8 := by omega
                have RS := Lib.hid (rec_some (d := d) E2.out E1.out ⟨hk1, hk8⟩)
                obtain ⟨u, eu⟩ : ∃ u, num (octs N k8) = u := ⟨_, rfl⟩
                have EU := Lib.hid eu
                have ht : Hid (num ((recPut L i (d + 1)).take k8) = u) := by show _ = _; rw [RS.out, List.take_left' (octs_length N k8)]; exact EU.out
                have hdr : Hid ((recPut L i (d + 1)).drop k8 = recPut L (i + 1) d) := by show _ = _; rw [RS.out, List.drop_left' (octs_length N k8)]
                have hkl2 : Hid (k8 ≤ (recPut L i (d + 1)).length) := by show _ ≤ _; rw [RS.out, List.length_append, octs_length]; omega
                clear eu
                go_wp2
                go_region_held3 (fun w' => w'.cell? ⟨b, off + i * 4 + 1, none⟩ = some (.int .i64 (k8 : Int)) ∧ w'.cell? ⟨b, off + i * 4 + 3, none⟩ = some (.int .u64 (N : Int)))
                  (first | go_keep | exact act_two ((HA.out.below BW2.out).here hin) E2.out E1.out | exact act_two ((HA.out.below BW1.out).here hin) E2.out E1.out)
                  (first
                    | (go_at_call 16; (with_reducible refine (u_take k8 (RI.out.below (Below.refl _ _).drew) (Nat.le_trans hlen.out (by omega)) hk1 hk8 hkl2.out u ht.out).mono ?_); rintro e w1 ⟨rfl, r1, g1⟩; have BW1 : Hid (Below w.heap.size w w1) := BI.out.trans (below_of_drew (below_of_grown g1 BI.out.size HR.out)); have R1 := Lib.hid r1; clear r1 g1)
                    | (go_at_call 13; (with_reducible refine (num_yes N k8 _ H4.out hk8).mono ?_); rintro e w3 ⟨v3, rfl, o3, b3⟩; obtain ⟨A3, c3, rfl, l3, s3⟩ := o3.form (octs_length N k8); have BW2 : Hid (Below w.heap.size w w3) := bthen4 BW1.out b3; have R3 := Lib.hid (R1.out.below b3); have S3 := Lib.hid s3; clear o3 b3 s3 l3)
                    | (go_at_call 23; (with_reducible refine (of_any _ _ _ _ _ hk8 S3.out u EU.out).mono ?_); rintro e w4 ⟨rfl, rfl⟩))
                go_wp2
                go_roundw
                case rel => exact ⟨i + 1, d, by have := HID.out; omega, by go_num, by rw [← hdr.out]; exact R3, BW2⟩
                case measure => have := HID.out; simp [intOf]; omega
              · have hd8 : decide (g ≤ 8) = false := by simpa using hg8
                have RI' : Hid (Rd wr 52 R (recPut L (i + 1) d) true) := by have := RI.out; rw [rec_none E2.out E1.out (by omega)] at this; exact this
                go_wp2
                go_quiet (fail)
                go_wp2
                go_roundw
                case rel => exact ⟨i + 1, d, by have := HID.out; omega, by go_num, RI'.out.below (below_drewN (Below.refl _ _) _), below_drewN BI.out _⟩
                case measure => have := HID.out; simp [intOf]; omega
            · have hd1 : decide (1 ≤ g) = false := by simpa using hg1
              have RI' : Hid (Rd wr 52 R (recPut L (i + 1) d) true) := by have := RI.out; rw [rec_none E2.out E1.out (by omega)] at this; exact this
              go_wp2
              go_quiet (fail)
              go_wp2
              go_roundw
              case rel => exact ⟨i + 1, d, by have := HID.out; omega, by go_num, RI'.out.below (below_drewN (Below.refl _ _) _), below_drewN BI.out _⟩
              case measure => have := HID.out; simp [intOf]; omega

theorem back_law (w : World) (A : Option Addr) (n c : Nat) (L : Nat → ActV) (hc : n ≤ c) (hm : c ≤ maxLen) (ha : Acts w A n L) (he : Env w) :
    Calls Tryd.prog 5 #[.slice A n c] w fun e w' => e = .returned (.bool true) ∧ Below w.heap.size w w' := back_walk A n c L w ha he
end Go.Proofs.YtkbnmgaelcajlaaDoor.W
