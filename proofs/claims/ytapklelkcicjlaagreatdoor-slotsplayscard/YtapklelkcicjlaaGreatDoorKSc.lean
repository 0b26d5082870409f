/-
  Elder texts, one behind the other: SlTell, SlRef, SlRread. No conditions.
-/
import Derived.Test.YtapklelkcicjlaaGreatDoorKSa
import Derived.Test.YtapklelkcicjlaaGreatDoorKHg
import Derived.BigQuiet
import Derived.Deep.RegionHeld
import Derived.Deep.DrawnRows
import Derived.OwnWalk
/-! Fault, Heal, Total, Least, of the program's store. No conditions. -/
namespace Go.Proofs.YtapklelkcicjlaaGreatDoor.Pd.Sl
set_option maxRecDepth 100000
open Go.RowKit Oc Dm W Dw Sr Gt W.Hd
set_option linter.unusedVariables false
set_option maxRecDepth 100000
attribute [local go_sem ↓] Go.wp_at_zero Go.wp_at_succ

/-! plain -/
theorem at0_nat {L : List Slt} {i : Nat} {s : Slt} (h : L[i]? = some s) : at0 L (i : Int) = s := by
  unfold at0
  rw [Int.toNat_natCast, List.getD_eq_getElem?_getD, h]
  rfl
theorem total_take (L : List Slt) : ∀ j, j < L.length → total (L.take (j + 1)) = total (L.take j) + (at0 L (j : Int)).r.toNat := by
  induction L with
  | nil => intro j h; exact absurd h (Nat.not_lt_zero _)
  | cons s L ih =>
    intro j h
    cases j with
    | zero => show s.r.toNat + total (L.take 0) = total [] + _; rw [at0_nat (s := s) rfl]; simp [total]
    | succ j =>
      have hl : j < L.length := by simpa using h
      have e : at0 (s :: L) ((j + 1 : Nat) : Int) = at0 L (j : Int) := by
        unfold at0
        rw [Int.toNat_natCast, Int.toNat_natCast]
        rfl
      rw [e, List.take_succ_cons, List.take_succ_cons]
      show s.r.toNat + total (L.take (j + 1)) = s.r.toNat + total (L.take j) + _
      rw [ih j hl]
      omega
theorem total_le : ∀ (L : List Slt), total L ≤ L.length * 4294967295
  | [] => Nat.le_refl _
  | s :: L => by
    have := total_le L
    have := s.r.toNat_lt
    show s.r.toNat + total L ≤ _
    rw [List.length_cons]
    omega
/-- the first j healed -/
def healed (L : List Slt) (j : Nat) : List Slt := heal (L.take j) ++ L.drop j
theorem healed_zero (L : List Slt) : healed L 0 = L := rfl
theorem healed_all (L : List Slt) : healed L L.length = heal L := by unfold healed; rw [List.take_length, List.drop_length, List.append_nil]
theorem healed_len (L : List Slt) (j : Nat) : (healed L j).length = L.length := by unfold healed heal; rw [List.length_append, List.length_map, List.length_take, List.length_drop]; omega
theorem healed_at {L : List Slt} {j : Nat} {s : Slt} (h : L[j]? = some s) : (healed L j)[j]? = some s := by
  have hl := (List.getElem?_eq_some_iff.1 h).1
  unfold healed heal
  rw [List.getElem?_append_right (by simp; omega)]
  simp
  rw [show j - min j L.length = 0 by omega, Nat.add_zero]
  exact h
theorem healed_step {L : List Slt} {j : Nat} {s : Slt} (h : L[j]? = some s) : (healed L j).set j ⟨0, s.r⟩ = healed L (j + 1) := by
  obtain ⟨hl, hs⟩ := List.getElem?_eq_some_iff.1 h
  unfold healed
  rw [List.set_append_right _ _ (by unfold heal; simp; omega)]
  have e : j - (heal (L.take j)).length = 0 := by unfold heal; simp; omega
  rw [e, List.drop_eq_getElem_cons hl, hs, List.set_cons_zero, List.take_succ_eq_append_getElem hl, hs]
  unfold heal
  rw [List.map_append, List.append_assoc]
  rfl
theorem bads_take {L : List Slt} {j : Nat} {s : Slt} (h : L[j]? = some s) : bads (L.take (j + 1)) = bads (L.take j) + (if isBad s = true then 1 else 0) := by
  obtain ⟨hl, hs⟩ := List.getElem?_eq_some_iff.1 h
  unfold bads
  rw [List.take_succ_eq_append_getElem hl, hs, List.filter_append, List.length_append]
  cases hb : isBad s <;> simp [List.filter, hb]
theorem bads_le (L : List Slt) : bads L ≤ L.length := List.length_filter_le _ _
section
variable {w w' : World} {t g D : Nat} {p : Pn.Pl} {L : List Slt} {A : Option Addr} {l c : Nat} {ls : List Int}
set_option maxHeartbeats 2000000 in
theorem total_any (h : SlAt w t g D p L) : Calls Tryz.prog 37 #[.pointer (some ⟨t, 0, none⟩)] w fun e w' => e = .returned (.int .u64 (total L : Int)) ∧ w = w' := by
  have H := Lib.hid h
  have hmany := h.many
  clear h
  go_enter Tryz.func37, Tryz.ntmps37
  go_wp2_with fail
  refine (len_any H.out).mono ?_; rintro e w' ⟨rfl, rfl⟩
  go_wp2
  go_loopw [3, 7] (fun v z wr => ∃ j : Nat, j ≤ L.length ∧ z = .int .i64 (j : Int) ∧ v = .int .u64 (total (L.take j) : Int) ∧ Hid (w = wr)) (fun _ z _ => L.length - (intOf z).toNat)
  case atStart => exact ⟨0, Nat.zero_le _, rfl, rfl, rfl⟩
  case round =>
    obtain ⟨j, hj, rfl, rfl, hw⟩ := hrel
    obtain rfl := hw.out
    by_cases hlt : j < L.length
    · have hlt2 : (j : Int) < (L.length : Int) := by omega
      have hz : hasZ L (j : Int) := ⟨by omega, by omega⟩
      have HT := Lib.hid (total_take L j hlt)
      have hT : total (L.take (j + 1)) ≤ 1099511627776 := by
        have := total_le (L.take (j + 1))
        rw [List.length_take] at this
        have : min (j + 1) L.length ≤ 256 := by omega
        omega
      have hsum : total (L.take (j + 1)) = total (L.take j) + (at0 L (j : Int)).r.toNat := total_take L j hlt
      generalize htj : total (L.take j) = tj at HT hsum ⊢
      have KW : Hid (Calls Tryz.prog 14 #[.pointer (some ⟨t, 0, none⟩), .int .i64 (j : Int)] w fun e w' => e = .returned (.int .u32 ((at0 L (j : Int)).r.toNat : Int)) ∧ w = w') := wear_yes H.out hz
      have hr := (at0 L (j : Int)).r.toNat_lt
      generalize (at0 L (j : Int)).r.toNat = r at KW HT hsum hr
      have w1 : IntKind.u64.wrap (r : Int) = (r : Int) := IntWalk.u64_in _ ⟨by omega, by omega⟩
      have w2 : IntKind.u64.wrap ((tj : Int) + (r : Int)) = (tj : Int) + (r : Int) := IntWalk.u64_in _ ⟨by omega, by omega⟩
      clear hz htj
      go_wp2_with fail
      refine KW.out.mono ?_; rintro e w' ⟨rfl, rfl⟩
      go_wp2
      go_roundw
      case rel => exact ⟨j + 1, by omega, by go_num, by rw [hsum]; go_num, Lib.hid trivial⟩
      case measure => simp [intOf]; omega
    · have hlt2 : ¬ (j : Int) < (L.length : Int) := by omega
      have hjl : L.take j = L := List.take_of_length_le (by omega)
      have HJ := Lib.hid hjl
      clear hjl
      go_wp2
      go_ret
      rw [HJ.out]
      exact ⟨rfl, rfl⟩
set_option maxHeartbeats 2000000 in
theorem fault_any (h : SlAt w t g D p L) (z : Int) (hsm : ∀ s ∈ L, s.f ≤ 999999) : Calls Tryz.prog 33 #[.pointer (some ⟨t, 0, none⟩), .int .i64 z] w fun e w' => e = .returned (.bool (badZ (fault L z) z)) ∧ SlAt w' t g D p (fault L z) ∧ w.grownBy w' (some g) := by
  have H := Lib.hid h
  by_cases hz : hasZ L z
  · have HZ := Lib.hid hz
    obtain ⟨c0, ⟨cc, c14, hc1, hc2⟩, fr⟩ := h.cells
    obtain ⟨i, rfl, hi, hg⟩ := has_get hz
    obtain ⟨d0, d1, fg⟩ := h.at_ hg
    have HFL : Hid (fault L (i : Int) = L.set i ⟨(at0 L (i : Int)).f + 1, (at0 L (i : Int)).r⟩) := by show _ = _; unfold fault; rw [if_pos hz]; rfl
    have hsf := hsm _ (List.mem_of_getElem? hg)
    generalize at0 L (i : Int) = s at hg d0 d1 HFL hsf
    have hii : (i : Int) < (L.length : Int) := by omega
    obtain ⟨r1, r2⟩ := h.set (s' := ⟨s.f + 1, s.r⟩) hg (j := 0) (by decide) (u := .int .i64 ((s.f : Int) + 1)) rfl rfl (by show s.f + 1 ≤ 1000000; omega)
    have R1 := Lib.hid r1
    have R2 := Lib.hid r2
    have hz2 : hasZ (L.set i ⟨s.f + 1, s.r⟩) (i : Int) := by unfold hasZ; rw [List.length_set]; omega
    have HZ2 := Lib.hid hz2
    clear h hz hg r1 r2 hz2 hsm
    go_enter Tryz.func33, Tryz.ntmps33
    go_wp2_with fail
    refine (has_yes H.out HZ.out).mono ?_; rintro e w' ⟨rfl, rfl⟩
    go_wp2_with fail
    refine (bad_yes R1.out HZ2.out).mono ?_; rintro e w' ⟨rfl, rfl⟩
    clear c0 fr c14 d0 d1 fg
    go_wp2
    go_ret
    rw [HFL.out]
    refine ⟨?_, R1.out, R2.out⟩
    unfold badZ
    rw [if_pos HZ2.out]
    rfl
  · have HZ := Lib.hid hz
    have HFL : Hid (fault L z = L) := by show _ = _; unfold fault; rw [if_neg hz]
    have HB : Hid (badZ L z = false) := by show _ = _; unfold badZ; rw [if_neg hz]
    clear h hz hsm
    go_enter Tryz.func33, Tryz.ntmps33
    go_wp2_with fail
    refine (has_no H.out HZ.out).mono ?_; rintro e w' ⟨rfl, rfl⟩
    go_wp2
    go_ret
    rw [HFL.out, HB.out]
    exact ⟨rfl, H.out, World.grownBy.refl _ _⟩
set_option maxHeartbeats 4000000 in
theorem heal_any (h : SlAt w t g D p L) : Calls Tryz.prog 35 #[.pointer (some ⟨t, 0, none⟩)] w fun e w' => e = .returned (.int .i64 (bads L : Int)) ∧ SlAt w' t g D p (heal L) ∧ w.grownBy w' (some g) := by
  have H := Lib.hid h
  have hmany := h.many
  clear h
  go_enter Tryz.func35, Tryz.ntmps35
  go_wp2_with fail
  refine (len_any H.out).mono ?_; rintro e w' ⟨rfl, rfl⟩
  go_wp2
  go_loopw [3, 7] (fun v z wr => ∃ j : Nat, j ≤ L.length ∧ z = .int .i64 (j : Int) ∧ v = .int .i64 (bads (L.take j) : Int) ∧ Hid (SlAt wr t g D p (healed L j)) ∧ Hid (w.grownBy wr (some g))) (fun _ z _ => L.length - (intOf z).toNat)
  case atStart => exact ⟨0, Nat.zero_le _, rfl, rfl, H, World.grownBy.refl _ _⟩
  case round =>
    obtain ⟨j, hj, rfl, rfl, HJ, GJ⟩ := hrel
    by_cases hlt : j < L.length
    · have hlt2 : (j : Int) < (L.length : Int) := by omega
      obtain ⟨s, hs⟩ : ∃ s, L[j]? = some s := ⟨_, List.getElem?_eq_getElem hlt⟩
      have hsj := healed_at hs
      have hz : hasZ (healed L j) (j : Int) := by unfold hasZ; rw [healed_len]; omega
      have hbt := bads_take hs
      have hble : bads (L.take (j + 1)) ≤ 256 := by
        have := bads_le (L.take (j + 1))
        rw [List.length_take] at this
        omega
      obtain ⟨c0, ⟨cc, c14, hc1, hc2⟩, fr⟩ := HJ.out.cells
      obtain ⟨d0, d1, fg⟩ := HJ.out.at_ hsj
      rw [healed_len] at c14 hc1
      obtain ⟨r1, r2⟩ := HJ.out.set (s' := ⟨0, s.r⟩) hsj (j := 0) (by decide) (u := .int .i64 0) rfl rfl (by show 0 ≤ 1000000; omega)
      rw [healed_step hs] at r1
      have R1 := Lib.hid r1
      have R2 := Lib.hid (GJ.out.trans r2)
      have KB : Hid (Calls Tryz.prog 34 #[.pointer (some ⟨t, 0, none⟩), .int .i64 (j : Int)] wr fun e w' => e = .returned (.bool (isBad s)) ∧ wr = w') := (bad_yes HJ.out hz).mono fun e w' ⟨e1, e2⟩ => ⟨by rw [e1, at0_nat hsj], e2⟩
      cases hb : isBad s
      all_goals
        rw [hb] at KB hbt
        first | rw [if_pos rfl] at hbt | rw [if_neg (by decide)] at hbt
        have hbt2 := Lib.hid hbt
        generalize bads (L.take j) = tj at hbt hbt2 ⊢
        clear hs hsj hz r1 r2 hb
        go_wp2_with fail
        refine KB.out.mono ?_; rintro e w' ⟨rfl, rfl⟩
        go_wp2
        go_roundw
        case rel => exact ⟨j + 1, by omega, by go_num, by rw [hbt2.out]; first | rfl | go_num, R1, R2⟩
        case measure => simp [intOf]; omega
    · have hlt2 : ¬ (j : Int) < (L.length : Int) := by omega
      have hjl : j = L.length := by omega
      have HJ2 := Lib.hid hjl
      clear hjl
      go_wp2
      go_ret
      have hh := HJ.out
      rw [HJ2.out, healed_all] at hh
      rw [HJ2.out, List.take_length]
      exact ⟨rfl, hh, GJ.out⟩
theorem least_step {L : List Slt} {ls : List Int} {j : Nat} {x : Int} (h : ls[j]? = some x) (o : Option Int) : least L (ls.drop j) o = least L (ls.drop (j + 1)) (if hasZ L x ∧ isBad (at0 L x) = false ∧ (∀ y, o = some y → (at0 L x).r.toNat < (at0 L y).r.toNat) then some x else o) := by
  obtain ⟨hl, hs⟩ := List.getElem?_eq_some_iff.1 h
  rw [List.drop_eq_getElem_cons hl, hs]
  rfl
set_option maxHeartbeats 4000000 in
theorem least_any (h : SlAt w t g D p L) (hf : Fi w A l ls) (hlc : l ≤ 1000000) : Calls Tryz.prog 31 #[.pointer (some ⟨t, 0, none⟩), .slice A l c] w fun e w' => e = .returned (.tuple #[.int .i64 ((least L ls none).getD 0), .bool (least L ls none).isSome]) ∧ w = w' := by
  have H := Lib.hid h
  have HF := Lib.hid hf
  have hfl := hf.len
  clear h hf
  go_enter Tryz.func31, Tryz.ntmps31
  go_wp2
  go_loopw [6, 7, 12] (fun a b z wr => ∃ (j : Nat) (o : Option Int), j ≤ l ∧ z = .int .i64 (j : Int) ∧ a = .int .i64 (o.getD 0) ∧ b = .bool o.isSome ∧ Hid (least L (ls.drop j) o = least L ls none) ∧ Hid (∀ y, o = some y → hasZ L y) ∧ Hid (w = wr)) (fun _ _ z _ => l - (intOf z).toNat)
  case atStart => exact ⟨0, none, Nat.zero_le _, rfl, rfl, rfl, rfl, Lib.hid (fun y e => by cases e), rfl⟩
  case round =>
    obtain ⟨j, o, hj, rfl, rfl, rfl, HO, HY, hw⟩ := hrel
    obtain rfl := hw.out
    by_cases hlt : j < l
    · have hlt2 : (j : Int) < (l : Int) := by omega
      obtain ⟨x, hx⟩ : ∃ x, ls[j]? = some x := ⟨_, List.getElem?_eq_getElem (by omega)⟩
      obtain ⟨bk, off, rfl, cx⟩ := HF.out.at_ hx
      have ST := Lib.hid (least_step (L := L) hx o)
      rw [HO.out] at ST
      have KH := Lib.hid (has_any H.out x)
      by_cases hz : hasZ L x
      · rw [decide_eq_true hz] at KH
        have KB := Lib.hid (bad_yes H.out hz)
        cases hb : isBad (at0 L x)
        · rw [hb] at KB
          cases o with
          | none =>
            have ST2 : Hid (least L (ls.drop (j + 1)) (some x) = least L ls none) := by
              have e := ST.out
              rw [if_pos ⟨hz, hb, fun y e => by cases e⟩] at e
              exact e.symm
            have HY2 : Hid (∀ y, some x = some y → hasZ L y) := Lib.hid (fun y e => by injection e with e; exact e ▸ hz)
            clear ST hx hz hb HO
            go_wp2_with fail
            refine KH.out.mono ?_; rintro e w' ⟨rfl, rfl⟩
            go_wp2_with fail
            refine KB.out.mono ?_; rintro e w' ⟨rfl, rfl⟩
            go_wp2
            go_roundw
            case rel => exact ⟨j + 1, some x, by omega, by go_num, rfl, rfl, ST2, HY2, Lib.hid trivial⟩
            case measure => simp [intOf]; omega
          | some y =>
            have KX := Lib.hid (wear_yes H.out hz)
            have KY := Lib.hid (wear_yes H.out (HY.out y rfl))
            obtain ⟨rx, hrx⟩ : ∃ rx, (at0 L x).r.toNat = rx := ⟨_, rfl⟩
            obtain ⟨ry, hry⟩ : ∃ ry, (at0 L y).r.toNat = ry := ⟨_, rfl⟩
            rw [hrx] at KX
            rw [hry] at KY
            by_cases hc : rx < ry
            · have ST2 : Hid (least L (ls.drop (j + 1)) (some x) = least L ls none) := by
                have e := ST.out
                rw [if_pos ⟨hz, hb, fun y' e => by injection e with e; subst e; omega⟩] at e
                exact e.symm
              have HY2 : Hid (∀ y, some x = some y → hasZ L y) := Lib.hid (fun y e => by injection e with e; exact e ▸ hz)
              have t1 : ¬ (ry : Int) ≤ (rx : Int) := by omega
              clear ST hx hz hb HO hrx hry
              go_wp2_with fail
              refine KH.out.mono ?_; rintro e w' ⟨rfl, rfl⟩
              go_wp2_with fail
              refine KB.out.mono ?_; rintro e w' ⟨rfl, rfl⟩
              go_wp2_with fail
              refine KX.out.mono ?_; rintro e w' ⟨rfl, rfl⟩
              go_wp2_with fail
              refine KY.out.mono ?_; rintro e w' ⟨rfl, rfl⟩
              go_wp2
              go_roundw
              case rel => exact ⟨j + 1, some x, by omega, by go_num, rfl, rfl, ST2, HY2, Lib.hid trivial⟩
              case measure => simp [intOf]; omega
            · have ST2 : Hid (least L (ls.drop (j + 1)) (some y) = least L ls none) := by
                have e := ST.out
                rw [if_neg (fun q => by have := q.2.2 y rfl; omega)] at e
                exact e.symm
              have t1 : (ry : Int) ≤ (rx : Int) := by omega
              clear ST hx hz hb HO hrx hry
              go_wp2_with fail
              refine KH.out.mono ?_; rintro e w' ⟨rfl, rfl⟩
              go_wp2_with fail
              refine KB.out.mono ?_; rintro e w' ⟨rfl, rfl⟩
              go_wp2_with fail
              refine KX.out.mono ?_; rintro e w' ⟨rfl, rfl⟩
              go_wp2_with fail
              refine KY.out.mono ?_; rintro e w' ⟨rfl, rfl⟩
              go_wp2
              go_roundw
              case rel => exact ⟨j + 1, some y, by omega, by go_num, rfl, rfl, ST2, HY, Lib.hid trivial⟩
              case measure => simp [intOf]; omega
        · rw [hb] at KB
          have ST2 : Hid (least L (ls.drop (j + 1)) o = least L ls none) := by
            have e := ST.out
            rw [if_neg (fun q => by rw [hb] at q; cases q.2.1)] at e
            exact e.symm
          clear ST hx hz hb HO
          go_wp2_with fail
          refine KH.out.mono ?_; rintro e w' ⟨rfl, rfl⟩
          go_wp2_with fail
          refine KB.out.mono ?_; rintro e w' ⟨rfl, rfl⟩
          go_wp2
          go_roundw
          case rel => exact ⟨j + 1, o, by omega, by go_num, rfl, rfl, ST2, HY, Lib.hid trivial⟩
          case measure => simp [intOf]; omega
      · rw [decide_eq_false hz] at KH
        have ST2 : Hid (least L (ls.drop (j + 1)) o = least L ls none) := by
          have e := ST.out
          rw [if_neg (fun q => hz q.1)] at e
          exact e.symm
        clear ST hx hz HO
        go_wp2_with fail
        refine KH.out.mono ?_; rintro e w' ⟨rfl, rfl⟩
        go_wp2
        go_roundw
        case rel => exact ⟨j + 1, o, by omega, by go_num, rfl, rfl, ST2, HY, Lib.hid trivial⟩
        case measure => simp [intOf]; omega
    · have hlt2 : ¬ (j : Int) < (l : Int) := by omega
      have hjl : ls.drop j = [] := List.drop_eq_nil_of_le (by omega)
      have HE : Hid (o = least L ls none) := by
        have e := HO.out
        rw [hjl] at e
        exact e
      clear hjl
      go_wp2
      go_ret2
      rw [← HE.out]
      exact ⟨rfl, rfl⟩
end
end Go.Proofs.YtapklelkcicjlaaGreatDoor.Pd.Sl

/-! The document's store: Has, Bad, head, Free, Fault. No conditions. -/
namespace Go.Proofs.YtapklelkcicjlaaGreatDoor.Pd.Sl
set_option maxRecDepth 100000
open Go.RowKit Oc Dm W Dw Sr Gt W.Hd
set_option linter.unusedVariables false
set_option maxRecDepth 100000
attribute [local go_sem ↓] Go.wp_at_zero Go.wp_at_succ

section
variable {w w' : World} {t a b E la ns n : Nat} {p : Pn.Pl} {L : List Slt}
theorem RsAt.cells (h : RsAt w t a b E p L) (hp : Pln p la ns n) : w.cell? ⟨t, 0, none⟩ = some (.pointer (some ⟨E, 0, none⟩)) ∧ w.cell? ⟨t, 9, none⟩ = some (.int .i64 (la : Int)) ∧ (∃ ca cb, w.cell? ⟨t, 14, none⟩ = some (.slice (some ⟨a, 0, none⟩) L.length ca) ∧ w.cell? ⟨t, 15, none⟩ = some (.slice (some ⟨b, 0, none⟩) L.length cb)) ∧ ∀ j, w.frozen? ⟨t, j, none⟩ = false := by
  obtain ⟨ca, cb, h1, h2, h3⟩ := h.row
  refine ⟨?_, ?_, ⟨ca, cb, ?_, ?_⟩, fun j => frozen_of_row w t j _ _ h1⟩ <;> rw [cell_of_row w t _ _ _ (0, 0) h1]
  · rfl
  · rw [← hp.h8]; rfl
  · rfl
  · rfl
theorem RsAt.at_ (h : RsAt w t a b E p L) {i : Nat} {s : Slt} (hs : L[i]? = some s) : w.cell? ⟨a, i, none⟩ = some (.int .u32 (s.r.toNat : Int)) ∧ w.cell? ⟨b, i, none⟩ = some (.int .i64 (s.f : Int)) ∧ (w.frozen? ⟨a, i, none⟩ = false ∧ w.frozen? ⟨b, i, none⟩ = false) := by
  obtain ⟨ca, cb, h1, h2, h3⟩ := h.row
  have e1 : (L.map wv)[i]? = some (wv s) := by rw [List.getElem?_map, hs]; rfl
  have e2 : (L.map fv)[i]? = some (fv s) := by rw [List.getElem?_map, hs]; rfl
  have k1 := h2.cell (by simp) e1
  have k2 := h3.cell (by simp) e2
  exact ⟨k1.1, k2.1, k1.2, k2.2⟩
theorem rhas_any (h : RsAt w t a b E p L) (hp : Pln p la ns n) (z : Int) : Calls Tryz.prog 89 #[.pointer (some ⟨t, 0, none⟩), .int .i64 z] w fun e w' => e = .returned (.bool (decide (hasZ L z))) ∧ w = w' := by
  obtain ⟨c0, c9, ⟨ca, cb, c14, c15⟩, fr⟩ := h.cells hp
  clear h hp
  by_cases hz : 0 ≤ z
  · go_enter Tryz.func89, Tryz.ntmps89
    go_wp2
    go_ret
    exact ⟨by simp [hz], rfl⟩
  · go_enter Tryz.func89, Tryz.ntmps89
    go_wp2
    go_ret
    exact ⟨by simp; omega, rfl⟩
theorem rhas_yes (h : RsAt w t a b E p L) (hp : Pln p la ns n) {z : Int} (hz : hasZ L z) : Calls Tryz.prog 89 #[.pointer (some ⟨t, 0, none⟩), .int .i64 z] w fun e w' => e = .returned (.bool true) ∧ w = w' :=
  (rhas_any h hp z).mono fun e w' ⟨e1, e2⟩ => ⟨by rw [e1, decide_eq_true hz], e2⟩
theorem rhas_no (h : RsAt w t a b E p L) (hp : Pln p la ns n) {z : Int} (hz : ¬ hasZ L z) : Calls Tryz.prog 89 #[.pointer (some ⟨t, 0, none⟩), .int .i64 z] w fun e w' => e = .returned (.bool false) ∧ w = w' :=
  (rhas_any h hp z).mono fun e w' ⟨e1, e2⟩ => ⟨by rw [e1, decide_eq_false hz], e2⟩
theorem rbad_yes (h : RsAt w t a b E p L) (hp : Pln p la ns n) {z : Int} (hz : hasZ L z) : Calls Tryz.prog 55 #[.pointer (some ⟨t, 0, none⟩), .int .i64 z] w fun e w' => e = .returned (.bool (isBad (at0 L z))) ∧ w = w' := by
  have H := Lib.hid h
  have HP := Lib.hid hp
  have HZ := Lib.hid hz
  obtain ⟨c0, c9, ⟨ca, cb, c14, c15⟩, fr⟩ := h.cells hp
  obtain ⟨i, rfl, hi, hg⟩ := has_get hz
  obtain ⟨d0, d1, fg⟩ := h.at_ hg
  generalize at0 L (i : Int) = s at hg d0 d1 ⊢
  have hii : (i : Int) < (L.length : Int) := by omega
  clear h hz hp
  go_enter Tryz.func55, Tryz.ntmps55
  go_wp2_with fail
  refine (rhas_yes H.out HP.out HZ.out).mono ?_; rintro e w' ⟨rfl, rfl⟩
  go_wp2
  go_ret
  refine ⟨?_, rfl⟩
  unfold isBad
  simp
  omega
theorem rbad_no (h : RsAt w t a b E p L) (hp : Pln p la ns n) {z : Int} (hz : ¬ hasZ L z) : Calls Tryz.prog 55 #[.pointer (some ⟨t, 0, none⟩), .int .i64 z] w fun e w' => e = .returned (.bool false) ∧ w = w' := by
  have H := Lib.hid h
  have HP := Lib.hid hp
  have HZ := Lib.hid hz
  clear h hz hp
  go_enter Tryz.func55, Tryz.ntmps55
  go_wp2_with fail
  refine (rhas_no H.out HP.out HZ.out).mono ?_; rintro e w' ⟨rfl, rfl⟩
  go_wp2
  go_ret
  exact ⟨rfl, rfl⟩
theorem rbad_any (h : RsAt w t a b E p L) (hp : Pln p la ns n) (z : Int) : Calls Tryz.prog 55 #[.pointer (some ⟨t, 0, none⟩), .int .i64 z] w fun e w' => e = .returned (.bool (badZ L z)) ∧ w = w' := by
  unfold badZ
  by_cases hz : hasZ L z
  · rw [if_pos hz]; exact rbad_yes h hp hz
  · rw [if_neg hz]; exact rbad_no h hp hz
/-- one cell of the wear's row stored -/
theorem RsAt.setW (h : RsAt w t a b E p L) {i : Nat} {s : Slt} (hs : L[i]? = some s) (r : UInt32) : RsAt (w.setCell ⟨a, i, none⟩ (.int .u32 (r.toNat : Int))) t a b E p (L.set i ⟨s.f, r⟩) ∧ w.grownBy (w.setCell ⟨a, i, none⟩ (.int .u32 (r.toNat : Int))) (some a) := by
  obtain ⟨ca, cb, h1, h2, h3⟩ := h.row
  have hi := (List.getElem?_eq_some_iff.1 hs).1
  obtain ⟨k1, k2⟩ := h2.set (j := i) (by simp) (.int .u32 (r.toNat : Int))
  refine ⟨⟨⟨ca, cb, ?_, ?_, ?_⟩, h.ne, ?_, ?_, fun x hx => ?_⟩, k2⟩
  · rw [List.length_set, heap_setCell_other _ _ _ _ (fun e => h.ne.1 e.symm)]; exact h1
  · rw [List.length_set]
    have e : (L.map wv).set i (.int .u32 (r.toNat : Int)) = (L.set i ⟨s.f, r⟩).map wv := by rw [List.map_set]; rfl
    rw [← e]
    exact k1
  · rw [List.length_set]
    have e : (L.set i ⟨s.f, r⟩).map fv = L.map fv := by
      rw [List.map_set]
      show (L.map fv).set i (fv s) = _
      obtain ⟨_, hg⟩ := List.getElem?_eq_some_iff.1 hs
      apply List.ext_getElem?
      intro j
      rw [List.getElem?_set]
      split
      · rename_i e
        subst e
        split
        · rw [List.getElem?_map, hs]; rfl
        · rename_i e2; exact absurd (by simpa using hi) e2
      · rfl
    rw [e]
    exact h3.keep (fun g hg => by injection hg with hg; subst hg; exact heap_setCell_other _ _ _ _ (fun e => h.ne.2.2 e.symm))
  · rw [List.length_set]; exact h.pos
  · rw [List.length_set]; exact h.many
  · rcases List.mem_or_eq_of_mem_set hx with hx | hx
    · exact h.small x hx
    · subst hx; exact h.small s (List.mem_of_getElem? hs)
/-- one cell of the faults' row stored -/
theorem RsAt.setF (h : RsAt w t a b E p L) {i : Nat} {s : Slt} (hs : L[i]? = some s) (f : Nat) (hf : f ≤ 1000000) : RsAt (w.setCell ⟨b, i, none⟩ (.int .i64 (f : Int))) t a b E p (L.set i ⟨f, s.r⟩) ∧ w.grownBy (w.setCell ⟨b, i, none⟩ (.int .i64 (f : Int))) (some b) := by
  obtain ⟨ca, cb, h1, h2, h3⟩ := h.row
  have hi := (List.getElem?_eq_some_iff.1 hs).1
  obtain ⟨k1, k2⟩ := h3.set (j := i) (by simp) (.int .i64 (f : Int))
  refine ⟨⟨⟨ca, cb, ?_, ?_, ?_⟩, h.ne, ?_, ?_, fun x hx => ?_⟩, k2⟩
  · rw [List.length_set, heap_setCell_other _ _ _ _ (fun e => h.ne.2.1 e.symm)]; exact h1
  · rw [List.length_set]
    have e : (L.set i ⟨f, s.r⟩).map wv = L.map wv := by
      rw [List.map_set]
      show (L.map wv).set i (wv s) = _
      apply List.ext_getElem?
      intro j
      rw [List.getElem?_set]
      split
      · rename_i e
        subst e
        split
        · rw [List.getElem?_map, hs]; rfl
        · rename_i e2; exact absurd (by simpa using hi) e2
      · rfl
    rw [e]
    exact h2.keep (fun g hg => by injection hg with hg; subst hg; exact heap_setCell_other _ _ _ _ (fun e => h.ne.2.2 e))
  · rw [List.length_set]
    have e : (L.map fv).set i (.int .i64 (f : Int)) = (L.set i ⟨f, s.r⟩).map fv := by rw [List.map_set]; rfl
    rw [← e]
    exact k1
  · rw [List.length_set]; exact h.pos
  · rw [List.length_set]; exact h.many
  · rcases List.mem_or_eq_of_mem_set hx with hx | hx
    · exact h.small x hx
    · subst hx; exact hf
end

/-- A DEVICE OF THE DOCUMENT's AND ITS STORE on the way, from w0 on -/
structure GJ (w0 : World) (G : Nat → Prop) (E q n N : Nat) (m : Vs) (t a b : Nat) (p : Pn.Pl) (L : List Slt) (w : World) : Prop where
  rd : RD w (Ext G w0 w) E q n N m
  sl : RsAt w t a b E p L
  chg : Chg (fun k => Al G q k ∨ k = a) w0 w
  base : (∀ k, Al G q k → k < w0.heap.size) ∧ ¬ G q
  ap : ¬ Al G q t ∧ ¬ Al G q a ∧ ¬ Al G q b
  lt : t < w0.heap.size ∧ a < w0.heap.size ∧ b < w0.heap.size
section
variable {w0 w w' wb : World} {G : Nat → Prop} {E q n N N' t a b : Nat} {m m' : Vs} {p : Pn.Pl} {L L' : List Slt}
theorem GJ.start (h : RD w G E q n N m) (hs : RsAt w t a b E p L) (h1 : ¬ Al G q t) (h2 : ¬ Al G q a) (h3 : ¬ Al G q b) : GJ w G E q n N m t a b p L w :=
  ⟨h.wide (fun _ x => .inl x) (ext_bound (fun k x => h.bound k (.inl x)) (Nat.le_refl _)) (fun x => x.elim h.nq (fun y => by omega)), hs, Chg.refl _ _, ⟨h.bound, h.nq⟩, ⟨h1, h2, h3⟩, hs.lt⟩
theorem GJ.then2 (h : GJ w0 G E q n N m t a b p L w) (hb : Below w.heap.size w wb) (h1 : RD w' (Ext (Ext G w0 w) wb w') E q n N' m') (hc : Chg (Al (Ext G w0 w) q) wb w') : GJ w0 G E q n N' m' t a b p L w' := by
  have z1 := h.chg.size
  have z3 := hb.size
  have z2 := hc.size
  refine ⟨h1.wide (fun k x => x.elim (fun y => y.imp id (fun z => ⟨z.1, Nat.lt_of_lt_of_le z.2 (Nat.le_trans z3 z2)⟩)) (fun y => .inr ⟨Nat.le_trans z1 (Nat.le_trans z3 y.1), y.2⟩)) (ext_bound (fun k x => h.base.1 k (.inl x)) (Nat.le_trans z1 (Nat.le_trans z3 z2))) (fun x => x.elim h.base.2 (fun y => by have := h.base.1 q (.inr rfl); omega)), ?_, ?_, h.base, h.ap, h.lt⟩
  · exact (h.sl.below hb).kept hc (fun x => h.ap.1 (al_ext x h.lt.1)) (fun x => h.ap.2.1 (al_ext x h.lt.2.1)) (fun x => h.ap.2.2 (al_ext x h.lt.2.2))
  · exact (h.chg.trans (Chg.of_below (F := fun k => Al G q k ∨ k = a) hb) (fun _ _ x => x)).trans hc (fun k hk x => .inl (al_ext x hk))
theorem GJ.below (h : GJ w0 G E q n N m t a b p L w) (hb : Below w.heap.size w w') : GJ w0 G E q n N m t a b p L w' :=
  ⟨(h.rd.below hb).wide (fun k x => x.imp id (fun y => ⟨y.1, Nat.lt_of_lt_of_le y.2 hb.size⟩)) (ext_bound (fun k x => h.base.1 k (.inl x)) (Nat.le_trans h.chg.size hb.size)) (fun x => x.elim h.base.2 (fun y => by have := h.base.1 q (.inr rfl); omega)), h.sl.below hb, h.chg.trans (Chg.of_below (F := fun k => Al G q k ∨ k = a) hb) (fun _ _ x => x), h.base, h.ap, h.lt⟩
theorem GJ.more (h : GJ w0 G E q n N m t a b p L w) (hN : N ≤ N') (hb : N' ≤ 1000000) : GJ w0 G E q n N' m t a b p L w := ⟨h.rd.more hN hb, h.sl, h.chg, h.base, h.ap, h.lt⟩
theorem GJ.row (h : GJ w0 G E q n N m t a b p L w) (hs : RsAt w' t a b E p L') (hg : w.grownBy w' (some a)) : GJ w0 G E q n N m t a b p L' w' := by
  have hc : Chg (fun k => k = a) w w' := Chg.of_grown hg (fun k e _ => by injection e with e; exact e.symm)
  refine ⟨?_, hs, h.chg.trans hc (fun k hk x => .inr x), h.base, h.ap, h.lt⟩
  exact (h.rd.kept hc (fun k x e => h.ap.2.1 (e ▸ al_ext x (e ▸ h.lt.2.1)))).wide (fun k x => x.imp id (fun y => ⟨y.1, Nat.lt_of_lt_of_le y.2 hg.size⟩)) (ext_bound (fun k x => h.base.1 k (.inl x)) (Nat.le_trans h.chg.size hg.size)) (fun x => x.elim h.base.2 (fun y => by have := h.base.1 q (.inr rfl); omega))
theorem rflush1 (J : GJ w0 G E q n N m t a b p L w) (hN : N + 1 ≤ 1000000) : Calls Tryz.prog 45 #[.pointer (some ⟨E, 0, none⟩)] w fun e y' => e = .returned (.int .i64 (fl1 m).1) ∧ GJ w0 G E q n (N + 1) (fl1 m).2 t a b p L y' :=
  (J.rd.flush hN).mono fun e y' ⟨e1, e2, e3⟩ => ⟨e1, J.then2 (Below.refl _ _) e2 e3⟩
end
end Go.Proofs.YtapklelkcicjlaaGreatDoor.Pd.Sl

/-! The document's Read. No conditions. -/
namespace Go.Proofs.YtapklelkcicjlaaGreatDoor.Pd.Sl
set_option maxRecDepth 100000
open Go.RowKit Oc Dm W Dw Sr Gt W.Hd
set_option linter.unusedVariables false
set_option maxRecDepth 100000
attribute [local go_sem ↓] Go.wp_at_zero Go.wp_at_succ
section
variable {w w' : World} {G : Nat → Prop} {E q n N t a b la ns i : Nat} {m m1 m2 : Vs} {p : Pn.Pl} {L : List Slt} {v1 v2 : Int} {xs1 xs2 : List UInt8}
theorem RD.read' (h : RD w G E q n N m) (i : Nat) (hi : i < n) (e1 : rd1 m i = (v1, xs1, m1)) : Calls Tryz.prog 94 #[.pointer (some ⟨E, 0, none⟩), .int .i64 (i : Int)] w fun e w' => ∃ B, e = .returned (.tuple #[.string B, .int .i64 v1]) ∧ tx xs1 = .string B ∧ RD w' G E q n N m1 ∧ Chg G w w' := by
  have h0 := h.read i hi
  rw [e1] at h0
  exact h0
/-- what the document's Read hands back -/
def RrTold (w : World) (G : Nat → Prop) (E q n N t a b : Nat) (p : Pn.Pl) (L : List Slt) (R : (List UInt8 × Nat × Int) × Vs) (e : Ending) (w' : World) : Prop :=
  (∃ B, e = .returned (.tuple #[.string B, .int .u64 (R.1.2.1 : Int), .int .i64 R.1.2.2]) ∧ tx R.1.1 = .string B) ∧ RD w' G E q n N R.2 ∧ RsAt w' t a b E p L ∧ Chg G w w'
theorem rtold_nil {R : (List UInt8 × Nat × Int) × Vs} {v : Int} {m' : Vs} (hR : R = (([], 0, v), m')) (hp : RD w' G E q n N m') (hs : RsAt w t a b E p L) (h1 : ¬ G t) (h2 : ¬ G a) (h3 : ¬ G b) (hc : Chg G w w') : RrTold w G E q n N t a b p L R (.returned (.tuple #[.string { data := #[] }, .int .u64 0, .int .i64 v])) w' := by
  subst hR
  exact ⟨⟨_, rfl, rfl⟩, hp, hs.kept hc h1 h2 h3, hc⟩
theorem chg_below2 {F : Nat → Prop} {x y z : World} (h : Chg F x y) (hb : Below y.heap.size y z) : Chg F x z := h.trans (Chg.of_below (F := F) hb) (fun _ _ x => x)
set_option maxHeartbeats 8000000 in
theorem rread_any (h : RD w G E q n N m) (hs : RsAt w t a b E p L) (h1 : ¬ G t) (h2 : ¬ G a) (h3 : ¬ G b) (hp : Pln p la ns n) (hL : L.length = ns) (hst : ∀ i, i < n → (m.S i).stands.length = 64) (z lb : Int) (R : (List UInt8 × Nat × Int) × Vs) (hR : readS la z lb L m = R) :
    Calls Tryz.prog 41 #[.pointer (some ⟨t, 0, none⟩), .int .i64 z, .int .i64 lb] w (RrTold w G E q n N t a b p L R) := by
  have H := Lib.hid h
  have HS := Lib.hid hs
  have H1 := Lib.hid h1
  have H2 := Lib.hid h2
  have H3 := Lib.hid h3
  have HP := Lib.hid hp
  by_cases hz : hasZ L z
  · have HZ := Lib.hid hz
    obtain ⟨i, rfl, hi, hg⟩ := has_get hz
    have HI : Hid (i < ns) := by show _ < _; omega
    have hla : la ≤ 4096 := by have := hp.hn; have := hp.hn2; omega
    have hi2 : i ≤ 256 := by have := hp.hl2; omega
    have hin : la + 2 * i + 1 < n := by have := hp.hn; omega
    obtain ⟨v1, xs1, m1, e1⟩ : ∃ v1 xs1 m1, rd1 m (la + 2 * i) = (v1, xs1, m1) := ⟨_, _, _, rfl⟩
    have L1 : Hid (v1 = 0 → xs1.length = 64) := fun e => by
      have := rd1_len (m := m) (i := la + 2 * i) (hst _ (by omega)) (by rw [e1]; exact e)
      rwa [e1] at this
    have S1 : m1.S = m.S := by have := rd1_S m (la + 2 * i); rw [e1] at this; exact this
    have KR1 : Hid (∀ y, Below w.heap.size w y → Calls Tryz.prog 94 #[.pointer (some ⟨E, 0, none⟩), .int .i64 ((la : Int) + 2 * (i : Int))] y fun e y' => ∃ B, e = .returned (.tuple #[.string B, .int .i64 v1]) ∧ tx xs1 = .string B ∧ RD y' G E q n N m1 ∧ Chg G w y') := fun y hy => by
      have := RD.read' (H.out.below hy) (la + 2 * i) (by omega) e1
      rw [show ((la + 2 * i : Nat) : Int) = (la : Int) + 2 * (i : Int) by omega] at this
      exact this.mono fun e y' ⟨B, k1, k2, k3, k4⟩ => ⟨B, k1, k2, k3, (Chg.of_below (F := G) hy).trans k4 (fun _ _ x => x)⟩
    obtain ⟨v2, xs2, m2, e2⟩ : ∃ v2 xs2 m2, rd1 m1 (la + 2 * i + 1) = (v2, xs2, m2) := ⟨_, _, _, rfl⟩
    have L2 : Hid (v2 = 0 → xs2.length = 64) := fun e => by
      have := rd1_len (m := m1) (i := la + 2 * i + 1) (by rw [S1]; exact hst _ hin) (by rw [e2]; exact e)
      rwa [e2] at this
    have KR2 : Hid (∀ y y2, RD y G E q n N m1 → Below y.heap.size y y2 → Calls Tryz.prog 94 #[.pointer (some ⟨E, 0, none⟩), .int .i64 ((la : Int) + 2 * (i : Int) + 1)] y2 fun e y' => ∃ B, e = .returned (.tuple #[.string B, .int .i64 v2]) ∧ tx xs2 = .string B ∧ RD y' G E q n N m2 ∧ Chg G y y') := fun y y2 hy hb => by
      have := RD.read' (hy.below hb) (la + 2 * i + 1) hin e2
      rw [show ((la + 2 * i + 1 : Nat) : Int) = (la : Int) + 2 * (i : Int) + 1 by omega] at this
      exact this.mono fun e y' ⟨B, k1, k2, k3, k4⟩ => ⟨B, k1, k2, k3, (Chg.of_below (F := G) hb).trans k4 (fun _ _ x => x)⟩
    unfold readS at hR
    rw [if_neg (fun x => x hz)] at hR
    dsimp only at hR
    rw [show ((i : Int)).toNat = i from rfl, e1] at hR
    have SL : Hid (∀ y : World, Chg G w y → y.cell? ⟨t, 0, none⟩ = some (.pointer (some ⟨E, 0, none⟩)) ∧ y.cell? ⟨t, 9, none⟩ = some (.int .i64 (la : Int))) := fun y hy => by
      obtain ⟨k1, k2, _⟩ := (HS.out.kept hy H1.out H2.out H3.out).cells HP.out
      exact ⟨k1, k2⟩
    obtain ⟨c0, c9⟩ := SL.out w (Chg.refl _ _)
    have hw1 : IntKind.i64.wrap (2 * (i : Int)) = 2 * (i : Int) := IntWalk.i64_in _ ⟨by omega, by omega⟩
    have hw2 : IntKind.i64.wrap ((la : Int) + 2 * (i : Int)) = (la : Int) + 2 * (i : Int) := IntWalk.i64_in _ ⟨by omega, by omega⟩
    have hw3 : IntKind.i64.wrap ((la : Int) + 2 * (i : Int) + 1) = (la : Int) + 2 * (i : Int) + 1 := IntWalk.i64_in _ ⟨by omega, by omega⟩
    have HW1 := Lib.hid hw1
    have HW2 := Lib.hid hw2
    have HW3 := Lib.hid hw3
    have HR := Lib.hid hR
    have E2 := Lib.hid e2
    clear h hs h1 h2 h3 hp hL hz hg hR e1 hst S1 e2 hin hw3
    go_enter Tryz.func41, Tryz.ntmps41
    go_wp2_with fail
    refine (rhas_yes HS.out HP.out HZ.out).mono ?_; rintro e w' ⟨rfl, rfl⟩
    go_upto_region 3 with fail
    go_region_held (fun x => x.cell? ⟨t, 0, none⟩ = some (.pointer (some ⟨E, 0, none⟩)) ∧ x.cell? ⟨t, 9, none⟩ = some (.int .i64 (la : Int))) (first | go_keep | exact SL.out _ C1.out)
      (first
        | (go_at_call 94; (with_reducible refine (KR1.out _ (bdrew _)).mono ?_); rintro e w1 ⟨B1, rfl, hB1, r1, g1⟩; have T1 := Lib.hid hB1; have R1 := Lib.hid r1; have C1 := Lib.hid g1; clear hB1 r1 g1))
    all_goals
      clear c0 c9
      obtain ⟨c0, c9⟩ := SL.out _ C1.out
      by_cases hv1 : v1 = 0
      · subst hv1
        have hr1 := HR.out
        rw [if_neg (fun x => x rfl)] at hr1
        rw [E2.out] at hr1
        have HR1 := Lib.hid hr1
        clear hr1
        have hw3 := HW3.out
        go_upto_region 6 with fail
        go_region_held (fun x => x.cell? ⟨t, 0, none⟩ = some (.pointer (some ⟨E, 0, none⟩)) ∧ x.cell? ⟨t, 9, none⟩ = some (.int .i64 (la : Int))) (first | go_keep | exact SL.out _ C2.out)
          (first
            | (go_at_call 94; (with_reducible refine (KR2.out _ _ R1.out (bdrew _)).mono ?_); rintro e w2 ⟨B2, rfl, hB2, r2, g2⟩; have T2 := Lib.hid hB2; have R2 := Lib.hid r2; have C2 := Lib.hid (C1.out.trans g2 (fun _ _ x => x)); clear hB2 r2 g2))
        all_goals
          clear c0 c9 hw1 hw2 hw3
          by_cases hv2 : v2 = 0
          · subst hv2
            have M1 : xs1.length = 64 := by first | exact L1.out rfl | exact L1.out trivial | exact L1.out
            have M2 : xs2.length = 64 := by first | exact L2.out rfl | exact L2.out trivial | exact L2.out
            have HR2 : Hid ((if (hg xs1).2 ≠ 0 then (([], 0, 40), m2) else if mt (hg xs1).1.u (hg xs1).1.l ((hg xs1).1.s.toNat : Int) lb (sum xs2) ≠ 0 then (([], 0, mt (hg xs1).1.u (hg xs1).1.l ((hg xs1).1.s.toNat : Int) lb (sum xs2)), m2) else ((xs2, (hg xs1).1.g, 0), m2)) = R) := by
              have := HR1.out
              rw [if_neg (fun x => x rfl)] at this
              exact this
            have GW := Lib.hid (hg_way xs1)
            obtain ⟨hh, E', hgq⟩ : ∃ hh E', Sl.hg xs1 = (hh, E') := ⟨_, _, rfl⟩
            rw [hgq] at GW HR2
            obtain ⟨cB, w3, hrun, hcB, oB, bB⟩ := bytes_of w2 xs1 B1 T1.out M1
            have OB := Lib.hid oB
            have B3 := Lib.hid bB
            clear oB bB hgq HR1
            go_wp2_with fail
            refine (rhget_any _ 64 cB xs1 hh E' w3 (by omega) hcB OB.out GW.out).mono ?_; rintro e w4 ⟨rfl, b4⟩
            have B4 := Lib.hid (bthen B3.out b4)
            clear b4 hrun
            by_cases hE : E' = 0
            · subst hE
              have MW := Lib.hid (mt_way hh.u hh.l (hh.s.toNat : Int) lb (sum xs2))
              have HR3 := Lib.hid HR2.out
              rw [if_neg (fun x => x rfl)] at HR3
              generalize mt hh.u hh.l (hh.s.toNat : Int) lb (sum xs2) = E3 at MW HR3
              go_upto_region 12 with ((with_reducible apply L_storeRow (N := 5) info_hd); exact rfl; exact rfl; exact heap_alloc_new _ _; exact rfl; exact rfl; (simp [Value.oneCell']); intro w5 h5 g5; have H5 := Lib.hid h5; have B5 : Hid (Below w4.heap.size w4 w5) := (balloc w4 (.cells #[.bool false, .int .i64 0, .int .u64 0, .int .u32 0, .int .u32 0] 32)).grown g5 (by simp) (fun k e => by injection e with e; omega); clear h5 g5)
              obtain ⟨cB2, w6, hrun, hcB2, oB2, bB2⟩ := bytes_of w5 xs2 B2 T2.out M2
              have OB2 := Lib.hid oB2
              have B6 := Lib.hid (bthen (bthen B4.out B5.out) bB2)
              have H6 := Lib.hid (kept_below H5.out bB2)
              clear oB2 bB2
              go_wp2_with ((with_reducible apply L_loadHd); exact rfl; exact H5.out; exact rfl)
              refine (rmatches_any _ 64 cB2 xs2 hh.u hh.l (hh.g : Int) (hh.s.toNat : Int) (hh.r.toNat : Int) lb E3 (sum xs2) w6 (by omega) OB2.out rfl MW.out).mono ?_; rintro e w7 ⟨rfl, b7⟩
              have B7 := Lib.hid (bthen B6.out b7)
              have H7 := Lib.hid (kept_below H6.out b7)
              clear b7 hrun
              by_cases hE3 : E3 = 0
              · subst hE3
                have HR4 := Lib.hid HR3.out
                rw [if_neg (fun x => x rfl)] at HR4
                have x2 : w7.cell? ⟨w4.heap.size, 2, none⟩ = some (.int .u64 (hh.g : Int)) := by rw [cell_of_row _ _ _ _ _ _ H7.out]; rfl
                go_upto_region 15 with fail
                go_quiet (fail)
                go_wp2
                go_ret3
                rw [← HR4.out]
                have bn : Below w2.heap.size w2 (w7.drewN nq) := below_drewN B7.out _
                exact ⟨⟨B2, rfl, T2.out⟩, R2.out.below bn, (HS.out.kept C2.out H1.out H2.out H3.out).below bn, chg_below2 C2.out bn⟩
              · go_wp2
                go_ret3
                exact rtold_nil (by have := HR3.out; rw [if_pos hE3] at this; exact this.symm) (R2.out.below B7.out) HS.out H1.out H2.out H3.out (chg_below2 C2.out B7.out)
            · go_wp2_with ((with_reducible apply L_storeRow (N := 5) info_hd); exact rfl; exact rfl; exact heap_alloc_new _ _; exact rfl; exact rfl; (simp [Value.oneCell']); intro w5 h5 g5; have B5 : Hid (Below w4.heap.size w4 w5) := (balloc w4 (.cells #[.bool false, .int .i64 0, .int .u64 0, .int .u32 0, .int .u32 0] 32)).grown g5 (by simp) (fun k e => by injection e with e; omega); clear h5 g5)
              go_ret3
              have B5' := bthen B4.out B5.out
              exact rtold_nil (by have := HR2.out; rw [if_pos hE] at this; exact this.symm) (R2.out.below B5') HS.out H1.out H2.out H3.out (chg_below2 C2.out B5')
          · go_wp2
            go_ret3
            exact rtold_nil (by have := HR1.out; rw [if_pos hv2] at this; exact this.symm) R2.out HS.out H1.out H2.out H3.out C2.out
      · clear c0 c9 hw1 hw2
        go_wp2
        go_ret3
        exact rtold_nil (by have := HR.out; rw [if_pos hv1] at this; exact this.symm) R1.out HS.out H1.out H2.out H3.out C1.out
  · have HR : Hid (R = (([], 0, 3), m)) := by show _ = _; rw [← hR]; unfold readS; rw [if_pos hz]
    have HZ := Lib.hid hz
    clear h hs h1 h2 h3 hp hL hz hR hst
    go_enter Tryz.func41, Tryz.ntmps41
    go_wp2_with fail
    refine (rhas_no HS.out HP.out HZ.out).mono ?_; rintro e w' ⟨rfl, rfl⟩
    go_wp2
    go_ret3
    exact rtold_nil HR.out H.out HS.out H1.out H2.out H3.out (Chg.refl _ _)
end
end Go.Proofs.YtapklelkcicjlaaGreatDoor.Pd.Sl
