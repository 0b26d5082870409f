/-
  What is told of a pair. No conditions.
-/
import Derived.Test.YtgdgehfapfgdfaaGreatDoorKGo
import Derived.Deep.RegionHeld
import Derived.Deep.DrawnRows
namespace Go.Proofs.YtgdgehfapfgdfaaGreatDoor.Tb
open Go.RowKit Oc Dm W Dw Sr Gt
set_option linter.unusedVariables false
set_option maxRecDepth 100000
attribute [local go_sem ↓] Go.wp_at_zero Go.wp_at_succ
theorem hits_succ (l : List Int) (j : Nat) : (hits l (j + 1)).length = (hits l j).length + if hit l j = true then 1 else 0 := by
  unfold hits
  rw [List.range_succ, List.filter_append, List.length_append]
  congr 1
  by_cases h : hit l j = true
  · simp [h]
  · simp [h]
theorem hits_le (l : List Int) (j : Nat) : (hits l j).length ≤ j := by
  unfold hits
  have := List.length_filter_le (hit l) (List.range j)
  rwa [List.length_range] at this
section
variable {w0 w w' w1 : World} {P n N pw D q E ne np ga k c : Nat} {p : Pn.Pl} {T U A : Option Addr} {F G H1 H2 Z1 : Nat → Prop} {m1 m2 : Vs} {t : Option (List Gp)} {L : List Gp} {ls : List Int}
set_option maxHeartbeats 4000000 in
theorem told_none (h : Pr w0 P p n N pw D q E T U F G H1 H2 m1 m2 none none w) (hh : PHead w P p pw D q E T U) (z : Int) (A : Option Addr) (k c : Nat) :
    Calls Tryz.prog 10 #[.pointer (some ⟨P, 0, none⟩), .int .i64 z, .slice A k c] w fun e w' => e = .returned (.bool true) ∧ w = w' := by
  have eT : T = none := h.tb1
  have eU : U = none := h.tb2
  subst eT eU
  obtain ⟨c26, c27, c28, c29, c30, c31, cf⟩ := phead_all hh
  clear h hh
  go_enter Tryz.func10, Tryz.ntmps10
  go_wp2_with fail
  refine (get_nil w z).mono ?_; rintro e w' ⟨rfl, rfl⟩
  go_wp2_with fail
  refine (all_nil w).mono ?_; rintro e w' ⟨rfl, rfl⟩
  go_wp2_with fail
  refine (pages_nil w _).mono ?_; rintro e w' ⟨rfl, rfl⟩
  go_wp2
  go_ret
  exact ⟨rfl, rfl⟩
/-- what both tables tell of one extent -/
theorem gets_any (hp : Pln p ne np ga n) (hl : L.length = np) (z : Int) : ∃ (v : Nat) (ok : Bool), ∀ (w0 w : World) (P N pw D q E : Nat) (T U : Option Addr) (F G H1 H2 : Nat → Prop) (m1 m2 : Vs), Pr w0 P p n N pw D q E T U F G H1 H2 m1 m2 (some L) (some L) w →
    Calls Tryz.prog 25 #[.pointer T, .int .i64 z] w (fun r w' => r = .returned (.tuple #[.int .u64 (v : Int), .bool ok]) ∧ Below w.heap.size w w') ∧
    Calls Tryz.prog 39 #[.pointer U, .int .i64 z] w (fun r w' => r = .returned (.tuple #[.int .u64 (v : Int), .bool ok]) ∧ w = w') := by
  by_cases hz : 0 ≤ z ∧ z < (ne : Int)
  · obtain ⟨e, rfl⟩ := Int.eq_ofNat_of_zero_le hz.1
    exact ⟨gen L e, true, fun _ _ _ _ _ _ _ _ _ _ _ _ _ _ _ _ h => ⟨h.get_yes hp hl e (by omega), h.rget_yes hp hl e (by omega)⟩⟩
  · exact ⟨0, false, fun _ _ _ _ _ _ _ _ _ _ _ _ _ _ _ _ h => ⟨h.get_no hp z hz, h.rget_no hp z hz⟩⟩
set_option maxHeartbeats 8000000 in
theorem told_some (h : Pr w0 P p n N pw D q E T U F G H1 H2 m1 m2 (some L) (some L) w) (hh : PHead w P p pw D q E T U) (hp : Pln p ne np ga n) (hl : Pages L np) (z : Int) (hf : Fi w A k ls) (hk : k ≤ 100000) :
    Calls Tryz.prog 10 #[.pointer (some ⟨P, 0, none⟩), .int .i64 z, .slice A k c] w fun e w' => e = .returned (.bool true) ∧ Below w.heap.size w w' := by
  have H := Lib.hid h
  have HH := Lib.hid hh
  have HP := Lib.hid hp
  have HL := Lib.hid hl
  have HF := Lib.hid hf
  have hnp : np ≤ 4096 := by have := hp.hn; have := hp.hn2; omega
  have hne : ne ≤ 1000000 := by have := hp.he1; omega
  obtain ⟨gv, gok, gets⟩ := gets_any hp hl.1 z
  have GETS := Lib.hid gets
  obtain ⟨ut, ug, uc, hU, _⟩ := h.tb2
  subst hU
  obtain ⟨c26, c27, c28, c29, c30, c31, cf⟩ := phead_all hh
  clear h hh hp hl hf gets
  go_enter Tryz.func10, Tryz.ntmps10
  go_wp2_with fail
  refine (GETS.out _ _ _ _ _ _ _ _ _ _ _ _ _ _ _ _ H.out).1.mono ?_; rintro e w1 ⟨rfl, b1⟩
  have B1 := Lib.hid b1
  have PR1 := Lib.hid (H.out.below b1)
  have PH1 := Lib.hid (HH.out.below b1)
  clear b1 c26 c27 c28 c29 c30 c31 cf
  obtain ⟨c26, c27, c28, c29, c30, c31, cf⟩ := phead_all PH1.out
  go_wp2_with fail
  refine (GETS.out _ _ _ _ _ _ _ _ _ _ _ _ _ _ _ _ PR1.out).2.mono ?_; rintro e w' ⟨rfl, rfl⟩
  go_wp2_with fail
  refine (PR1.out.rnext HP.out HL.out (HF.out.below B1.out) (by omega)).mono ?_; rintro e w2 ⟨g1, c1, g2, rfl, o2, b2⟩
  have B2 := Lib.hid (bthen B1.out b2)
  have O2 := Lib.hid o2
  have PR2 := Lib.hid (PR1.out.below b2)
  have PH2 := Lib.hid (PH1.out.below b2)
  clear b2 o2 c26 c27 c28 c29 c30 c31 cf B1
  have HC := Lib.hid (hits_succ (inside ls ne))
  have HB := Lib.hid (hits_le (inside ls ne))
  have FL : Hid (∀ j, j < np → w2.cell? ⟨g2, j, none⟩ = some (.bool (hit (inside ls ne) j))) := fun j hj => (O2.out.cell (flags_len _ _) (flags_at hj)).1
  clear O2
  go_wp2
  go_loopw [13, 14] (fun s c wr => ∃ j : Nat, j ≤ np ∧ c = .int .i64 (j : Int) ∧ s = .int .i64 ((hits (inside ls ne) j).length : Int) ∧ wr = w2) (fun _ c _ => np - (intOf c).toNat)
  case atStart => exact ⟨0, Nat.zero_le _, rfl, rfl, rfl⟩
  case round =>
    obtain ⟨j, hj, rfl, rfl, rfl⟩ := hrel
    by_cases hlt : j < np
    · have hlt2 : (j : Int) < (np : Int) := by omega
      have cj := FL.out j hlt
      have HS := Lib.hid (HC.out j)
      have hb := HB.out j
      by_cases hh : hit (inside ls ne) j = true
      · rw [hh] at cj
        rw [if_pos hh] at HS
        generalize (hits (inside ls ne) j).length = s at HS hb
        go_wp2
        go_roundw
        case rel => exact ⟨j + 1, by omega, by go_num, by rw [HS.out]; go_num, trivial⟩
        case measure => simp [intOf]; omega
      · have hh2 : hit (inside ls ne) j = false := by simpa using hh
        rw [hh2] at cj
        rw [if_neg hh] at HS
        generalize (hits (inside ls ne) j).length = s at HS hb
        go_wp2
        go_roundw
        case rel => exact ⟨j + 1, by omega, by go_num, by rw [HS.out]; rfl, trivial⟩
        case measure => simp [intOf]; omega
    · have hjn : j = np := by omega
      subst hjn
      have hlt2 : ¬ (j : Int) < (j : Int) := by omega
      clear FL HC
      have HPG : Hid (∃ pg, (hits (inside ls ne) j).length = pg) := ⟨_, rfl⟩
      obtain ⟨pg, hpg⟩ := HPG.out
      have KP : Hid (∀ y, Below wr.heap.size wr y → Calls Tryz.prog 26 #[.pointer T, .slice A k c] y fun e y' => e = .returned (.int .i64 (pg : Int)) ∧ Below y.heap.size y y') := fun y hy => by
        have := (PR2.out.below hy).pages HP.out (c := c) (HF.out.below (bthen B2.out hy)) (by omega)
        rwa [hpg] at this
      have KA : Hid (∀ y, Below wr.heap.size wr y → Calls Tryz.prog 13 #[.pointer T] y fun e y' => ∃ g', e = .returned (.slice (some ⟨g', 0, none⟩) ne ne) ∧ Rw.Sl y' (some ⟨g', 0, none⟩) ne (((List.range ne).map fun e => (gen L e : Int)).map (Value.int .u64)) ∧ Below y.heap.size y y') := fun y hy =>
        ((PR2.out.below hy).all HP.out HL.out.1).mono fun e y' ⟨g', e1, e2, e3⟩ => by
          obtain ⟨A', c', hv, _, _, hs⟩ := e2.form (gensV_len L ne)
          injection hv with h1 h2 h3
          subst h1
          rw [gensV_eq] at hs
          exact ⟨g', e1, hs, e3⟩
      have KU : Hid (∀ y, Below wr.heap.size wr y → Calls Tryz.prog 42 #[.pointer (some ⟨ut, 0, none⟩)] y fun e y' => ∃ A' c', e = .returned (.slice A' ne c') ∧ Rw.Sl y' A' ne (((List.range ne).map fun e => (gen L e : Int)).map (Value.int .u64)) ∧ Below y.heap.size y y') := fun y hy =>
        ((PR2.out.below hy).rall HP.out HL.out.1).mono fun e y' ⟨v, e1, e2, e3⟩ => by
          obtain ⟨A', c', hv, _, _, hs⟩ := e2.form (gensV_len L ne)
          subst hv
          rw [gensV_eq] at hs
          exact ⟨A', c', e1, hs, e3⟩
      rw [hpg]
      clear hpg HPG
      obtain ⟨c26, c27, c28, c29, c30, c31, cf⟩ := phead_all PH2.out
      go_wp2_with fail
      go_region_held (fun x => x.cell? ⟨P, 28, none⟩ = some (.pointer T) ∧ x.cell? ⟨P, 31, none⟩ = some (.pointer (some ⟨ut, 0, none⟩))) (first | go_keep | exact ⟨(phead_all PH6.out).2.2.1, (phead_all PH6.out).2.2.2.2.2.1⟩ | exact ⟨(phead_all PH5.out).2.2.1, (phead_all PH5.out).2.2.2.2.2.1⟩ | exact ⟨(phead_all PH4.out).2.2.1, (phead_all PH4.out).2.2.2.2.2.1⟩ | exact ⟨(phead_all PH3.out).2.2.1, (phead_all PH3.out).2.2.2.2.2.1⟩)
        (first
          | (go_at_call 13; (with_reducible refine (KA.out _ (below_drew1 _)).mono ?_); rintro e w3 ⟨g3, rfl, s3, b3⟩; have B3 : Hid (Below wr.heap.size wr w3) := bthen (below_drew1 _) b3; have S3 := Lib.hid s3; have PH3 := Lib.hid (PH2.out.below B3.out); clear b3 s3)
          | (go_at_call 42; (with_reducible refine (KU.out _ B3.out).mono ?_); rintro e w4 ⟨A4, c4, rfl, s4, b4⟩; have B4 := Lib.hid (bthen B3.out b4); have S3' := Lib.hid (S3.out.below b4); have S4 := Lib.hid s4; have PH4 := Lib.hid (PH2.out.below B4.out); clear b4 s4)
          | (go_at_call 41; (with_reducible refine (rsame_any S3'.out S4.out hne).mono ?_); rintro e w5 ⟨rfl, b5⟩; have B5 := Lib.hid (bthen B4.out b5); have PH5 := Lib.hid (PH2.out.below B5.out); clear b5)
          | (go_at_call 26; (with_reducible refine (KP.out _ B5.out).mono ?_); rintro e w6 ⟨rfl, b6⟩; have B6 := Lib.hid (bthen B5.out b6); have PH6 := Lib.hid (PH2.out.below B6.out); clear b6))
      all_goals go_wp2
      all_goals (go_ret; exact ⟨rfl, bthen B2.out B6.out⟩)
end
end Go.Proofs.YtgdgehfapfgdfaaGreatDoor.Tb
