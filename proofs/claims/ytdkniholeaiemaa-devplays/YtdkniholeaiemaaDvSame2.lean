/-
  Both pairs stand alike. No conditions.
-/
import Derived.Test.YtdkniholeaiemaaDvDoKit
import Derived.Deep.RegionHeld
import Derived.Deep.DrawnRows
namespace Go.Proofs.Ytdkniholeaiemaa.W
open Go.RowKit Oc Dm Gt Tn
set_option linter.unusedVariables false
set_option maxRecDepth 100000
attribute [local go_sem ↓] Go.wp_at_zero Go.wp_at_succ
section
variable {o : Nat → Nat} {w : World} {T p q : Nat} {D E ns : Nat → Nat} {N : Nat} {s : PS} {d : Nat → DD}
set_option maxHeartbeats 8000000 in
theorem same_any (h : Mid o w T p q D E ns N s d s d) :
    Calls Try.prog 9 #[.pointer (some ⟨T, 0, none⟩)] w fun e w' => e = .returned (.bool true) ∧ Below w.heap.size w w' := by
  have H := Lib.hid h
  obtain ⟨t0, t3, tk, tf⟩ := h.cells
  obtain ⟨l, hh, hl, q0, q1, q2, q3, qf⟩ := h.qw.cells
  have PD := Lib.hid (fun k => down_any (h.pw.heap (w' := w.drewN k) rfl))
  have PN := Lib.hid (fun k => done_any (h.pw.heap (w' := w.drewN k) rfl))
  have hdn := h.hs
  have hN1 := h.hN
  clear h hh hl
  obtain ⟨so, hso⟩ : ∃ so, s.off = so := ⟨_, rfl⟩
  obtain ⟨sd, hsd⟩ : ∃ sd, s.done = sd := ⟨_, rfl⟩
  rw [hso] at q0 PD
  rw [hsd] at q3 PN hdn
  clear hso hsd
  go_enter Try.func9, Try.ntmps9
  go_wp2_with fail
  go_quiet ((first
    | (go_at_call 20; exact (PD.out _).mono fun _ _ ⟨he, hm⟩ => ⟨he, _, hm.symm⟩)
    | (go_at_call 23; exact (PN.out _).mono fun _ _ ⟨he, hm⟩ => ⟨he, _, hm.symm⟩)))
  have M1 := Lib.hid (H.out.drewN nq)
  have B1 : Hid (Below w.heap.size w (w.drewN nq)) := below_drewN (Below.refl _ _) nq
  generalize w.drewN nq = w1 at M1 B1 ⊢
  clear H t0 t3 tk tf q0 q1 q2 q3 qf PD PN
  go_wp2
  go_loopw [3] (fun q3 wr => ∃ k : Nat, k ≤ 2 ∧ q3 = .int .i64 (k : Int) ∧ Hid (Below w1.heap.size w1 wr)) (fun q3 _ => 2 - (intOf q3).toNat)
  case atStart => exact ⟨0, by omega, rfl, Below.refl _ _⟩
  case round =>
    obtain ⟨k, hk, rfl, BK⟩ := hrel
    by_cases hlt : k < 2
    · have hk2 : (k : Int) < 2 := by omega
      have MK := Lib.hid (M1.out.below BK.out)
      obtain ⟨t0, t3, tk, tf⟩ := MK.out.cells
      obtain ⟨tD, tE⟩ := tk k hlt
      clear tk t0 t3 tf
      go_wp2_with fail
      go_quiet (fail)
      have M2 := Lib.hid (MK.out.drewN nq)
      have B2 : Hid (Below w1.heap.size w1 (wr.drewN nq)) := below_drewN BK.out nq
      generalize wr.drewN nq = w2 at M2 B2 ⊢
      clear MK BK tD tE
      obtain ⟨fx, mm, rr, gg, dv2⟩ := M2.out.dv k hlt
      obtain ⟨gs, vs, rv2⟩ := M2.out.rv k hlt
      have DV2 := Lib.hid dv2
      have RV2 := Lib.hid rv2
      have hn4 := dv2.hn
      obtain ⟨e0, e1, e2, e3, ef⟩ := rv2.cells
      have hL4 := loose_len (ns k) (d k).S
      clear dv2 rv2
      have DD2 : Hid (DvAt w2.drew (fun b => o b = 4 + k) (D k) p (ns k) N (d k).S (d k).rd (d k).wr fx mm rr gg) := DV2.out.frame (fun _ x => x) DV2.out.bound (fun _ _ => rfl)
      have RR2 : Hid (RvAt w2.drew (fun b => o b = 6 + k) (E k) q (ns k) (d k).S (d k).rd (d k).wr gs vs) := RV2.out.frame (fun _ x => x) RV2.out.bound (fun _ _ => rfl)
      obtain ⟨L, hL⟩ : ∃ L, looseOf (ns k) (d k).S = L := ⟨_, rfl⟩
      obtain ⟨nl, hnl⟩ : ∃ nl, L.length = nl := ⟨_, rfl⟩
      rw [hL, hnl] at hL4
      have LA : Hid (∀ w', DvAt w' (fun b => o b = 4 + k) (D k) p (ns k) N (d k).S (d k).rd (d k).wr fx mm rr gg → Calls Try.prog 18 #[.pointer (some ⟨D k, 0, none⟩)] w' fun e w'' => ∃ A c, e = .returned (.slice A nl c) ∧ Lo w'' A nl L ∧ Below w'.heap.size w' w'') := fun w' x => (loose_any x).mono fun e w'' ⟨b, kk, c, h1, h2, h3, h4⟩ => by
        rw [hL] at h2
        have e1 : kk = nl := by rw [← hnl]; exact h2.1.symm
        subst e1
        exact ⟨_, c, h1, h2, h4⟩
      have RA : Hid (∀ w', RvAt w' (fun b => o b = 6 + k) (E k) q (ns k) (d k).S (d k).rd (d k).wr gs vs → Calls Try.prog 14 #[.pointer (some ⟨E k, 0, none⟩)] w' fun e w'' => ∃ A c, e = .returned (.slice A nl c) ∧ Lo w'' A nl L ∧ Below w'.heap.size w' w'') := fun w' x => (rloose_any x).mono fun e w'' ⟨A, c, h1, h2, h3⟩ => by
        rw [hL, hnl] at h1 h2
        exact ⟨A, c, h1, h2, h3⟩
      have hnl4 : nl ≤ 4096 := by omega
      obtain ⟨n, hn⟩ : ∃ n, ns k = n := ⟨_, rfl⟩
      rw [hn] at DV2 RV2 e1 DD2 RR2 LA RA hn4
      have HN := Lib.hid hn
      clear hL hnl hn hL4
      go_wp2_with fail
      go_region_held (fun w' => w'.cell? ⟨E k, 1, none⟩ = some (.slice (some ⟨gs, 0, none⟩) n n)) (first | go_keep | exact RV5.out.cells.2.1 | exact RV4.out.cells.2.1 | exact RV3.out.cells.2.1)
        (first
          | (go_at_call 17; (with_reducible refine (size_any DD2.out).mono ?_); rintro e w' ⟨rfl, rfl⟩)
          | (go_at_call 18; (with_reducible refine (LA.out _ DD2.out).mono ?_); rintro e w3 ⟨A3, c3, rfl, lo3, b3⟩; have LO3 := Lib.hid lo3; have B3 : Hid (Below w2.heap.size w2 w3) := below_of_drew b3; have RV3 := Lib.hid (RV2.out.below B3.out); clear lo3 b3)
          | (go_at_call 14; (with_reducible refine (RA.out _ RV3.out).mono ?_); rintro e w4 ⟨A4, c4, rfl, lo4, b4⟩; have LO4 := Lib.hid lo4; have LO34 := Lib.hid (LO3.out.below b4); have B4 : Hid (Below w2.heap.size w2 w4) := bthen B3.out b4; have RV4 := Lib.hid (RV3.out.below b4); clear lo4 b4)
          | (go_at_call 38; (with_reducible refine (same_lo _ _ _ _ _ _ L hnl4 LO34.out LO4.out).mono ?_); rintro e w5 ⟨rfl, q5, hq5⟩; have B5 : Hid (Below w2.heap.size w2 w5) := (by rw [hq5]; exact below_drewN B4.out q5); have RV5 := Lib.hid (RV2.out.below B5.out); clear hq5))
      all_goals
        have B25 := Lib.hid (bthen B2.out B5.out)
        have DV5 := Lib.hid (DV2.out.kept (G := fun _ => False) (Chg.of_below B5.out) (fun _ _ x => x))
        clear B2 DV2 RV2 DD2 RR2 LA RA e0 e1 e2 e3 ef
        obtain ⟨e0, e1, e2, e3, ef⟩ := RV5.out.cells
        go_wp2
        clear e0 e1 e2 e3 ef
        go_loopw [6] (fun q6 wr => ∃ i : Nat, i ≤ n ∧ q6 = .int .i64 (i : Int) ∧ Hid (Below w5.heap.size w5 wr)) (fun q6 _ => n - (intOf q6).toNat)
        case atStart => exact ⟨0, by omega, rfl, Below.refl _ _⟩
        case round =>
          obtain ⟨i, hi, rfl, BI⟩ := hrel
          have RVI := Lib.hid (RV5.out.below BI.out)
          have DVI := Lib.hid (DV5.out.kept (G := fun _ => False) (Chg.of_below BI.out) (fun _ _ x => x))
          obtain ⟨e0, e1, e2, e3, ef⟩ := RVI.out.cells
          by_cases hil : i < n
          · have hil2 : (i : Int) < (n : Int) := by omega
            go_wp2_with fail
            refine (peek_yes DVI.out i hil).mono ?_; rintro e w6 ⟨b6, rfl, hb6, r6, bb6⟩
            have BB6 := Lib.hid bb6
            have RV6 := Lib.hid (RVI.out.below bb6)
            have DV6 := Lib.hid (DVI.out.kept (G := fun _ => False) (Chg.of_below bb6) (fun _ _ x => x))
            have RD6 : Hid (RvAt w6.drew (fun b => o b = 6 + k) (E k) q n (d k).S (d k).rd (d k).wr gs vs) := RV6.out.frame (fun _ x => x) RV6.out.bound (fun _ _ => rfl)
            have DD6 : Hid (DvAt w6.drew (fun b => o b = 4 + k) (D k) p n N (d k).S (d k).rd (d k).wr fx mm rr gg) := DV6.out.frame (fun _ x => x) DV6.out.bound (fun _ _ => rfl)
            have cv := ((r6.oct (i := 0) (by decide)).drew).conv bt Try.underlying9 64
            obtain ⟨B, hB⟩ : ∃ B, tx ((d k).S i).stands = .string B := ⟨_, rfl⟩
            rw [show Value.string (bstr ((d k).S i).stands) = .string B from hB] at cv
            have RS : Hid (∀ w', RvAt w' (fun b => o b = 6 + k) (E k) q n (d k).S (d k).rd (d k).wr gs vs → Calls Try.prog 39 #[.pointer (some ⟨E k, 0, none⟩), .int .i64 (i : Int)] w' fun e w'' => e = .returned (.string B) ∧ w' = w'') := fun w' x => by
              have := rstands_any x i hil
              rwa [hB] at this
            obtain ⟨rot, hrot⟩ : ∃ rot, ((d k).S i).rotten = rot := ⟨_, rfl⟩
            have RO : Hid (∀ w', DvAt w' (fun b => o b = 4 + k) (D k) p n N (d k).S (d k).rd (d k).wr fx mm rr gg → Calls Try.prog 29 #[.pointer (some ⟨D k, 0, none⟩), .int .i64 (i : Int)] w' fun e w'' => e = .returned (.bool rot) ∧ Below w'.heap.size w' w'') := fun w' x => by
              have := rotten_any x i hil
              rwa [hrot] at this
            have CE : Hid (∀ w', RvAt w' (fun b => o b = 6 + k) (E k) q n (d k).S (d k).rd (d k).wr gs vs → w'.cell? ⟨E k, 1, none⟩ = some (.slice (some ⟨gs, 0, none⟩) n n) ∧ w'.cell? ⟨gs, i * 3 + 2, none⟩ = some (.bool rot)) := fun w' x => ⟨x.cells.2.1, by rw [← hrot]; exact (x.sec hil).2.2.1⟩
            obtain ⟨f1, f2⟩ := CE.out _ RV6.out
            clear r6 bb6 hb6 hB hrot e0 e1 e2 e3 ef
            go_wp2_with fail
            go_region_held (fun w' => w'.cell? ⟨E k, 1, none⟩ = some (.slice (some ⟨gs, 0, none⟩) n n) ∧ w'.cell? ⟨gs, i * 3 + 2, none⟩ = some (.bool rot)) (first | go_keep | exact CE.out _ RV7.out)
              (first
                | (go_at_call 39; (with_reducible refine (RS.out _ RD6.out).mono ?_); rintro e w' ⟨rfl, rfl⟩)
                | (go_at_call 29; (with_reducible refine (RO.out _ DD6.out).mono ?_); rintro e w7 ⟨rfl, b7⟩; have B7 : Hid (Below w6.heap.size w6 w7) := below_of_drew b7; have RV7 := Lib.hid (RV6.out.below B7.out); clear b7))
            all_goals
              go_wp2
              go_roundw
              case rel => exact ⟨i + 1, by omega, by go_num, bthen (bthen BI.out BB6.out) B7.out⟩
              case measure => simp [intOf]; omega
          · have hil2 : ¬ (i : Int) < (n : Int) := by omega
            have B26 := Lib.hid (bthen B25.out BI.out)
            go_wp2
            go_roundw
            case rel => exact ⟨k + 1, by omega, by go_num, B26⟩
            case measure => simp [intOf]; omega
    · have hk3 : ¬ (k : Int) < 2 := by omega
      go_wp2
      go_ret
      exact ⟨rfl, bthen B1.out BK.out⟩
end
end Go.Proofs.Ytdkniholeaiemaa.W
