/-
  open, on a pair. No conditions.
-/
import Derived.Test.YtgdgehfapfgdfaaGreatDoorGbPairOps
import Derived.Deep.RegionHeld
import Derived.Deep.DrawnRows
namespace Go.Proofs.YtgdgehfapfgdfaaGreatDoor.Tb
open Go.RowKit Oc Dm W Dw Sr
set_option linter.unusedVariables false
set_option maxRecDepth 100000
attribute [local go_sem ↓] Go.wp_at_zero Go.wp_at_succ
theorem phead_map {w : World} {P pw D q E : Nat} {p : Pn.Pl} {T U : Option Addr} (h : PHead w P p pw D q E T U) : w.cell? ⟨P, 0, none⟩ = some (.int .i64 p.a0) ∧ w.cell? ⟨P, 1, none⟩ = some (.int .i64 p.a1) ∧ w.cell? ⟨P, 2, none⟩ = some (.int .i64 p.a2) ∧ w.cell? ⟨P, 3, none⟩ = some (.int .i64 p.a3) ∧ w.cell? ⟨P, 4, none⟩ = some (.int .i64 p.a4) ∧ w.cell? ⟨P, 5, none⟩ = some (.int .i64 p.a5) ∧ w.cell? ⟨P, 6, none⟩ = some (.int .i64 p.a6) ∧ w.cell? ⟨P, 7, none⟩ = some (.int .i64 p.a7) ∧ w.cell? ⟨P, 8, none⟩ = some (.int .i64 p.a8) ∧ w.cell? ⟨P, 9, none⟩ = some (.int .i64 p.a9) ∧ w.cell? ⟨P, 10, none⟩ = some (.int .i64 p.a10) ∧ w.cell? ⟨P, 11, none⟩ = some (.int .i64 p.a11) ∧ w.cell? ⟨P, 12, none⟩ = some (.int .i64 p.a12) ∧ w.cell? ⟨P, 27, none⟩ = some (.pointer (some ⟨D, 0, none⟩)) := by
  refine ⟨?_, ?_, ?_, ?_, ?_, ?_, ?_, ?_, ?_, ?_, ?_, ?_, ?_, ?_⟩ <;> rw [(h.cell _).1] <;> rfl
theorem phead_plan {w : World} {P pw D q E : Nat} {p : Pn.Pl} {T U : Option Addr} (h : PHead w P p pw D q E T U) : w.cell? ⟨P, 13, none⟩ = some (.int .i64 p.a0) ∧ w.cell? ⟨P, 14, none⟩ = some (.int .i64 p.a1) ∧ w.cell? ⟨P, 15, none⟩ = some (.int .i64 p.a2) ∧ w.cell? ⟨P, 16, none⟩ = some (.int .i64 p.a3) ∧ w.cell? ⟨P, 17, none⟩ = some (.int .i64 p.a4) ∧ w.cell? ⟨P, 18, none⟩ = some (.int .i64 p.a5) ∧ w.cell? ⟨P, 19, none⟩ = some (.int .i64 p.a6) ∧ w.cell? ⟨P, 20, none⟩ = some (.int .i64 p.a7) ∧ w.cell? ⟨P, 21, none⟩ = some (.int .i64 p.a8) ∧ w.cell? ⟨P, 22, none⟩ = some (.int .i64 p.a9) ∧ w.cell? ⟨P, 23, none⟩ = some (.int .i64 p.a10) ∧ w.cell? ⟨P, 24, none⟩ = some (.int .i64 p.a11) ∧ w.cell? ⟨P, 25, none⟩ = some (.int .i64 p.a12) ∧ w.cell? ⟨P, 30, none⟩ = some (.pointer (some ⟨E, 0, none⟩)) := by
  refine ⟨?_, ?_, ?_, ?_, ?_, ?_, ?_, ?_, ?_, ?_, ?_, ?_, ?_, ?_⟩ <;> rw [(h.cell _).1] <;> rfl
section
variable {w0 w w' : World} {P n N N' pw D q E ne np ga : Nat} {p : Pn.Pl} {T U : Option Addr} {F G H1 H2 : Nat → Prop} {m m1 m2 : Vs} {t1 t2 : Option (List Gp)} {L : List Gp} {k c : Nat} {A : Option Addr} {ls : List Int}
set_option maxHeartbeats 4000000 in
theorem pair_open {T0 U0 : Option Addr} (h : Pr w0 P p n N pw D q E T U F G H1 H2 m m t1 t2 w) (hh : PHead w P p pw D q E T0 U0) (he : Env w0) (hp : Pln p ne np ga n) (v : Int) (L : List Gp) (m' : Vs) (hr : opn ga np 0 m [] = (v, L, m')) :
    Calls Tryz.prog 29 #[.pointer (some ⟨P, 0, none⟩)] w fun e w' => e = .returned (.bool true) ∧ ∃ T' U', (∃ H1' H2', Pr w0 P p n N pw D q E T' U' F G H1' H2' m' m' (opt v L) (opt v L) w' ∧ Kp' w P (Us F pw G q H1 H2) w' (Us F pw G q H1' H2')) ∧ PHead w' P p pw D q E T' U' ∧ (T' = none ↔ ¬ v = 0) := by
  have H := Lib.hid h
  have HH := Lib.hid hh
  have KO := Lib.hid (fun w' (hb : Below w.heap.size w w') => (h.below hb).open_ he hp v L m' hr)
  have HZ : Hid (∀ i, i < n → (m.S i).stands.length = 64) := fun i hi => h.pd.stand hi
  have HE := Lib.hid he
  have HP := Lib.hid hp
  have HR := Lib.hid hr
  clear h hh he hp hr
  obtain ⟨x0, x1, x2, x3, x4, x5, x6, x7, x8, x9, x10, x11, x12, x13⟩ := phead_map HH.out
  go_enter Tryz.func29, Tryz.ntmps29
  go_wp2_with fail
  go_region_held (fun x => x.cell? ⟨P, 0, none⟩ = some (.int .i64 p.a0) ∧ x.cell? ⟨P, 1, none⟩ = some (.int .i64 p.a1) ∧ x.cell? ⟨P, 2, none⟩ = some (.int .i64 p.a2) ∧ x.cell? ⟨P, 3, none⟩ = some (.int .i64 p.a3) ∧ x.cell? ⟨P, 4, none⟩ = some (.int .i64 p.a4) ∧ x.cell? ⟨P, 5, none⟩ = some (.int .i64 p.a5) ∧ x.cell? ⟨P, 6, none⟩ = some (.int .i64 p.a6) ∧ x.cell? ⟨P, 7, none⟩ = some (.int .i64 p.a7) ∧ x.cell? ⟨P, 8, none⟩ = some (.int .i64 p.a8) ∧ x.cell? ⟨P, 9, none⟩ = some (.int .i64 p.a9) ∧ x.cell? ⟨P, 10, none⟩ = some (.int .i64 p.a10) ∧ x.cell? ⟨P, 11, none⟩ = some (.int .i64 p.a11) ∧ x.cell? ⟨P, 12, none⟩ = some (.int .i64 p.a12) ∧ x.cell? ⟨P, 27, none⟩ = some (.pointer (some ⟨D, 0, none⟩))) (first | go_keep | exact phead_map Z1.out)
    (first
      | (go_at_call 19; (with_reducible refine (KO.out _ (below_drew1 _)).mono ?_); rintro e w1 ⟨T', rfl, ht, ⟨H', p1, k1⟩, z1⟩; have TN := Lib.hid ht; have P1 := Lib.hid p1; have K1 : Hid (Kp w (Us F pw G q H1 H2) w1 (Us F pw G q H' H2)) := (Kp.of_below (below_drew1 _) _).trans k1; have Z1 : Hid (PHead w1 P p pw D q E T0 U0) := HH.out.of z1; clear ht p1 z1 k1))
  all_goals
    clear x0 x1 x2 x3 x4 x5 x6 x7 x8 x9 x10 x11 x12 x13
    obtain ⟨y0, y1, y2, y3, y4, y5, y6, y7, y8, y9, y10, y11, y12, y13⟩ := phead_plan Z1.out
    have RO := Lib.hid (fun w' (hb : Below w1.heap.size w1 w') => (P1.out.below hb).ropen HZ.out HP.out v L m' HR.out)
    go_wp2_with fail
    go_region_held (fun x => x.cell? ⟨P, 13, none⟩ = some (.int .i64 p.a0) ∧ x.cell? ⟨P, 14, none⟩ = some (.int .i64 p.a1) ∧ x.cell? ⟨P, 15, none⟩ = some (.int .i64 p.a2) ∧ x.cell? ⟨P, 16, none⟩ = some (.int .i64 p.a3) ∧ x.cell? ⟨P, 17, none⟩ = some (.int .i64 p.a4) ∧ x.cell? ⟨P, 18, none⟩ = some (.int .i64 p.a5) ∧ x.cell? ⟨P, 19, none⟩ = some (.int .i64 p.a6) ∧ x.cell? ⟨P, 20, none⟩ = some (.int .i64 p.a7) ∧ x.cell? ⟨P, 21, none⟩ = some (.int .i64 p.a8) ∧ x.cell? ⟨P, 22, none⟩ = some (.int .i64 p.a9) ∧ x.cell? ⟨P, 23, none⟩ = some (.int .i64 p.a10) ∧ x.cell? ⟨P, 24, none⟩ = some (.int .i64 p.a11) ∧ x.cell? ⟨P, 25, none⟩ = some (.int .i64 p.a12) ∧ x.cell? ⟨P, 30, none⟩ = some (.pointer (some ⟨E, 0, none⟩))) (first | go_keep | exact phead_plan Z2.out)
      (first
        | (go_at_call 69; (with_reducible refine (RO.out _ (below_drew1 _)).mono ?_); rintro e w2 ⟨U', rfl, hu, ⟨H'', p2, k2⟩, z2⟩; have UN := Lib.hid hu; have P2 := Lib.hid p2; have K2 : Hid (Kp w (Us F pw G q H1 H2) w2 (Us F pw G q H' H'')) := K1.out.trans ((Kp.of_below (below_drew1 _) _).trans k2); have Z2 : Hid (PHead w2 P p pw D q E T0 U0) := Z1.out.of z2; clear hu p2 z2 k2))
    all_goals
      clear y0 y1 y2 y3 y4 y5 y6 y7 y8 y9 y10 y11 y12 y13
      have c28 := (Z2.out.cell 28).1.trans (show _ = some (.pointer T0) from rfl)
      have c31 := (Z2.out.cell 31).1.trans (show _ = some (.pointer U0) from rfl)
      have f28 := (Z2.out.cell 28).2
      have f31 := (Z2.out.cell 31).2
      have P4 := Lib.hid ((P2.out.store 28 (.pointer T')).store 31 (.pointer U'))
      have Z4 : Hid (PHead ((w2.setCell ⟨P, 28, none⟩ (.pointer T')).setCell ⟨P, 31, none⟩ (.pointer U')) P p pw D q E T' U') := by
        have e1 : PHead (w2.setCell ⟨P, 28, none⟩ (.pointer T')) P p pw D q E T' U0 := by
          unfold PHead
          rw [heap_setCell_same _ _ _ _ _ _ Z2.out]
          rfl
        show PHead _ _ _ _ _ _ _ _ _
        unfold PHead
        rw [heap_setCell_same _ _ _ _ _ _ e1]
        rfl
      have K4 : Hid (Kp' w P (Us F pw G q H1 H2) ((w2.setCell ⟨P, 28, none⟩ (.pointer T')).setCell ⟨P, 31, none⟩ (.pointer U')) (Us F pw G q H' H'')) := (K2.out.but P).cell2 _ _ _ _
      by_cases hv : v = 0
      · cases T' with
        | none => exact absurd hv (TN.out.1 rfl)
        | some T' =>
          have hv0 : (v == 0) = true := by simp [hv]
          clear hv
          go_wp2
          go_ret
          exact ⟨rfl, _, _, ⟨_, _, P4.out, K4.out⟩, Z4.out, TN.out⟩
      · cases T' with
        | some T' => exact absurd (TN.out.2 hv) (by simp)
        | none =>
          have hv0 : (v == 0) = false := by simp [hv]
          clear hv
          go_wp2
          go_ret
          exact ⟨rfl, _, _, ⟨_, _, P4.out, K4.out⟩, Z4.out, ⟨fun _ h => (by rw [h] at hv0; cases hv0), fun _ => rfl⟩⟩
end
end Go.Proofs.YtgdgehfapfgdfaaGreatDoor.Tb
