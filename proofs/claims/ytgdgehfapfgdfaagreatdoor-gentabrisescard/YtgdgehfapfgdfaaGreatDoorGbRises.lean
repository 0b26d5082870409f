/-
  The walk of the statement that no generation ever falls. No conditions.
-/
import Derived.Test.YtgdgehfapfgdfaaGreatDoorGbWalk
import Derived.BigQuiet
namespace Go.Proofs.YtgdgehfapfgdfaaGreatDoor.Tb
open Go.RowKit Oc Dm W Dw Sr Gt
set_option linter.unusedVariables false
set_option maxRecDepth 100000
attribute [local go_sem ↓] Go.wp_at_zero Go.wp_at_succ
theorem gensV_at {L : List Gp} {ne j : Nat} (h : j < ne) : (gensV L ne)[j]? = some (.int .u64 (gen L j : Int)) := by
  unfold gensV
  rw [List.getElem?_map, List.getElem?_range h]
  rfl
section
variable {w : World} {k c : Nat} {A : Option Addr} {L : Nat → ActV}
set_option maxHeartbeats 8000000 in
theorem rises_walk (x : Nat) (hx : x ≤ 65535) (ha : Acts w A k L) (hk : k ≤ maxLen) (he : Env w) :
    Calls Tryz.prog 6 #[.int .u16 (x : Int), .slice A k c] w fun e w' => e = .returned (.bool true) ∧ Below w.heap.size w w' := by
  obtain ⟨xm, hxm⟩ : ∃ f : Nat, (x : Int) % 100 = (f : Int) := ⟨x % 100, by omega⟩
  have hx2 : xm ≤ 99 := by omega
  obtain ⟨p, ne, np, ga, n, hP, hnp, hB⟩ := begin_some xm hx2 w he
  have HB := Lib.hid hB
  have HP := Lib.hid hP
  have HE := Lib.hid he
  have HA := Lib.hid ha
  have hne : ne ≤ 1000 := by have := hP.he1; omega
  clear hB hP he ha
  go_enter Tryz.func6, Tryz.ntmps6
  go_wp2_with fail
  refine HB.out.mono ?_; rintro e w1 ⟨P, m, L0, rfl, st1, bg⟩
  obtain ⟨Zf, st1', hZ⟩ := st1.here
  have ST1 := Lib.hid st1'
  have HZ := Lib.hid hZ
  have IV1 : Hid (Inv Rise ga np m.S L0) := bg.inv.mono (fun _ _ => no2_rise)
  have B1 := Lib.hid st1.bel
  clear st1 st1' bg HB hZ
  have FW : Hid (∀ y, Below w1.heap.size w1 y → Calls Tryz.prog 8 #[.slice A k c, .int .i64 25] y fun e w' => ∃ v, e = .returned v ∧ OwnS w' 35 14 y.heap.size v (fewL L (min k 25)) ∧ Below y.heap.size y w') := fun y hy => few_any (HA.out.below (bthen B1.out hy)) hk 25 (by decide)
  go_wp2_with fail
  refine (FW.out _ (Below.refl _ _)).mono ?_; rintro e w2 ⟨v, rfl, o2, b2⟩
  have ST2 := Lib.hid (ST1.out.from_ b2 HZ.out rfl)
  have RW := Lib.hid (row_at o2 HZ.out)
  obtain ⟨kk, hkk⟩ : ∃ kk, min k 25 = kk := ⟨_, rfl⟩
  have hk25 : kk ≤ 25 := by omega
  have hkk2 : kk ≤ k := by omega
  rw [hkk] at RW
  obtain ⟨A2, c2, rfl, hc2, hc3⟩ := RW.out.form
  clear o2 b2 FW hkk ST1
  go_wp2
  go_loopw [7] (fun q7 wr => ∃ i : Nat, i ≤ kk ∧ q7 = .int .i64 (i : Int) ∧ Hid (∃ m Lp, St w P p n (8 + 8 * i) m m (some Lp) (some Lp) w2 Zf wr ∧ Inv Rise ga np m.S Lp)) (fun q7 _ => kk - (intOf q7).toNat)
  case atStart => exact ⟨0, Nat.zero_le _, rfl, m, L0, ST2.out, IV1.out⟩
  case round =>
    obtain ⟨i, hi, rfl, SI⟩ := hrel
    clear ST2 IV1
    by_cases hlt : i < kk
    · have hlt2 : (i : Int) < (kk : Int) := by omega
      obtain ⟨mi, Li, st, iv⟩ := SI.out
      have IV := Lib.hid iv
      have STI := Lib.hid st
      obtain ⟨g, rfl, hcell⟩ := RW.out.cells hlt
      have hok : ActOk w (L i) := by obtain ⟨b0, off0, _, _, hok⟩ := HA.out i (by omega); exact hok
      obtain ⟨hok2, hll⟩ := cut_ok hok
      have CELLS : Hid (∀ y, (∃ Z, Kp' w2 P Zf y Z) → ∀ e u, (cut (L i)).cells[e]? = some u → y.cell? ⟨g, i * 14 + e, none⟩ = some u) := fun y hy => by obtain ⟨Z, hz⟩ := hy; exact hcell y Z hz
      clear hcell hok RW SI
      generalize cut (L i) = y at CELLS hok2 hll
      by_cases hk4 : y.kind = 4
      · have c0 : wr.cell? ⟨g, i * 14, none⟩ = some (.int .i64 4) := by
          have := CELLS.out wr st.kp 0 _ (show y.cells[0]? = some (.int .i64 y.kind) from rfl)
          rw [hk4] at this
          exact this
        clear st iv
        go_wp2
        go_roundw
        case rel => exact ⟨i + 1, by omega, by go_num, mi, Li, by
          obtain ⟨pw, D, q, E, T, U, F, G, H1, H2, r, h2, kk'⟩ := STI.out
          exact ⟨pw, D, q, E, T, U, F, G, H1, H2, r.more (by omega) (by omega), h2, kk'⟩, IV.out⟩
        case measure => simp [intOf]; omega
      · obtain ⟨pw, D, q, E, T, U, F, G, H1, H2, r, h2, kp⟩ := st
        have PR := Lib.hid r
        have PH := Lib.hid h2
        have KK := Lib.hid kp
        have HL := Lib.hid iv.1
        have DO := Lib.hid (fun w' (hb : Below wr.heap.size wr w') => do_any (r.below hb) (h2.below hb) HE.out HP.out hnp (by omega) (fun L e => by injection e with e; subst e; exact iv.1) y hok2 hll)
        have HK4 := Lib.hid hk4
        clear r h2 kp iv hok2 hll hk4 STI
        obtain ⟨kind, z, la, ll, lc, ls, u, v', fa, fl, fc, fs, xg⟩ := y
        have hkind : ¬ kind = 4 := HK4.out
        obtain ⟨c0, c1, c2', c3, c4, c5, c6, c7, c8, c9, c10, c11, c12, c13⟩ := act14 (CELLS.out wr ⟨_, KK.out⟩)
        obtain ⟨c26, c27, c28, c29, c30, c31, cf⟩ := phead_all PH.out
        go_wp2_with fail
        refine (PR.out.all HP.out HL.out.1).mono ?_; rintro e w3 ⟨g3, rfl, o3, b3⟩
        have O3 := Lib.hid o3
        have PR3 := Lib.hid (PR.out.below b3)
        have PH3 := Lib.hid (PH.out.below b3)
        have B3 := Lib.hid b3
        have KK3 := Lib.hid (KK.out.trans (Kp'.of_below b3 P _))
        clear o3 b3 c0 c1 c2' c3 c4 c5 c6 c7 c8 c9 c10 c11 c12 c13 c26 c27 c28 c29 c30 c31 cf
        have KD : Hid (Calls Tryz.prog 9 #[.pointer (some ⟨P, 0, none⟩), .agg #[.int .i64 kind, .int .i64 z, .slice la ll lc, .int .u64 (u : Int), .int .u64 (v' : Int), .slice fa fl fc, .int .i64 xg.no, .int .u64 (xg.v : Int), .int .u64 (xg.g 0 : Int), .int .u64 (xg.g 1 : Int), .int .u64 (xg.g 2 : Int), .int .u64 (xg.g 3 : Int), .int .u64 (xg.g 4 : Int), .int .u64 (xg.g 5 : Int)]] w3 fun e w'' => e = .returned (.bool true) ∧ Done w P p ne np ga n (8 + 8 * i + 8) kind ls fs mi (some Li) w3 (Us F pw G q H1 H2) w'') := DO.out w3 B3.out
        clear DO
        obtain ⟨c0, c1, c2', c3, c4, c5, c6, c7, c8, c9, c10, c11, c12, c13⟩ := act14 (CELLS.out w3 ⟨_, KK3.out⟩)
        go_wp2_with fail
        refine KD.out.mono ?_; rintro e w4 ⟨rfl, m4, t4, ⟨pw4, D4, q4, E4, T4, U4, F4, G4, H14, H24, r4, h4, k4⟩, wy⟩
        obtain ⟨L4, rfl, iv4, rs4⟩ := way_rise hkind wy IV.out
        have IV4 := Lib.hid iv4
        have RS4 := Lib.hid rs4
        have PR4 := Lib.hid r4
        have PH4 := Lib.hid h4
        have KK4 := Lib.hid (KK3.out.trans k4)
        have hg3 : wr.heap.size ≤ g3 ∧ g3 < w3.heap.size := O3.out.ge g3 rfl
        have O4 : Hid (Rw.OwnV w4 30 wr.heap.size (.slice (some ⟨g3, 0, none⟩) ne ne) (gensV Li ne)) := O3.out.keep (fun b hb => by
          have e : b = g3 := by simpa [Value.ownBlock] using hb.symm
          subst e
          exact (k4.at_ b hg3.2 (fun y => by have := PR.out.uP b y; omega)).1)
        clear c0 c1 c2' c3 c4 c5 c6 c7 c8 c9 c10 c11 c12 c13 r4 h4 k4 wy iv4 rs4 KD
        obtain ⟨c26, c27, c28, c29, c30, c31, cf⟩ := phead_all PH4.out
        go_wp2_with fail
        refine (PR4.out.all HP.out IV4.out.1.1).mono ?_; rintro e w5 ⟨g5, rfl, o5, b5⟩
        have ST5 : Hid (St w P p n (8 + 8 * (i + 1)) m4 m4 (some L4) (some L4) w2 Zf w5) := ⟨pw4, D4, q4, E4, T4, U4, F4, G4, H14, H24, (PR4.out.more (by omega) (by omega)).below b5, PH4.out.below b5, KK4.out.trans (Kp'.of_below b5 P _)⟩
        have O4' := Lib.hid (O4.out.below b5)
        have W3 : Hid (∀ wq, Below w5.heap.size w5 wq → ∀ j, j < ne → wq.cell? ⟨g3, j, none⟩ = some (.int .u64 (gen Li j : Int))) := fun wq hq j hj => ((O4'.out.below hq).cell (gensV_len _ _) (gensV_at hj)).1
        have W5 : Hid (∀ wq, Below w5.heap.size w5 wq → ∀ j, j < ne → wq.cell? ⟨g5, j, none⟩ = some (.int .u64 (gen L4 j : Int))) := fun wq hq j hj => ((o5.below hq).cell (gensV_len _ _) (gensV_at hj)).1
        have GL : Hid (∀ j, gen Li j ≤ 4611686018427387904) := fun j => gen_le HL.out
        clear o5 b5 c26 c27 c28 c29 c30 c31 cf O4 O4' O3 PR4 PH4 KK4 PR3 PH3 KK3 B3 PR PH KK
        go_wp2
        go_loopw [10] (fun q10 wq => ∃ j : Nat, j ≤ ne ∧ q10 = .int .i64 (j : Int) ∧ Hid (Below w5.heap.size w5 wq)) (fun q10 _ => ne - (intOf q10).toNat)
        case atStart => exact ⟨0, Nat.zero_le _, rfl, Below.refl _ _⟩
        case round =>
          obtain ⟨j, hj, rfl, BQ⟩ := hrel
          by_cases hjl : j < ne
          · have hjl2 : (j : Int) < (ne : Int) := by omega
            have d3 := W3.out wr BQ.out j hjl
            have d5 := W5.out wr BQ.out j hjl
            obtain ⟨r1, r2⟩ := RS4.out j
            have r3 := GL.out j
            generalize gen Li j = a at d3 r1 r2 r3
            generalize gen L4 j = b at d5 r1 r2
            have s1 : decide ((b : Int) < (a : Int)) = false := by simp; omega
            have s2 : decide ((a : Int) + 1 < (b : Int)) = false := by simp; omega
            have s3 : ¬ (b : Int) < (a : Int) := by omega
            have s4 : ¬ (a : Int) + 1 < (b : Int) := by omega
            go_wp2_with fail
            go_quiet (fail)
            have BQ2 := Lib.hid (bthen BQ.out (show Below wr.heap.size wr (wr.drewN nq) from ⟨rfl, rfl, rfl, Nat.le_refl _, fun _ _ => rfl⟩))
            generalize wr.drewN nq = wz at BQ2 ⊢
            clear d3 d5
            have HW : Hid (IntKind.u64.wrap ((a : Int) + 1) = (a : Int) + 1) := IntWalk.u64_in _ (by omega)
            go_wp2
            case roundEnd =>
              go_roundw
              case rel => exact ⟨j + 1, by omega, by go_num, BQ2⟩
              case measure => simp [intOf]; omega
            · rename_i hh
              rw [HW.out] at hh
              omega
          · have hjl2 : ¬ (j : Int) < (ne : Int) := by omega
            have ST6 := Lib.hid (ST5.out.below BQ.out)
            clear W3 W5 GL
            go_wp2
            go_roundw
            case rel => exact ⟨i + 1, by omega, by go_num, m4, L4, ST6.out, IV4.out⟩
            case measure => simp [intOf]; omega
    · have hlt2 : ¬ (i : Int) < (kk : Int) := by omega
      obtain ⟨mi, Li, st, iv⟩ := SI.out
      have BE := Lib.hid st.bel
      clear st iv SI
      go_wp2_with fail
      refine (awake_any _ (HE.out.below BE.out)).mono ?_; rintro e w6 ⟨rfl, b6⟩
      have B6 := Lib.hid (bthen BE.out b6)
      clear b6
      go_wp2
      go_ret
      exact ⟨rfl, B6.out⟩
theorem rises_law (W : World) (a0 : Int) (w0 : (Lit.int .u16 a0).wf = true) (D : Option Addr) (n c : Nat) (L : Nat → ActV) (hl : n ≤ c) (hm : c ≤ maxLen) (h : Acts W D n L) (he : Env W) :
    Calls Tryz.prog 6 #[.int .u16 a0, .slice D n c] W fun e w' => e = .returned (.bool true) ∧ Below W.heap.size W w' := by
  simp [Lit.wf, IntKind.min, IntKind.max, IntKind.signed, IntKind.bits] at w0
  obtain ⟨x, rfl⟩ := Int.eq_ofNat_of_zero_le w0.1
  exact rises_walk x (by omega) h (Nat.le_trans hl hm) he
end
end Go.Proofs.YtgdgehfapfgdfaaGreatDoor.Tb
