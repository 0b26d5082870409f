/-
  The walk of the statement on any calls of a table. No conditions.
-/
import Derived.Test.YtgdgehfapfgdfaaGreatDoorGbWalk
import Derived.Deep.RegionHeld
import Derived.Deep.DrawnRows
namespace Go.Proofs.YtgdgehfapfgdfaaGreatDoor.Tb
open Go.RowKit Oc Dm W Dw Sr Gt
set_option linter.unusedVariables false
set_option maxRecDepth 100000
attribute [local go_sem ↓] Go.wp_at_zero Go.wp_at_succ
section
variable {w : World} {k c : Nat} {A : Option Addr} {L : Nat → ActV}
set_option maxHeartbeats 8000000 in
theorem plays_walk (x : Nat) (hx : x ≤ 65535) (ha : Acts w A k L) (hk : k ≤ maxLen) (he : Env w) :
    Calls Tryz.prog 3 #[.int .u16 (x : Int), .slice A k c] w fun e w' => e = .returned (.bool true) ∧ Below w.heap.size w w' := by
  obtain ⟨xm, hxm⟩ : ∃ f : Nat, (x : Int) % 100 = (f : Int) := ⟨x % 100, by omega⟩
  have hx2 : xm ≤ 99 := by omega
  obtain ⟨p, ne, np, ga, n, hP, hnp, hB⟩ := begin_some xm hx2 w he
  have HB := Lib.hid hB
  have HP := Lib.hid hP
  have HE := Lib.hid he
  have HA := Lib.hid ha
  clear hB hP he ha
  go_enter Tryz.func3, Tryz.ntmps3
  go_wp2_with fail
  refine HB.out.mono ?_; rintro e w1 ⟨P, m, L0, rfl, st1, bg⟩
  obtain ⟨Zf, st1', hZ⟩ := st1.here
  have ST1 := Lib.hid st1'
  have HZ := Lib.hid hZ
  have PG1 : Hid (PagesO (some L0) np) := fun L e => by injection e with e; subst e; exact bg.inv.1
  have B1 := Lib.hid st1.bel
  clear st1 st1' bg HB hZ
  have FW : Hid (∀ y, Below w1.heap.size w1 y → Calls Tryz.prog 8 #[.slice A k c, .int .i64 25] y fun e w' => ∃ v, e = .returned v ∧ OwnS w' 35 14 y.heap.size v (fewL L (min k 25)) ∧ Below y.heap.size y w') := fun y hy => few_any (HA.out.below (bthen B1.out hy)) hk 25 (by decide)
  go_wp2_with fail
  refine (FW.out _ (Below.refl _ _)).mono ?_; rintro e w2 ⟨v, rfl, o2, b2⟩
  have ST2 := Lib.hid (ST1.out.from_ b2 HZ.out rfl)
  have RW := Lib.hid (row_at o2 HZ.out)
  obtain ⟨kk, hkk⟩ : ∃ kk, min k 25 = kk := ⟨_, rfl⟩
  have hk25 : kk ≤ 25 := by omega
  have hkk2 : kk ≤ k := by omega
  rw [hkk] at RW
  obtain ⟨A2, c2, rfl, hc2, hc3⟩ := RW.out.form
  clear o2 b2 FW hkk ST1
  go_wp2
  go_loopw [7] (fun q7 wr => ∃ i : Nat, i ≤ kk ∧ q7 = .int .i64 (i : Int) ∧ Hid (∃ m t, St w P p n (8 + 8 * i) m m t t w2 Zf wr ∧ PagesO t np)) (fun q7 _ => kk - (intOf q7).toNat)
  case atStart => exact ⟨0, Nat.zero_le _, rfl, m, some L0, ST2.out, PG1.out⟩
  case round =>
    obtain ⟨i, hi, rfl, SI⟩ := hrel
    clear ST2 PG1
    obtain ⟨mi, ti, st, pg⟩ := SI.out
    have ST := Lib.hid st
    have PG := Lib.hid pg
    clear st pg SI
    by_cases hlt : i < kk
    · have hlt2 : (i : Int) < (kk : Int) := by omega
      obtain ⟨g, rfl, hcell⟩ := RW.out.cells hlt
      have hok : ActOk w (L i) := by obtain ⟨b0, off0, _, _, hok⟩ := HA.out i (by omega); exact hok
      obtain ⟨hok2, hll⟩ := cut_ok hok
      have CELLS : Hid (∀ y, (∃ Z, Kp' w2 P Zf y Z) → ∀ e u, (cut (L i)).cells[e]? = some u → y.cell? ⟨g, i * 14 + e, none⟩ = some u) := fun y hy => by obtain ⟨Z, hz⟩ := hy; exact hcell y Z hz
      clear hcell hok RW
      generalize cut (L i) = y at CELLS hok2 hll
      have DO := Lib.hid (fun w' (hb : Below wr.heap.size wr w') => st_do (ST.out.below hb) HE.out HP.out hnp (by omega) PG.out y hok2 hll)
      have TD : Hid (∀ w' m' t', St w P p n (8 + 8 * i + 8) m' m' t' t' w2 Zf w' → PagesO t' np → Calls Tryz.prog 10 #[.pointer (some ⟨P, 0, none⟩), .int .i64 y.n, .slice y.la y.ll y.lc] w' fun e w'' => e = .returned (.bool true) ∧ Below w'.heap.size w' w'') := fun w' m' t' s h => st_told s HP.out h y.n hok2.ext (by omega)
      clear hok2 hll
      obtain ⟨kind, z, la, ll, lc, ls, u, v', fa, fl, fc, fs, xg⟩ := y
      have KD : Hid (∀ w', Below wr.heap.size wr w' → Calls Tryz.prog 9 #[.pointer (some ⟨P, 0, none⟩), .agg #[.int .i64 kind, .int .i64 z, .slice la ll lc, .int .u64 (u : Int), .int .u64 (v' : Int), .slice fa fl fc, .int .i64 xg.no, .int .u64 (xg.v : Int), .int .u64 (xg.g 0 : Int), .int .u64 (xg.g 1 : Int), .int .u64 (xg.g 2 : Int), .int .u64 (xg.g 3 : Int), .int .u64 (xg.g 4 : Int), .int .u64 (xg.g 5 : Int)]] w' fun e w'' => e = .returned (.bool true) ∧ Done w P p ne np ga n (8 + 8 * i + 8) kind ls fs mi ti w2 Zf w'') := DO.out
      have TD2 : Hid (∀ w' m' t', St w P p n (8 + 8 * i + 8) m' m' t' t' w2 Zf w' → PagesO t' np → Calls Tryz.prog 10 #[.pointer (some ⟨P, 0, none⟩), .int .i64 z, .slice la ll lc] w' fun e w'' => e = .returned (.bool true) ∧ Below w'.heap.size w' w'') := TD.out
      clear DO TD
      obtain ⟨c0, c1, c2', c3, c4, c5, c6, c7, c8, c9, c10, c11, c12, c13⟩ := act14 (CELLS.out wr ST.out.kp)
      go_wp2_with fail
      go_region_held (fun x => x.cell? ⟨g, i * 14, none⟩ = some (.int .i64 kind) ∧ x.cell? ⟨g, i * 14 + 1, none⟩ = some (.int .i64 z) ∧ x.cell? ⟨g, i * 14 + 2, none⟩ = some (.slice la ll lc) ∧ x.cell? ⟨g, i * 14 + 3, none⟩ = some (.int .u64 (u : Int)) ∧ x.cell? ⟨g, i * 14 + 4, none⟩ = some (.int .u64 (v' : Int)) ∧ x.cell? ⟨g, i * 14 + 5, none⟩ = some (.slice fa fl fc) ∧ x.cell? ⟨g, i * 14 + 6, none⟩ = some (.int .i64 xg.no) ∧ x.cell? ⟨g, i * 14 + 7, none⟩ = some (.int .u64 (xg.v : Int)) ∧ x.cell? ⟨g, i * 14 + 8, none⟩ = some (.int .u64 (xg.g 0 : Int)) ∧ x.cell? ⟨g, i * 14 + 9, none⟩ = some (.int .u64 (xg.g 1 : Int)) ∧ x.cell? ⟨g, i * 14 + 10, none⟩ = some (.int .u64 (xg.g 2 : Int)) ∧ x.cell? ⟨g, i * 14 + 11, none⟩ = some (.int .u64 (xg.g 3 : Int)) ∧ x.cell? ⟨g, i * 14 + 12, none⟩ = some (.int .u64 (xg.g 4 : Int)) ∧ x.cell? ⟨g, i * 14 + 13, none⟩ = some (.int .u64 (xg.g 5 : Int))) (first | go_keep | exact act14 (CELLS.out _ ST4.out.kp) | exact act14 (CELLS.out _ ST3.out.kp))
        (first
          | (go_at_call 9; (with_reducible refine (KD.out _ (below_drew1 _)).mono ?_); rintro e w3 ⟨rfl, m3, t3, s3, wy⟩; have ST3 := Lib.hid s3; have PG3 := Lib.hid (way_pages wy PG.out); clear s3 wy)
          | (go_at_call 10; (with_reducible refine (TD2.out _ _ _ ST3.out PG3.out).mono ?_); rintro e w4 ⟨rfl, b4⟩; have ST4 := Lib.hid (ST3.out.below b4); clear b4))
      all_goals
        clear c0 c1 c2' c3 c4 c5 c6 c7 c8 c9 c10 c11 c12 c13
        go_wp2
        go_roundw
        case rel => exact ⟨i + 1, by omega, by go_num, m3, t3, by rw [show 8 + 8 * (i + 1) = 8 + 8 * i + 8 by omega]; exact ST4.out, PG3.out⟩
        case measure => simp [intOf]; omega
    · have hlt2 : ¬ (i : Int) < (kk : Int) := by omega
      have BE := Lib.hid ST.out.bel
      go_wp2_with fail
      refine (awake_any _ (HE.out.below BE.out)).mono ?_; rintro e w6 ⟨rfl, b6⟩
      have B6 := Lib.hid (bthen BE.out b6)
      clear b6
      go_wp2
      go_ret
      exact ⟨rfl, B6.out⟩
theorem plays_law (W : World) (a0 : Int) (w0 : (Lit.int .u16 a0).wf = true) (D : Option Addr) (n c : Nat) (L : Nat → ActV) (hl : n ≤ c) (hm : c ≤ maxLen) (h : Acts W D n L) (he : Env W) :
    Calls Tryz.prog 3 #[.int .u16 a0, .slice D n c] W fun e w' => e = .returned (.bool true) ∧ Below W.heap.size W w' := by
  simp [Lit.wf, IntKind.min, IntKind.max, IntKind.signed, IntKind.bits] at w0
  obtain ⟨x, rfl⟩ := Int.eq_ofNat_of_zero_le w0.1
  exact plays_walk x (by omega) h (Nat.le_trans hl hm) he
end
end Go.Proofs.YtgdgehfapfgdfaaGreatDoor.Tb
