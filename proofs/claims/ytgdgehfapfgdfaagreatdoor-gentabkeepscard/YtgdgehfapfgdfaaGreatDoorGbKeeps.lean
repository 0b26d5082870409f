/-
  The walk of the statement on a table behind a crash. No conditions.
-/
import Derived.Test.YtgdgehfapfgdfaaGreatDoorGbWalk
import Derived.BigQuiet
import Derived.Deep.RegionHeld
import Derived.Deep.DrawnRows
namespace Go.Proofs.YtgdgehfapfgdfaaGreatDoor.Tb
open Go.RowKit Oc Dm W Dw Sr Gt
set_option linter.unusedVariables false
set_option maxRecDepth 100000
attribute [local go_sem ↓] Go.wp_at_zero Go.wp_at_succ
theorem gensK_at {L : List Gp} {ne j : Nat} (h : j < ne) : (gensV L ne)[j]? = some (.int .u64 (gen L j : Int)) := by
  unfold gensV
  rw [List.getElem?_map, List.getElem?_range h]
  rfl
theorem small_one {x ne np ga n : Nat} {p : Pn.Pl} {m : Vs} {L : List Gp} (h : Begun x ne np ga n p m L) : Small 1 L := fun j q hq => by
  obtain ⟨h1, h2⟩ := like_one (h.like j q hq)
  exact ⟨by omega, fun i hi => by rw [h2 i hi]; exact Nat.le_refl 1⟩
/-- what a bump counts of the first so many -/
theorem add1_take {ls : List Int} {r : Nat} {x : Int} (h : ls[r]? = some x) (e : Nat) : add1 (ls.take (r + 1)) e = if x = (e : Int) then 1 else add1 (ls.take r) e := by
  rw [take_snoc h]
  unfold add1
  rw [named_snoc]
  by_cases hx : x = (e : Int)
  · subst hx; simp
  · rw [if_neg hx]
    have : (x == (e : Int)) = false := by simpa using hx
    rw [this, Bool.or_false]
theorem fuse_ok {s : PS} {z : Int} (ho : s.off = false) (h0 : 0 ≤ z) (h1 : z ≤ 1048576) : PS.fuseE s z = 0 := by
  unfold PS.fuseE
  rw [if_neg (by rw [ho]; decide), if_neg (by omega)]
/-- where a pair's program side stands on the way: table, bumps so far -/
def Going (w : World) (P : Nat) (p : Pn.Pl) (n np ga : Nat) (m2 : Vs) (t2 : Option (List Gp)) (w2 : World) (Zf : Nat → Prop) (i : Nat) (wr : World) : Prop :=
  ∃ m1 L1, St w P p n (8 + 8 * i) m1 m2 (some L1) t2 w2 Zf wr ∧ Quiet m1 ∧ Inv No2 ga np m1.S L1 ∧ Small (1 + i) L1
section
variable {w : World} {k c : Nat} {A : Option Addr} {L : Nat → ActV}
set_option maxHeartbeats 16000000 in
theorem keeps_walk (x : Nat) (hx : x ≤ 65535) (ha : Acts w A k L) (hk : k ≤ maxLen) (fz : Nat) (hfz : fz ≤ 255) (la : Option Addr) (ll lc : Nat) (ls : List Int) (hl : Fi w la ll ls) (hll : ll ≤ lc) (hlc : lc ≤ maxLen) (fa : Option Addr) (fl fc : Nat) (fs : List Int) (hf : Fi w fa fl fs) (hfl : fl ≤ maxLen) (he : Env w) :
    Calls Tryz.prog 4 #[.int .u16 (x : Int), .slice A k c, .int .u8 (fz : Int), .slice la ll lc, .slice fa fl fc] w fun e w' => e = .returned (.bool true) ∧ Below w.heap.size w w' := by
  obtain ⟨xm, hxm⟩ : ∃ f : Nat, (x : Int) % 100 = (f : Int) := ⟨x % 100, by omega⟩
  have hx2 : xm ≤ 99 := by omega
  obtain ⟨fm, hfm⟩ : ∃ f : Nat, (fz : Int) % 8 = (f : Int) := ⟨fz % 8, by omega⟩
  have hfm2 : fm ≤ 7 := by omega
  have hl9 : (ll : Int) ≤ 9223372036854775807 := by unfold maxLen at hlc; omega
  have hlc9 : (lc : Int) ≤ 9223372036854775807 := by unfold maxLen at hlc; omega
  have hfl9 : fl ≤ 9223372036854775807 := by unfold maxLen at hfl; omega
  obtain ⟨p, ne, np, ga, n, hP, hnp, hB⟩ := begin_some xm hx2 w he
  have HB := Lib.hid hB
  have HP := Lib.hid hP
  have HE := Lib.hid he
  have HA := Lib.hid ha
  have HLS := Lib.hid hl
  have HFS := Lib.hid hf
  have hne : ne ≤ 1000 := by have := hP.he1; omega
  clear hB hP he ha hl hf
  go_enter Tryz.func4, Tryz.ntmps4
  go_wp2_with fail
  refine HB.out.mono ?_; rintro e w1 ⟨P, m, L0, rfl, st1, bg⟩
  obtain ⟨Zf, st1', hZ⟩ := st1.here
  have ST1 := Lib.hid st1'
  have HZ := Lib.hid hZ
  have BG : Hid (Quiet m ∧ Inv No2 ga np m.S L0 ∧ Small 1 L0) := ⟨bg.quiet, bg.inv, small_one bg⟩
  have B1 := Lib.hid st1.bel
  clear st1 st1' bg HB hZ
  have FW : Hid (∀ y, Below w1.heap.size w1 y → Calls Tryz.prog 8 #[.slice A k c, .int .i64 20] y fun e w' => ∃ v, e = .returned v ∧ OwnS w' 35 14 y.heap.size v (fewL L (min k 20)) ∧ Below y.heap.size y w') := fun y hy => few_any (HA.out.below (bthen B1.out hy)) hk 20 (by decide)
  go_wp2_with fail
  refine (FW.out _ (Below.refl _ _)).mono ?_; rintro e w2 ⟨v, rfl, o2, b2⟩
  have GO2 : Hid (Going w P p n np ga m (some L0) w2 Zf 0 w2) := ⟨m, L0, ST1.out.from_ b2 HZ.out rfl, BG.out.1, BG.out.2.1, BG.out.2.2⟩
  have RW := Lib.hid (row_at o2 HZ.out)
  obtain ⟨kk, hkk⟩ : ∃ kk, min k 20 = kk := ⟨_, rfl⟩
  have hk25 : kk ≤ 20 := by omega
  have hkk2 : kk ≤ k := by omega
  rw [hkk] at RW
  obtain ⟨A2, c2, rfl, hc2, hc3⟩ := RW.out.form
  clear o2 b2 FW hkk ST1 BG
  go_wp2
  go_loopw [13] (fun q13 wr => ∃ i : Nat, i ≤ kk ∧ q13 = .int .i64 (i : Int) ∧ Hid (Going w P p n np ga m (some L0) w2 Zf i wr)) (fun q13 _ => kk - (intOf q13).toNat)
  case atStart => exact ⟨0, Nat.zero_le _, rfl, GO2⟩
  case round =>
    obtain ⟨i, hi, rfl, GI⟩ := hrel
    clear GO2
    obtain ⟨mi, Li, st, hq, iv, sm⟩ := GI.out
    obtain ⟨pw, D, q, E, T, U, F, G, H1, H2, r, h2, kp⟩ := st
    have PR := Lib.hid r
    have PH := Lib.hid h2
    have KK := Lib.hid kp
    have IV := Lib.hid iv
    have QU := Lib.hid hq
    have SM := Lib.hid sm
    clear r h2 kp iv hq sm GI
    by_cases hlt : i < kk
    · have hlt2 : (i : Int) < (kk : Int) := by omega
      obtain ⟨g, rfl, hcell⟩ := RW.out.cells hlt
      have hok : ActOk w (L i) := by obtain ⟨b0, off0, _, _, hok⟩ := HA.out i (by omega); exact hok
      obtain ⟨hok2, hll2⟩ := cut_ok hok
      have CELLS : Hid (∀ y, (∃ Z, Kp' w2 P Zf y Z) → ∀ e u, (cut (L i)).cells[e]? = some u → y.cell? ⟨g, i * 14 + e, none⟩ = some u) := fun y hy => by obtain ⟨Z, hz⟩ := hy; exact hcell y Z hz
      clear hcell hok RW
      generalize cut (L i) = y at CELLS hok2 hll2
      have hext := hok2.ext
      obtain ⟨kind, z, al, al1, alc, als, u, v', bfa, bfl, bfc, bfs, xg⟩ := y
      have EXT : Hid (Fi w al al1 als) := hext
      have hal : al1 ≤ 12 := hll2
      clear hok2 hll2 hext
      obtain ⟨c0, c1, c2', c3, c4, c5, c6, c7, c8, c9, c10, c11, c12, c13⟩ := act14 (CELLS.out wr ⟨_, KK.out⟩)
      obtain ⟨c26, c27, c28, c29, c30, c31, cf⟩ := phead_all PH.out
      by_cases hk0 : kind = 0
      · subst hk0
        obtain ⟨v0, L2, m2, hr⟩ : ∃ v0 L2 m2, bmp ga ne als mi Li = (v0, L2, m2) := ⟨_, _, _, rfl⟩
        have hbq := bmp_quiet (ne := ne) (ls := als) QU.out IV.out SM.out
        rw [hr] at hbq
        have HR := Lib.hid hr
        have BQ := Lib.hid hbq
        have hv80 : ¬ v0 = 80 := hbq.1
        have hv80b : (v0 == 80) = false := by simpa using hv80
        have KB : Hid (∀ y, Below wr.heap.size wr y → Calls Tryz.prog 12 #[.pointer T, .slice al al1 alc] y fun e y' => e = .returned (.int .i64 v0) ∧ Pr w P p n (8 + 8 * i + np + 1) pw D q E T U (Ext F y y') G H1 H2 m2 m (some L2) (some L0) y' ∧ y'.heap[P]? = y.heap[P]? ∧ Kp y (Us F pw G q H1 H2) y' (Us (Ext F y y') pw G q H1 H2)) := fun y hy =>
          (PR.out.below hy).bump HE.out HP.out IV.out.1 (EXT.out.below (PR.out.below hy).bel) (by omega) (by omega) v0 L2 m2 HR.out
        clear hr hbq
        go_wp2_with fail
        go_region_held (fun x => x.cell? ⟨P, 28, none⟩ = some (.pointer T) ∧ x.cell? ⟨g, i * 14, none⟩ = some (.int .i64 0) ∧ x.cell? ⟨g, i * 14 + 2, none⟩ = some (.slice al al1 alc)) (first | go_keep | exact ⟨(phead_all PH3.out).2.2.1, (act14 (CELLS.out _ ⟨_, KK3.out⟩)).1, (act14 (CELLS.out _ ⟨_, KK3.out⟩)).2.2.1⟩)
          (first
            | (go_at_call 12; (with_reducible refine (KB.out _ (below_drew1 _)).mono ?_); rintro e w3 ⟨rfl, p3, h3, k3⟩; have PR3 := Lib.hid p3; have PH3 := Lib.hid ((PH.out.below (below_drew1 _)).of h3); have KK3 := Lib.hid ((KK.out.trans (Kp'.of_below (below_drew1 _) P _)).trans (k3.but P)); clear p3 h3 k3))
        all_goals
          clear c0 c1 c2' c3 c4 c5 c6 c7 c8 c9 c10 c11 c12 c13 c26 c27 c28 c29 c30 c31 cf
          go_wp2
          go_roundw
          case rel => exact ⟨i + 1, by omega, by go_num, m2, L2, ⟨pw, D, q, E, T, U, _, G, H1, H2, PR3.out.more (by omega) (by omega), PH3.out, KK3.out⟩, BQ.out.2.1, BQ.out.2.2.1, by rw [show 1 + (i + 1) = 1 + i + 1 by omega]; exact BQ.out.2.2.2⟩
          case measure => simp [intOf]; omega
      · have hk0b : (kind == 0) = false := by simpa using hk0
        have hk0d : decide (kind = 0) = false := by simpa using hk0
        go_wp2_with fail
        go_quiet (fail)
        have b3 : Below wr.heap.size wr (wr.drewN nq) := ⟨rfl, rfl, rfl, Nat.le_refl _, fun _ _ => rfl⟩
        have PR3 := Lib.hid (PR.out.below b3)
        have PH3 := Lib.hid (PH.out.below b3)
        have KK3 := Lib.hid (KK.out.trans (Kp'.of_below b3 P _))
        generalize wr.drewN nq = w3 at PR3 PH3 KK3 ⊢
        clear c0 c1 c2' c3 c4 c5 c6 c7 c8 c9 c10 c11 c12 c13 c26 c27 c28 c29 c30 c31 cf b3
        go_wp2
        go_roundw
        case rel => exact ⟨i + 1, by omega, by go_num, mi, Li, ⟨pw, D, q, E, T, U, F, G, H1, H2, PR3.out.more (by omega) (by omega), PH3.out, KK3.out⟩, QU.out, IV.out, SM.out.more (by omega)⟩
        case measure => simp [intOf]; omega
    · have hlt2 : ¬ (i : Int) < (kk : Int) := by omega
      clear RW
      go_upto_if 62 with fail
      go_cut [3] from 60 to 64 (fun s3 wc => ∃ (ll' : Nat) (ls' : List Int), s3 = .slice la ll' lc ∧ ll' ≤ 12 ∧ ll' ≤ lc ∧ Hid (Fi w la ll' ls') ∧ wc = wr)
      case first =>
        by_cases h12 : 12 < ll
        · have h12' : (12 : Int) < (ll : Int) := by omega
          go_wp2
          go_meet
          exact ⟨12, ls.take 12, rfl, by omega, by omega, fi_take HLS.out (by omega), (by first | rfl | trivial)⟩
        · have h12' : ¬ (12 : Int) < (ll : Int) := by omega
          go_wp2
          go_meet
          exact ⟨ll, ls, rfl, by omega, by omega, HLS.out, (by first | rfl | trivial)⟩
      case rest =>
        obtain ⟨ll2, ls2, rfl, h12, hlc2, FL, hw⟩ := hcut
        subst hw
        clear HLS
        obtain ⟨c26, c27, c28, c29, c30, c31, cf⟩ := phead_all PH.out
        go_wp2_with fail
        refine (PR.out.all HP.out IV.out.1.1).mono ?_; rintro e w5 ⟨g5, rfl, o5, b5⟩
        have O5 := Lib.hid o5
        have PR5 := Lib.hid (PR.out.below b5)
        have PH5 := Lib.hid (PH.out.below b5)
        have hg5 := o5.ge g5 rfl
        have NG5 : Hid (¬ Us F pw G q H1 H2 g5) := fun y => by have := (PR.out.ubound y).2; omega
        clear o5 b5 c26 c27 c28 c29 c30 c31 cf PH KK
        obtain ⟨c26, c27, c28, c29, c30, c31, cf⟩ := phead_all PH5.out
        have FE : Hid (PS.fuseE mi.s (fm : Int) = 0) := fuse_ok QU.out.off (by omega) (by omega)
        go_wp2_with fail
        refine (PR5.out.fuse (fm : Int)).mono ?_; rintro e w6 ⟨rfl, p6, h6, k6⟩
        rw [FE.out]
        have PR6 := Lib.hid p6
        have PH6 := Lib.hid (PH5.out.of h6)
        have K6 := Lib.hid k6
        clear p6 h6 k6 c26 c27 c28 c29 c30 c31 cf FE PH5
        obtain ⟨m6, hm6⟩ : ∃ m6 : Vs, ({ mi with s := PS.fuseS mi.s (fm : Int) } : Vs) = m6 := ⟨_, rfl⟩
        have hw6 : m6.wr = 0 := by rw [← hm6]; exact QU.out.wr
        have IV6 : Hid (Inv No2 ga np m6.S Li) := by rw [← hm6]; exact IV.out
        rw [hm6] at PR6
        obtain ⟨v0, L2, m7, hr⟩ : ∃ v0 L2 m7, bmp ga ne ls2 m6 Li = (v0, L2, m7) := ⟨_, _, _, rfl⟩
        have bl := bmp_last (ne := ne) (ls := ls2) n fs hw6 IV6.out SM.out (by omega) HP.out.he1
        rw [hr] at bl
        obtain ⟨hv0, L3, ho3, pg3, hgen⟩ := bl
        have HV0 := Lib.hid hv0
        have HO3 := Lib.hid ho3
        have PG3 := Lib.hid pg3
        have HGEN := Lib.hid hgen
        have HR := Lib.hid hr
        have PG2 : Hid (Pages L2 np) := by have := bmp_pages (ga := ga) (ne := ne) (ls := ls2) (m := m6) IV6.out.1; rw [hr] at this; exact this
        clear hr hv0 ho3 pg3 hgen hm6 hw6
        obtain ⟨c26, c27, c28, c29, c30, c31, cf⟩ := phead_all PH6.out
        go_wp2_with fail
        refine (PR6.out.bump HE.out HP.out IV6.out.1 (FL.out.below PR6.out.bel) (by omega) (by omega) v0 L2 m7 HR.out).mono ?_; rintro e w7 ⟨rfl, p7, h7, k7⟩
        have PR7 := Lib.hid p7
        have PH7 := Lib.hid (PH6.out.of h7)
        have O7 : Hid (Rw.OwnV w7 30 0 (.slice (some ⟨g5, 0, none⟩) ne ne) (gensV Li ne)) := by
          obtain ⟨q1, q2⟩ := K6.out.at_ g5 hg5.2 NG5.out
          obtain ⟨q3, q4⟩ := k7.at_ g5 (Nat.lt_of_lt_of_le hg5.2 K6.out.size) q2
          have := O5.out.keep (w' := w7) (fun b hb => by
            have e : b = g5 := by simpa [Value.ownBlock] using hb.symm
            subst e
            exact q3.trans q1)
          exact this.more (Nat.zero_le _)
        clear p7 h7 k7 K6 O5 NG5 PH6 c26 c27 c28 c29 c30 c31 cf
        obtain ⟨hn4, hsec⟩ := PR7.out.pd.secs
        have hN7 := PR7.out.pd.hN
        have HM : Hid (∀ x ∈ looseOf n m7.S, x.2 ≤ 1000000000) := fun x hx => by
          obtain ⟨m1, m2, m3⟩ := mem_loose.1 hx
          have := (hsec x.1 m1).1
          omega
        have hL4 := loose_len n m7.S
        have hfl := HFS.out.len
        have HCR : Hid (crashed n m7.S fs = ⟨⟨false, none, 0⟩, crashTo n m7.S (fits n m7.S fs) (fits n m7.S fs).length, 0, 0⟩) := rfl
        have HFT : Hid (fitOf (looseOf n m7.S) fs (min fl (looseOf n m7.S).length) = fits n m7.S fs) := by show _ = _; unfold fits; rw [hfl]
        have HK : Hid ((fits n m7.S fs).length ≤ (looseOf n m7.S).length) := by rw [← HFT.out, fitOf_len]; exact Nat.min_le_right _ _
        have HG : Hid (∀ i, i < (fits n m7.S fs).length → Dw.Good (looseOf n m7.S) (fits n m7.S fs) i) := fun i _ => by rw [← HFT.out]; exact fitOf_good _ _ _ i
        clear hsec hfl
        generalize crashed n m7.S fs = mc at HO3 HCR
        generalize fits n m7.S fs = ft at HCR HFT HK HG
        have KL : Hid (∀ y, Below w7.heap.size w7 y → Calls Tryz.prog 18 #[.pointer (some ⟨D, 0, none⟩)] y (ToldL y (looseOf n m7.S))) := fun y hy => by
          obtain ⟨fx, a, b, g, x⟩ := (PR7.out.below hy).pd.dv
          exact loose_any x
        have KF : Hid (∀ y lb lk cc, Below w7.heap.size w7 y → Lo y (some ⟨lb, 0, none⟩) lk (looseOf n m7.S) → Calls Tryz.prog 17 #[.slice (some ⟨lb, 0, none⟩) lk cc, .slice fa fl fc] y (Fitted y ft)) := fun y lb lk cc hy hlo => by
          have hlk := hlo.1
          subst hlk
          have := fit_any y (some ⟨lb, 0, none⟩) fa _ cc fl fc (looseOf n m7.S) fs hlo (HFS.out.below (PR7.out.below hy).bel) (by omega) HM.out hfl9
          rwa [HFT.out] at this
        have KC : Hid (∀ y A' c' pw', Below w7.heap.size w7 y → Pw y pw' ⟨false, none, 0⟩ → Fi y A' ft.length ft → Calls Tryz.prog 15 #[.pointer (some ⟨D, 0, none⟩), .pointer (some ⟨pw', 0, none⟩), .slice A' ft.length c'] y (Crashed y pw' n (8 + 8 * i + np + 1) (crashTo n m7.S ft ft.length))) := fun y A' c' pw' hy hp hff => by
          obtain ⟨fx, a, b, g, x⟩ := (PR7.out.below hy).pd.dv
          exact crash_ok x hp hff HK.out HG.out
        obtain ⟨c26, c27, c28, c29, c30, c31, cf⟩ := phead_all PH7.out
        go_wp2_with fail
        go_region_held (fun x => x.cell? ⟨P, 27, none⟩ = some (.pointer (some ⟨D, 0, none⟩))) (first | go_keep | exact (phead_all PH11.out).2.1 | exact (phead_all PH10.out).2.1 | exact (phead_all PH9.out).2.1 | exact (phead_all PH8.out).2.1)
          (first
            | (go_at_call 16; (with_reducible refine (newpower_any _).mono ?_); rintro e w8 ⟨rfl, p8, b8, z8⟩; have B8 : Hid (Below w7.heap.size w7 w8) := bthen (below_drew1 _) b8; have P8 : Hid (Pw w8 w7.heap.size ⟨false, none, 0⟩) := p8; have PH8 := Lib.hid (PH7.out.below B8.out); clear p8 b8 z8)
            | (go_at_call 18; (with_reducible refine (KL.out _ B8.out).mono ?_); rintro e w9 ⟨lb, lk, lcc, rfl, lo9, hlb, b9⟩; have B9 := Lib.hid (bthen B8.out b9); have LO9 := Lib.hid lo9; have P9 := Lib.hid (P8.out.heap (b9.block _ P8.out.lt)); have PH9 := Lib.hid (PH7.out.below B9.out); clear lo9 hlb b9)
            | (go_at_call 17; (with_reducible refine (KF.out _ _ _ _ B9.out LO9.out).mono ?_); rintro e w10 ⟨A10, c10, rfl, f10, b10⟩; have B10 := Lib.hid (bthen B9.out b10); have F10 := Lib.hid f10; have P10 := Lib.hid (P9.out.heap (b10.block _ P9.out.lt)); have PH10 := Lib.hid (PH7.out.below B10.out); clear f10 b10)
            | (go_at_call 15; (with_reducible refine (KC.out _ _ _ _ B10.out P10.out F10.out).mono ?_); rintro e w11 ⟨X, fx11, mm11, r11, rfl, hX, d11, b11⟩; have B11 := Lib.hid (bthen B10.out b11); have B1011 := Lib.hid b11; have D11 := Lib.hid d11; have P11 := Lib.hid (P10.out.heap (b11.block _ P10.out.lt)); have PH11 := Lib.hid (PH7.out.below B11.out); clear hX d11 b11))
        all_goals
          clear c26 c27 c28 c29 c30 c31 cf KL KF KC
          obtain ⟨x0, x1, x2, x3, x4, x5, x6, x7, x8, x9, x10, x11, x12, x13⟩ := phead_map PH11.out
          have PD11 : Hid (PD w11 (Fresh w10 w11) X w7.heap.size n (8 + 8 * i + np + 1) mc) := by
            rw [HCR.out]
            exact ⟨P11.out, ⟨fx11, mm11, r11, _, D11.out⟩, fun y => by have := y.1; have := P10.out.lt; omega, Nat.zero_le _, hN7⟩
          have BW : Hid (w.heap.size ≤ w7.heap.size ∧ w7.heap.size ≤ w10.heap.size) := ⟨PR7.out.bel.size, B10.out.size⟩
          have HE11 : Hid (∀ k, Fresh w10 w11 k → 0 < k) := fun k y => by
            obtain ⟨t, fr, hh⟩ := HE.out
            have := lt_of_heap hh
            have := y.1
            have := BW.out
            omega
          go_wp2_with fail
          refine (open_yes PD11.out (HE.out.below (PR7.out.below B11.out).bel) HE11.out HP.out (0, L3, mc) HO3.out).mono ?_; rintro e w12 ⟨o12, p12, c12⟩
          rcases o12 with ⟨_, T3, g3, cap3, rfl, tb3, _⟩ | ⟨hn0, _⟩
          · have TB3 := Lib.hid tb3
            have B12 : Hid (Below w7.heap.size w7 w12) := B11.out.trans (c12.below B11.out.size (fun b hb y => by have := y.1; have := BW.out; omega))
            have PR12 := Lib.hid (PR7.out.below B12.out)
            have PH12 := Lib.hid (PH7.out.below B12.out)
            clear tb3 c12 p12 x0 x1 x2 x3 x4 x5 x6 x7 x8 x9 x10 x11 x12 x13
            obtain ⟨c26, c27, c28, c29, c30, c31, cf⟩ := phead_all PH12.out
            have KT : Hid (∀ y, Below w12.heap.size w12 y → Calls Tryz.prog 13 #[.pointer (some ⟨T3, 0, none⟩)] y fun e y' => ∃ g', e = .returned (.slice (some ⟨g', 0, none⟩) ne ne) ∧ Rw.OwnV y' 30 y.heap.size (.slice (some ⟨g', 0, none⟩) ne ne) (gensV L3 ne) ∧ Below y.heap.size y y') := fun y hy => all_any (TB3.out.below hy) HP.out PG3.out.1
            have KU : Hid (∀ y, Below w12.heap.size w12 y → Calls Tryz.prog 13 #[.pointer T] y fun e y' => ∃ g', e = .returned (.slice (some ⟨g', 0, none⟩) ne ne) ∧ Rw.OwnV y' 30 y.heap.size (.slice (some ⟨g', 0, none⟩) ne ne) (gensV L2 ne) ∧ Below y.heap.size y y') := fun y hy => (PR12.out.below hy).all HP.out PG2.out.1
            go_wp2_with fail
            go_region_held (fun x => x.cell? ⟨P, 28, none⟩ = some (.pointer T)) (first | go_keep | exact (phead_all PH14.out).2.2.1 | exact (phead_all PH13.out).2.2.1)
              (first
                | (go_at_call 13; (with_reducible refine (KT.out _ (below_drew1 _)).mono ?_); rintro e w13 ⟨g13, rfl, o13, b13⟩; have B13 : Hid (Below w12.heap.size w12 w13) := bthen (below_drew1 _) b13; have O13 := Lib.hid o13; have PH13 := Lib.hid (PH12.out.below B13.out); clear o13 b13)
                | (go_at_call 13; (with_reducible refine (KU.out _ B13.out).mono ?_); rintro e w14 ⟨g14, rfl, o14, b14⟩; have B14 := Lib.hid (bthen B13.out b14); have O14 := Lib.hid o14; have O13' := Lib.hid (O13.out.below b14); have PH14 := Lib.hid (PH12.out.below B14.out); clear o14 b14))
            all_goals
              have BB : Hid (Below w7.heap.size w7 w14) := bthen B12.out B14.out
              have W13 : Hid (∀ y, Below w14.heap.size w14 y → ∀ j, j < ne → y.cell? ⟨g13, j, none⟩ = some (.int .u64 (gen L3 j : Int))) := fun y hy j hj => ((O13'.out.below hy).cell (gensV_len _ _) (gensK_at hj)).1
              have W14 : Hid (∀ y, Below w14.heap.size w14 y → ∀ j, j < ne → y.cell? ⟨g14, j, none⟩ = some (.int .u64 (gen L2 j : Int))) := fun y hy j hj => ((O14.out.below hy).cell (gensV_len _ _) (gensK_at hj)).1
              have W5 : Hid (∀ y, Below w14.heap.size w14 y → ∀ j, j < ne → y.cell? ⟨g5, j, none⟩ = some (.int .u64 (gen Li j : Int))) := fun y hy j hj => ((O7.out.below (bthen BB.out hy)).cell (gensV_len _ _) (gensK_at hj)).1
              have FLW : Hid (∀ y, Below w14.heap.size w14 y → Fi y la ll2 ls2) := fun y hy => FL.out.below (PR7.out.below (bthen BB.out hy)).bel
              have BEL : Hid (∀ y, Below w14.heap.size w14 y → Below w.heap.size w y) := fun y hy => (PR7.out.below (bthen BB.out hy)).bel
              have GL : Hid (∀ j, gen Li j ≤ 4611686018427387904) := fun j => gen_le IV6.out.1
              have HLL := Lib.hid (fi_len FL.out)
              clear c26 c27 c28 c29 c30 c31 cf KT KU O13 O13' O14 PH13 PH14 B13 B14 BB PR12 PH12 B12 TB3 HE11 BW PD11 P11 D11 B11 B1011 F10 P10 B10 P9 LO9 B9 P8 B8 PH8 PH9 PH10 PH11
              go_wp2
              go_loopw [22] (fun q22 wq => ∃ j : Nat, j ≤ ne ∧ q22 = .int .i64 (j : Int) ∧ Hid (Below w14.heap.size w14 wq)) (fun q22 _ => ne - (intOf q22).toNat)
              case atStart => exact ⟨0, Nat.zero_le _, rfl, Below.refl _ _⟩
              case round =>
                obtain ⟨j, hj, rfl, BQ⟩ := hrel
                by_cases hjl : j < ne
                · have hjl2 : (j : Int) < (ne : Int) := by omega
                  obtain ⟨hg1, hg2⟩ := HGEN.out j hjl
                  have HG1 : Hid (v0 = 0 → gen L3 j = gen Li j + add1 ls2 j ∧ gen L2 j = gen L3 j) := hg1
                  have HG2 : Hid (¬ v0 = 0 → gen Li j ≤ gen L3 j ∧ gen L3 j ≤ gen Li j + add1 ls2 j ∧ gen L2 j = gen Li j) := hg2
                  clear hg1 hg2
                  go_wp2
                  go_loopw [23, 24] (fun s23 s24 wq => ∃ r : Nat, r ≤ ll2 ∧ s24 = .int .i64 (r : Int) ∧ s23 = .int .u64 ((add1 (ls2.take r) j : Nat) : Int) ∧ Hid (Below w14.heap.size w14 wq)) (fun _ s24 _ => ll2 - (intOf s24).toNat)
                  case atStart => exact ⟨0, Nat.zero_le _, rfl, rfl, BQ.out⟩
                  case round =>
                    clear BQ
                    obtain ⟨r, hr, rfl, rfl, BQ⟩ := hrel
                    by_cases hrl : r < ll2
                    · have hrl2 : (r : Int) < (ll2 : Int) := by omega
                      obtain ⟨xr, hxr⟩ : ∃ xr, ls2[r]? = some xr := ⟨_, List.getElem?_eq_getElem (by have := HLL.out; omega)⟩
                      obtain ⟨b1, o1, rfl, cxr⟩ := (FLW.out _ BQ.out).at_ hxr
                      have AD := Lib.hid (add1_take hxr j)
                      clear hxr FLW
                      generalize add1 (ls2.take r) j = d at AD ⊢
                      by_cases hxe : xr = (j : Int)
                      · subst hxe
                        rw [if_pos rfl] at AD
                        go_wp2
                        go_roundw
                        case rel => exact ⟨r + 1, by omega, by go_num, by rw [AD.out]; rfl, BQ⟩
                        case measure => simp [intOf]; omega
                      · have hxe2 : (xr == (j : Int)) = false := by simpa using hxe
                        rw [if_neg hxe] at AD
                        go_wp2
                        go_roundw
                        case rel => exact ⟨r + 1, by omega, by go_num, by rw [AD.out], BQ⟩
                        case measure => simp [intOf]; omega
                    · have hre : r = ll2 := by omega
                      subst hre
                      have hrl2 : ¬ (r : Int) < (r : Int) := by omega
                      have d3 := W13.out _ BQ.out j hjl
                      have d5 := W5.out _ BQ.out j hjl
                      have d2 := W14.out _ BQ.out j hjl
                      have hgl := GL.out j
                      have htk : ls2.take r = ls2 := List.take_of_length_le (by have := HLL.out; omega)
                      rw [htk]
                      have hd1 := add1_le ls2 j
                      clear W13 W14 W5 GL FLW htk
                      generalize add1 ls2 j = d at HG1 HG2 hd1 ⊢
                      generalize gen Li j = a at HG1 HG2 hgl d5
                      generalize gen L3 j = b at HG1 HG2 d3
                      generalize gen L2 j = tt at HG1 HG2 d2
                      have HW : Hid (IntKind.u64.wrap ((a : Int) + (d : Int)) = (a : Int) + (d : Int)) := IntWalk.u64_in _ (by omega)
                      by_cases hv : v0 = 0
                      · obtain ⟨e1, e2⟩ := HG1.out hv
                        subst hv
                        subst e2
                        clear HG1 HG2
                        have hb : (tt : Int) = IntKind.u64.wrap ((a : Int) + (d : Int)) := by rw [HW.out]; omega
                        rw [hb] at d3 d2
                        clear hb e1 HW
                        go_wp2_with fail
                        go_quiet (fail)
                        have BQ2 := Lib.hid (bthen BQ.out (show Below wr.heap.size wr (wr.drewN nq) from ⟨rfl, rfl, rfl, Nat.le_refl _, fun _ _ => rfl⟩))
                        generalize wr.drewN nq = wz at BQ2 ⊢
                        clear d3 d5 d2
                        go_wp2
                        go_roundw
                        case rel => exact ⟨j + 1, by omega, by go_num, BQ2⟩
                        case measure => simp [intOf]; omega
                      · obtain ⟨e1, e2, e3⟩ := HG2.out hv
                        subst e3
                        clear HG1 HG2
                        have s1d : decide ((b : Int) < (tt : Int)) = false := by simp; omega
                        have s2d : decide (IntKind.u64.wrap ((tt : Int) + (d : Int)) < (b : Int)) = false := by rw [HW.out]; simp; omega
                        clear e1 e2 HW hd1 hgl
                        generalize (b : Int) = bI at s1d s2d d3
                        generalize (tt : Int) = tI at s1d s2d d5 d2
                        generalize (d : Int) = dI at s2d ⊢
                        rcases HV0.out with hv0 | hv0 | hv0
                        · exact absurd hv0 hv
                        · subst hv0
                          clear hv HV0 HGEN HR
                          go_wp2_with fail
                          go_quiet (fail)
                          have BQ2 := Lib.hid (bthen BQ.out (show Below wr.heap.size wr (wr.drewN nq) from ⟨rfl, rfl, rfl, Nat.le_refl _, fun _ _ => rfl⟩))
                          generalize wr.drewN nq = wz at BQ2 ⊢
                          clear d3 d5 d2 s1d s2d
                          go_wp2
                          go_roundw
                          case rel => exact ⟨j + 1, by omega, by go_num, BQ2⟩
                          case measure => simp [intOf]; omega
                        · subst hv0
                          clear hv HV0 HGEN HR
                          go_wp2_with fail
                          go_quiet (fail)
                          have BQ2 := Lib.hid (bthen BQ.out (show Below wr.heap.size wr (wr.drewN nq) from ⟨rfl, rfl, rfl, Nat.le_refl _, fun _ _ => rfl⟩))
                          generalize wr.drewN nq = wz at BQ2 ⊢
                          clear d3 d5 d2 s1d s2d
                          go_wp2
                          go_roundw
                          case rel => exact ⟨j + 1, by omega, by go_num, BQ2⟩
                          case measure => simp [intOf]; omega
                · have hjl2 : ¬ (j : Int) < (ne : Int) := by omega
                  have BE := Lib.hid (BEL.out _ BQ.out)
                  clear W13 W14 W5 GL FLW HGEN HR HO3
                  rcases HV0.out with rfl | rfl | rfl
                  all_goals
                    go_wp2_with fail
                    refine (awake_any _ (HE.out.below BE.out)).mono ?_; rintro e w16 ⟨rfl, b16⟩
                    have B16 := Lib.hid (bthen BE.out b16)
                    clear b16
                    go_wp2
                    go_ret
                    exact ⟨rfl, B16.out⟩
          · exact absurd rfl hn0
theorem keeps_law (W : World) (a0 : Int) (w0 : (Lit.int .u16 a0).wf = true) (D : Option Addr) (n c : Nat) (L : Nat → ActV) (hl : n ≤ c) (hm : c ≤ maxLen) (h : Acts W D n L) (a2 : Int) (w2 : (Lit.int .u8 a2).wf = true) (la : Option Addr) (ll lc : Nat) (ls : List Int) (hll : ll ≤ lc) (hlc : lc ≤ maxLen) (hls : Fi W la ll ls) (fa : Option Addr) (fl fc : Nat) (fs : List Int) (hfl : fl ≤ fc) (hfc : fc ≤ maxLen) (hfs : Fi W fa fl fs) (he : Env W) :
    Calls Tryz.prog 4 #[.int .u16 a0, .slice D n c, .int .u8 a2, .slice la ll lc, .slice fa fl fc] W fun e w' => e = .returned (.bool true) ∧ Below W.heap.size W w' := by
  simp [Lit.wf, IntKind.min, IntKind.max, IntKind.signed, IntKind.bits] at w0 w2
  obtain ⟨x, rfl⟩ := Int.eq_ofNat_of_zero_le w0.1
  obtain ⟨y, rfl⟩ := Int.eq_ofNat_of_zero_le w2.1
  exact keeps_walk x (by omega) h (Nat.le_trans hl hm) y (by omega) la ll lc ls hls hll hlc fa fl fc fs hfs (Nat.le_trans hfl hfc) he
end
end Go.Proofs.YtgdgehfapfgdfaaGreatDoor.Tb
