/-
  The walk of the statement on what sectors are behind a crash. No conditions.
-/
import Derived.Test.YtdkniholeaiemaaDvAfter
import Derived.Deep.RegionHeld
import Derived.Deep.DrawnRows
namespace Go.Proofs.Ytdkniholeaiemaa.W
open Go.RowKit Oc Dm Gt Tn
set_option linter.unusedVariables false
set_option maxRecDepth 100000
theorem crashTo_stands (n : Nat) (S : Nat → Sec) (fs : List Int) (k i : Nat) : (crashTo n S fs k i).stands = (crashTo n S fs k i).fixed := Sec.stands_fixed (crashTo_loose n S fs k i)
theorem looseOf_crash (n m : Nat) (S : Nat → Sec) (fs : List Int) (k : Nat) : looseOf m (crashTo n S fs k) = [] := by
  unfold looseOf
  rw [List.filterMap_eq_nil_iff]
  intro i _
  rw [if_pos (crashTo_loose n S fs k i)]
/-- is x as it was fixed, or as one of the first j loose writes says? -/
def Found (x fixed : List UInt8) (loose : List (List UInt8)) (j : Nat) (f : Bool) : Prop := f = true ↔ (x = fixed ∨ ∃ t, t < j ∧ x = loose.getD t [])
theorem found_zero (x fixed : List UInt8) (loose : List (List UInt8)) : Found x fixed loose 0 (decide (x = fixed)) := by
  unfold Found
  simp
theorem found_yes {x fixed : List UInt8} {loose : List (List UInt8)} {j : Nat} (h : Found x fixed loose j true) : Found x fixed loose (j + 1) true := by
  refine ⟨fun _ => ?_, fun _ => rfl⟩
  rcases h.1 rfl with e | ⟨t, ht, e⟩
  · exact .inl e
  · exact .inr ⟨t, by omega, e⟩
theorem found_next {x fixed : List UInt8} {loose : List (List UInt8)} {j : Nat} (h : Found x fixed loose j false) : Found x fixed loose (j + 1) (decide (x = loose.getD j [])) := by
  refine ⟨fun e => .inr ⟨j, by omega, of_decide_eq_true e⟩, fun e => decide_eq_true ?_⟩
  rcases e with e | ⟨t, ht, e⟩
  · exact absurd (h.2 (.inl e)) (by decide)
  · by_cases htj : t = j
    · subst htj; exact e
    · exact absurd (h.2 (.inr ⟨t, by omega, e⟩)) (by decide)
section
variable {o : Nat → Nat} {w : World} {T p q : Nat} {D E ns : Nat → Nat} {N : Nat} {s : PS} {d : Nat → DD}
/-- each sector of a crashed device is one that the document's device tells -/
theorem told_one {n : Nat} {S : Nat → Sec} {fs : List Int} {k : Nat} (hg : ∀ j, Good (looseOf n S) fs j) (i : Nat) {f : Bool} (hf : Found (crashTo n S fs k i).fixed (S i).fixed (S i).loose (S i).loose.length f) : f = true := by
  refine hf.2 ?_
  rcases crashTo_one hg k i with h | ⟨j, hj, h⟩
  · exact .inl h
  · exact .inr ⟨j, hj, h⟩
end
theorem fl_zero {s s' : PS} {d d' : DD} {v : Int} (h : FlWay s d v s' d') (hv : v = 0) : d'.S = flushS d.S := by
  subst hv
  rcases h with ⟨_, h, _⟩ | ⟨_, _, h, _⟩ | ⟨_, _, _, _, h⟩
  · cases h
  · cases h
  · rw [h]
set_option maxHeartbeats 16000000 in
theorem crashes_walk (xa : Nat) (hxa : xa ≤ 255) (A : Option Addr) (n2 c2 : Nat) (L : Nat → ActV) (B0 : Option Addr) (l0 c0' : Nat) (fs : List Int) (w : World) (ha : Acts w A n2 L) (hf : Fi w B0 l0 fs) (hl9 : l0 ≤ 9223372036854775807) :
    Calls Try.prog 4 #[.int .u8 (xa : Int), .slice A n2 c2, .slice B0 l0 c0'] w fun e w' => e = .returned (.bool true) ∧ Below w.heap.size w w' := by
  have HA := Lib.hid ha
  have HF := Lib.hid hf
  obtain ⟨fa, hfa⟩ : ∃ f : Nat, (xa : Int) % 10 = (f : Int) := ⟨xa % 10, by omega⟩
  have hfa2 : fa < 10 := by omega
  clear ha hf
  go_enter Try.func4, Try.ntmps4
  go_wp2_with fail
  refine (begin_mid w fa 1 (by omega) (by omega)).mono ?_; rintro e w1 ⟨T, rfl, af1⟩
  have AF1 := Lib.hid af1
  clear af1
  generalize two fa 1 = ns at AF1
  go_wp2_with fail
  go_loopw [9] (fun q9 wr => ∃ i : Nat, i ≤ n2 ∧ i ≤ 30 ∧ q9 = .int .i64 (i : Int) ∧ Hid (After (fun _ => 0) w T ns i wr)) (fun q9 _ => 30 - (intOf q9).toNat)
  case atStart => exact ⟨0, by omega, by omega, rfl, AF1⟩
  case round =>
    obtain ⟨i, hi, hi2, rfl, AI⟩ := hrel
    clear AF1
    have hlen : i < n2 ∧ i < 30 ∨ n2 ≤ i ∨ (i < n2 ∧ 30 ≤ i) := by omega
    rcases hlen with ⟨hl1, hl2⟩ | hend
    · obtain ⟨b, off, rfl, act⟩ := HA.out i hl1
      have c := act_cells_at act AI.out.all
      have HDO := Lib.hid (fun hN => after_do AI.out hN act)
      clear act HA
      generalize L i = la at c HDO
      obtain ⟨z0, z1, z2, z3, z4, z5, z6, z7, z8, z9, fa', fl, fc, fs'⟩ := la
      obtain ⟨c0, c1, c2', c3, c4, c5, c6, c7, c8, c9, c10⟩ := c
      have hi40 : (i : Int) < 30 := by omega
      have hin : (i : Int) < (n2 : Int) := by omega
      go_wp2_with fail
      refine (HDO.out (by omega)).mono ?_; rintro e w2 ⟨rfl, af2⟩
      have AF2 := Lib.hid af2
      clear af2 c0 c1 c2' c3 c4 c5 c6 c7 c8 c9 c10 HDO AI
      go_wp2
      go_roundw
      case rel => exact ⟨i + 1, by omega, by omega, by go_num, AF2⟩
      case measure => simp [intOf]; omega
    · have AF := AI
      clear HA hi
      obtain ⟨w2, hw2⟩ : ∃ w2, w2 = wr := ⟨_, rfl⟩
      subst hw2
      have hN1 : i + 1 ≤ 1000000 := by omega
      obtain ⟨o, p, q, D, E, s, d, m, x⟩ := AF.out
      have M2 := Lib.hid m
      have X2 := Lib.hid x
      obtain ⟨t0, t3, tk, tf⟩ := m.cells
      obtain ⟨tD, tE⟩ : w2.cell? ⟨T, 1, none⟩ = some (.pointer (some ⟨D 0, 0, none⟩)) ∧ w2.cell? ⟨T, 4, none⟩ = some (.pointer (some ⟨E 0, 0, none⟩)) := tk 0 (by decide)
      clear tk t0 t3 tf m x AI AF
      rcases hend with hend | ⟨hend, hend2⟩
      all_goals
        go_wp2_with fail
        go_quiet (fail)
        have M3 := Lib.hid (M2.out.drewN nq)
        have X3 : Hid (Ex (fun _ => 0) o w (w2.drewN nq)) := X2.out.trans (Ex.drewN o w2 nq)
        generalize w2.drewN nq = w3 at M3 X3 ⊢
        clear M2 X2 tD tE
        go_wp2_with fail
        refine (newpower_any w3).mono ?_; rintro e w4 ⟨rfl, p4, b4, z4⟩
        have P4 : Hid (Pw w4 w3.heap.size ⟨false, none, 0⟩) := p4
        have M4 := Lib.hid (M3.out.below b4)
        have X4 := Lib.hid (X3.out.trans (Ex.of_below b4))
        clear p4 b4 z4 M3 X3
        obtain ⟨gs, vs, rv4⟩ := M4.out.rv 0 (by decide)
        have RV4 := Lib.hid rv4
        have hn4 := (M4.out.secs (k := 0) (by decide)).1
        have hL4 := loose_len (ns 0) (d 0).S
        have HM : Hid (∀ x ∈ looseOf (ns 0) (d 0).S, x.2 ≤ 1000000000) := fun x hx => by
          obtain ⟨m1, m2, m3⟩ := mem_loose.1 hx
          have := ((M4.out.secs (k := 0) (by decide)).2 x.1 m1).1
          omega
        clear rv4
        go_wp2_with fail
        refine (rloose_any RV4.out).mono ?_; rintro e w5 ⟨A5, c5, rfl, lo5, b5⟩
        have LO5 := Lib.hid lo5
        have M5 := Lib.hid (M4.out.below b5)
        have X5 := Lib.hid (X4.out.trans (Ex.of_below b5))
        have P5 := Lib.hid (P4.out.heap (b5.block _ P4.out.lt))
        have F5 : Hid (Fi w5 B0 l0 fs) := HF.out.below X5.out.below
        clear lo5 b5 M4 X4 P4 RV4
        go_wp2_with fail
        refine (fit_any w5 A5 B0 _ _ l0 _ (looseOf (ns 0) (d 0).S) fs LO5.out F5.out (by omega) HM.out hl9).mono ?_; rintro e w6 ⟨A6, c6, rfl, f6, b6⟩
        have F6 := Lib.hid f6
        have M6 := Lib.hid (M5.out.below b6)
        have X6 := Lib.hid (X5.out.trans (Ex.of_below b6))
        have P6 := Lib.hid (P5.out.heap (b6.block _ P5.out.lt))
        clear f6 b6 M5 X5 P5 LO5 F5 HM
        have HK : Hid ((fitOf (looseOf (ns 0) (d 0).S) fs (min l0 (looseOf (ns 0) (d 0).S).length)).length ≤ (looseOf (ns 0) (d 0).S).length) := by rw [fitOf_len]; exact Nat.min_le_right _ _
        have HG : Hid (∀ j, Good (looseOf (ns 0) (d 0).S) (fitOf (looseOf (ns 0) (d 0).S) fs (min l0 (looseOf (ns 0) (d 0).S).length)) j) := fun j => fitOf_good _ _ _ j
        generalize fitOf (looseOf (ns 0) (d 0).S) fs (min l0 (looseOf (ns 0) (d 0).S).length) = ft at F6 HK HG ⊢
        have hft : ft.length ≤ 4096 := by have := HK.out; omega
        generalize hfl : ft.length = fl at F6 HK hft ⊢
        clear hfl hL4
        obtain ⟨fx6, m6, r6, g6, dv6⟩ := M6.out.dv 0 (by decide)
        have DV6 := Lib.hid dv6
        clear dv6
        go_wp2_with fail
        refine (crash_ok DV6.out P6.out F6.out HK.out (fun j _ => HG.out j)).mono ?_; rintro e w7 ⟨Xb, fx7, m7, r7, rfl, hX7, dv7, b7⟩
        have DX7 := Lib.hid dv7
        have M7 := Lib.hid (M6.out.below b7)
        have X7 := Lib.hid (X6.out.trans (Ex.of_below b7))
        clear dv7 b7 hX7 M6 X6 P6 F6 HK DV6
        obtain ⟨gs7, vs7, rv7⟩ := M7.out.rv 0 (by decide)
        have RV7 := Lib.hid rv7
        have HBD : Hid (∀ t, t < ns 0 → ((d 0).S t).loose.length ≤ 1000000 ∧ ((d 0).S t).fixed.length = 64) := fun t ht => by
          have h1 := (M7.out.secs (k := 0) (by decide)).2 t ht
          exact ⟨by omega, h1.2⟩
        clear rv7
        go_wp2
        go_loopw [14] (fun q14 wr => ∃ t : Nat, t ≤ ns 0 ∧ q14 = .int .i64 (t : Int) ∧ Hid (Below w7.heap.size w7 wr)) (fun q14 _ => ns 0 - (intOf q14).toNat)
        case atStart => exact ⟨0, by omega, rfl, Below.refl _ _⟩
        case round =>
          obtain ⟨t, ht, rfl, BT⟩ := hrel
          have RVT := Lib.hid (RV7.out.below BT.out)
          have DXT := Lib.hid (DX7.out.kept (G := fun _ => False) (Chg.of_below BT.out) (fun _ _ x => x))
          obtain ⟨e0, e1, e2, e3, ef⟩ := RVT.out.cells
          by_cases htn : t < ns 0
          · have htn2 : (t : Int) < (ns 0 : Int) := by omega
            go_wp2_with fail
            refine (peek_yes DXT.out t htn).mono ?_; rintro e w8 ⟨b8, rfl, hb8, r8, bb8⟩
            rw [crashTo_stands] at r8
            have TO : Hid (∀ f, Found (crashTo (ns 0) (d 0).S ft fl t).fixed ((d 0).S t).fixed ((d 0).S t).loose ((d 0).S t).loose.length f → f = true) := fun f hf => told_one HG.out t hf
            have BB8 := Lib.hid (bthen BT.out bb8)
            have RV8 := Lib.hid (RVT.out.below bb8)
            have oc8 := r8.oct (i := 0) (by decide)
            rw [Nat.zero_mul] at oc8
            generalize (crashTo (ns 0) (d 0).S ft fl t).fixed = x at oc8 TO
            have OC8 := Lib.hid oc8
            obtain ⟨B, hB⟩ : ∃ B, tx x = .string B := ⟨_, rfl⟩
            have HB := Lib.hid hB
            have cv := fun kk => (oc8.drewN kk).conv bt Try.underlying9 64
            rw [show Value.string (bstr x) = .string B from hB] at cv
            clear e0 e1 e2 e3 ef r8 bb8 hb8 RVT DXT BT oc8
            obtain ⟨e0, e1, e2, e3, ef⟩ := RV8.out.cells
            obtain ⟨s0, s1, s2, sf⟩ := RV8.out.sec htn
            obtain ⟨Bf, hBf⟩ : ∃ Bf, tx ((d 0).S t).fixed = .string Bf := ⟨_, rfl⟩
            rw [hBf] at s0
            obtain ⟨p0, hp0⟩ : ∃ p0, decide (x = ((d 0).S t).fixed) = p0 := ⟨_, rfl⟩
            have hq := tx_beq hB hBf p0 hp0
            have FO : Hid (Found x ((d 0).S t).fixed ((d 0).S t).loose 0 p0) := by rw [← hp0]; exact found_zero _ _ _
            clear hp0 hBf hB e0 e2 e3 ef s1 s2 sf
            go_wp2_with fail
            go_quiet (fail)
            have RV9 := Lib.hid (RV8.out.below (below_drewN (Below.refl _ w8) nq))
            have BB9 : Hid (Below w7.heap.size w7 (w8.drewN nq)) := below_drewN BB8.out nq
            have OC9 : Hid (Oct (w8.drewN nq) (some ⟨b8, 0, none⟩) 64 x) := OC8.out.drewN nq
            generalize w8.drewN nq = w9 at RV9 BB9 OC9 ⊢
            clear RV8 BB8 OC8 cv e1 s0 hq
            obtain ⟨A9, c9, hv9, hlc9, hcm9, hsl9, hG9⟩ := RV9.out.loose t htn
            have SL9 := Lib.hid hsl9
            have HV9 := Lib.hid hv9
            have HLL := Lib.hid (HBD.out t htn).1
            generalize ((d 0).S t).loose = LL at TO FO SL9 HV9 HLL hlc9 hcm9
            obtain ⟨ll, hll⟩ : ∃ ll, LL.length = ll := ⟨_, rfl⟩
            rw [hll] at HV9 TO HLL hlc9 SL9
            have HLN := Lib.hid hll
            have hll6 := HLL.out
            clear hsl9 hv9 hG9 hll HLL
            go_wp2
            obtain ⟨wo, hwo⟩ : ∃ wo, wo = wr := ⟨_, rfl⟩
            subst hwo
            go_loopw [17, 18] (fun q17 q18 wr => ∃ (j : Nat) (f : Bool), j ≤ ll ∧ q17 = .bool f ∧ q18 = .int .i64 (j : Int) ∧ Hid (Found x ((d 0).S t).fixed LL j f) ∧ Hid (Below w9.heap.size w9 wr)) (fun _ q18 _ => ll - (intOf q18).toNat)
            case atStart => exact ⟨0, p0, by omega, rfl, rfl, FO, Below.refl _ _⟩
            case round =>
              obtain ⟨j, f, hj, rfl, rfl, FJ, BJ⟩ := hrel
              have RVJ := Lib.hid (RV9.out.below BJ.out)
              obtain ⟨e0, e1, e2, e3, ef⟩ := RVJ.out.cells
              obtain ⟨s0, s1, s2, sf⟩ := RVJ.out.sec htn
              rw [HV9.out] at s1
              clear e0 e2 e3 ef s0 s2 sf
              by_cases hjl : j < ll
              · have hjl2 : (j : Int) < (ll : Int) := by omega
                cases f with
                | true =>
                  have FN := Lib.hid (found_yes FJ.out)
                  go_wp2_with fail
                  go_quiet (fail)
                  go_wp2
                  go_roundw
                  case rel => exact ⟨j + 1, true, by omega, rfl, by go_num, FN, below_drewN BJ.out _⟩
                  case measure => simp [intOf]; omega
                | false =>
                  obtain ⟨pj, hpj⟩ : ∃ pj, decide (x = LL.getD j []) = pj := ⟨_, rfl⟩
                  have FN := Lib.hid (found_next FJ.out)
                  rw [hpj] at FN
                  obtain ⟨Bj, hBj⟩ : ∃ Bj, tx (LL.getD j []) = .string Bj := ⟨_, rfl⟩
                  have hq := tx_beq HB.out hBj pj hpj
                  obtain ⟨bl, ol, rfl, hc9⟩ := Rw.Sl.at_ (SL9.out.below BJ.out) (k := j) (u := .string Bj) (by rw [List.getElem?_map, List.getElem?_eq_getElem (by rw [HLN.out]; exact hjl)]; rw [← hBj]; simp [List.getD, List.getElem?_eq_getElem (show j < LL.length by rw [HLN.out]; exact hjl)])
                  have cv := fun kk => ((OC9.out.below BJ.out).drewN kk).conv bt Try.underlying9 64
                  rw [show Value.string (bstr x) = .string B from HB.out] at cv
                  clear hpj hBj
                  go_wp2_with fail
                  go_quiet (fail)
                  go_wp2
                  go_roundw
                  case rel => exact ⟨j + 1, pj, by omega, rfl, by go_num, FN, below_drewN BJ.out _⟩
                  case measure => simp [intOf]; omega
              · have hjl2 : ¬ (j : Int) < (ll : Int) := by omega
                have hjj : j = ll := by omega
                have hf : f = true := TO.out f (by rw [← hjj]; exact FJ.out)
                subst hf
                have BN := Lib.hid (bthen BB9.out BJ.out)
                clear hjj
                go_wp2
                go_roundw
                case rel => exact ⟨t + 1, by omega, by go_num, BN⟩
                case measure => simp [intOf]; omega
          · have htn2 : ¬ (t : Int) < (ns 0 : Int) := by omega
            have MT := Lib.hid (M7.out.below BT.out)
            have XT := Lib.hid (X7.out.trans (Ex.of_below BT.out))
            obtain ⟨wt, hwt⟩ : ∃ wt, wt = wr := ⟨_, rfl⟩
            subst hwt
            clear M7 X7 RV7 DX7 HG HBD RVT DXT BT ht htn
            obtain ⟨v, s', d', hw⟩ := fl_way s (d 0)
            have HW := Lib.hid hw
            clear hw
            go_wp2_with fail
            refine (mid_flush MT.out (by decide) hN1 HW.out).mono ?_; rintro e w10 ⟨rfl, o10, m10, x10⟩
            have M10 := Lib.hid m10
            have X10 := Lib.hid (XT.out.trans x10)
            clear m10 x10 MT XT e0 e1 e2 e3 ef
            by_cases hv : v = 0
            · have HS := Lib.hid (fl_zero HW.out hv)
              subst hv
              go_wp2_with fail
              refine (newpower_any w10).mono ?_; rintro e w11 ⟨rfl, p11, b11, z11⟩
              have P11 : Hid (Pw w11 w10.heap.size ⟨false, none, 0⟩) := p11
              have M11 := Lib.hid (M10.out.below b11)
              have X11 := Lib.hid (X10.out.trans (Ex.of_below b11))
              clear p11 b11 z11 M10 X10
              obtain ⟨fx11, m11, r11, g11, dv11⟩ := M11.out.dv 0 (by decide)
              rw [upd_same, HS.out] at dv11
              have DV11 := Lib.hid dv11
              clear dv11 HS HW
              have FN : Hid (Fi w11 none 0 []) := ⟨rfl, fun h => absurd h (by decide)⟩
              go_wp2_with fail
              refine (crash_ok DV11.out P11.out FN.out (Nat.zero_le _) (fun j hj => absurd hj (Nat.not_lt_zero _))).mono ?_; rintro e w12 ⟨Yb, fx12, m12, r12, rfl, hY12, dy12, b12⟩
              have DY12 := Lib.hid dy12
              have DV12 := Lib.hid (DV11.out.kept (G := fun _ => False) (Chg.of_below b12) (fun _ _ x => x))
              have X12 := Lib.hid (X11.out.trans (Ex.of_below b12))
              clear dy12 b12 hY12 M11 X11 P11 FN DV11
              go_wp2
              go_loopw [21] (fun q21 wr => ∃ t : Nat, t ≤ ns 0 ∧ q21 = .int .i64 (t : Int) ∧ Hid (Below w12.heap.size w12 wr)) (fun q21 _ => ns 0 - (intOf q21).toNat)
              case atStart => exact ⟨0, by omega, rfl, Below.refl _ _⟩
              case round =>
                obtain ⟨t, ht, rfl, BT⟩ := hrel
                have DVT := Lib.hid (DV12.out.kept (G := fun _ => False) (Chg.of_below BT.out) (fun _ _ x => x))
                have DYT := Lib.hid (DY12.out.kept (G := fun _ => False) (Chg.of_below BT.out) (fun _ _ x => x))
                go_wp2_with fail
                refine (size_any DVT.out).mono ?_; rintro e w' ⟨rfl, rfl⟩
                by_cases htn : t < ns 0
                · have htn2 : (t : Int) < (ns 0 : Int) := by omega
                  have HCF := Lib.hid (crash_flush (ns 0) (d 0).S t)
                  go_wp2_with fail
                  refine (peek_yes DVT.out t htn).mono ?_; rintro e w13 ⟨b13, rfl, hb13, r13, bb13⟩
                  have R13 := Lib.hid r13
                  have B13 := Lib.hid (bthen BT.out bb13)
                  have DY13 := Lib.hid (DYT.out.kept (G := fun _ => False) (Chg.of_below bb13) (fun _ _ x => x))
                  clear r13 bb13 hb13
                  go_wp2_with fail
                  refine (peek_yes DY13.out t htn).mono ?_; rintro e w14 ⟨b14, rfl, hb14, r14, bb14⟩
                  rw [HCF.out] at r14
                  have B14 := Lib.hid (bthen B13.out bb14)
                  have cv1 := ((R13.out.heap (bb14.block _ R13.out.lt)).oct (i := 0) (by decide)).conv bt Try.underlying9 64
                  have cv2 := (r14.oct (i := 0) (by decide)).conv bt Try.underlying9 64
                  rw [Nat.zero_mul] at cv1 cv2
                  obtain ⟨B, hB⟩ : ∃ B, Value.string (bstr (flushS (d 0).S t).stands) = .string B := ⟨_, rfl⟩
                  rw [hB] at cv1 cv2
                  clear r14 bb14 hb14 hB R13 DY13 DVT DYT
                  go_wp2
                  go_roundw
                  case rel => exact ⟨t + 1, by omega, by go_num, B14⟩
                  case measure => simp [intOf]; omega
                · have htn2 : ¬ (t : Int) < (ns 0 : Int) := by omega
                  have XT := Lib.hid (X12.out.trans (Ex.of_below BT.out))
                  go_wp2_with fail
                  refine (loose_any DVT.out).mono ?_; rintro e w15 ⟨b15, k15, c15, rfl, lo15, hb15, bb15⟩
                  rw [looseOf_flush] at lo15
                  have hk15 : k15 = 0 := lo15.1.symm
                  subst hk15
                  have DY15 := Lib.hid (DYT.out.kept (G := fun _ => False) (Chg.of_below bb15) (fun _ _ x => x))
                  have X15 := Lib.hid (XT.out.trans (Ex.of_below bb15))
                  clear lo15 bb15 hb15
                  go_wp2_with fail
                  refine (loose_any DY15.out).mono ?_; rintro e w16 ⟨b16, k16, c16, rfl, lo16, hb16, bb16⟩
                  rw [looseOf_crash] at lo16
                  have hk16 : k16 = 0 := lo16.1.symm
                  subst hk16
                  have X16 := Lib.hid (X15.out.trans (Ex.of_below bb16))
                  clear lo16 bb16 hb16
                  go_wp2_with fail
                  refine (awake_any _).mono ?_; rintro e w17 ⟨rfl, b17⟩
                  have B17 := Lib.hid (bthen X16.out.below b17)
                  clear b17
                  go_wp2
                  go_ret
                  exact ⟨rfl, B17.out⟩
            · go_wp2_with fail
              refine (awake_any _).mono ?_; rintro e w17 ⟨rfl, b17⟩
              have B17 := Lib.hid (bthen X10.out.below b17)
              clear b17
              go_wp2
              go_ret
              exact ⟨rfl, B17.out⟩
theorem open_fates {H : Type} {enc : TypeId × Value → H} {w : World} {a : Option Addr} {len cap : Nat} {d : DataW H} {p : List MemPlace} {base : Nat} {sp : Nat → Bool} {held : Bool}
    (h : DataW.Trod enc Try.prog w base sp held 29 (.slice a len cap) d p) : len ≤ cap ∧ cap ≤ maxLen ∧ ∃ fs, Fi w a len fs := by
  obtain ⟨fuel, hf⟩ := h
  obtain ⟨fa, fl, fc, fs, e, h1, h2, h3, _⟩ := fates_of (v := .slice a len cap) hf
  injection e with e1 e2 e3
  subst e1 e2 e3
  exact ⟨h2, h3, fs, h1⟩
theorem crashes_law (W : World) (a0 : Int) (w0 : (Lit.int .u8 a0).wf = true) (D : Option Addr) (n c : Nat) (L : Nat → ActV) (hl : n ≤ c) (hm : c ≤ maxLen) (h : Acts W D n L) (B0 : Option Addr) (l0 c0 : Nat) (fs : List Int) (hl0 : l0 ≤ c0) (hm0 : c0 ≤ maxLen) (hf : Fi W B0 l0 fs) :
    Calls Try.prog 4 #[.int .u8 a0, .slice D n c, .slice B0 l0 c0] W fun e w' => e = .returned (.bool true) ∧ Below W.heap.size W w' := by
  simp [Lit.wf, IntKind.min, IntKind.max, IntKind.signed, IntKind.bits] at w0
  obtain ⟨x, rfl⟩ := Int.eq_ofNat_of_zero_le w0.1
  exact crashes_walk x (by omega) D n c L B0 l0 c0 fs W h hf (by unfold maxLen at hm0; omega)
end Go.Proofs.Ytdkniholeaiemaa.W
