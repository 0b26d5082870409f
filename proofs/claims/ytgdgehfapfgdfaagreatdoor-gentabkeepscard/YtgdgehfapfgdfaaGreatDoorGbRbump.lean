/-
  The document's Bump. No conditions.
-/
import Derived.Test.YtgdgehfapfgdfaaGreatDoorGbRopen
import Derived.BigQuiet
namespace Go.Proofs.YtgdgehfapfgdfaaGreatDoor.Tb
open Go.RowKit Oc Dm W Dw Sr Gt
set_option linter.unusedVariables false
set_option maxRecDepth 100000
attribute [local go_sem ↓] Go.wp_at_zero Go.wp_at_succ

/-- an extent that may be bumped no more leaves a page that may not be -/
theorem full_next {L : List Gp} {np ne : Nat} {ls : List Int} (hl : Pages L np) (hr : inR ls ne) (hne : ne ≤ 6 * np) (hf : ∃ x ∈ ls, isFull L x) : ∃ (j : Nat) (y : Gp), (nexts ls L)[j]? = some y ∧ ¬ MayBe y := by
  obtain ⟨x, hx, hF⟩ := hf
  obtain ⟨h0, h1⟩ := hr x hx
  obtain ⟨e, rfl⟩ : ∃ e : Nat, x = (e : Int) := ⟨x.toNat, by omega⟩
  have he : e < ne := by omega
  have hj : e / 6 < L.length := by have := hl.1; omega
  have hL : L[e / 6]? = some L[e / 6] := List.getElem?_eq_getElem hj
  have hD : L.getD (e / 6) zp = L[e / 6] := by simp [List.getD, hj]
  have hh : hit ls (e / 6) = true := hit_iff.2 ⟨e % 6, by omega, by rw [show 6 * (e / 6) + e % 6 = e by omega]; exact hx⟩
  refine ⟨e / 6, upp ls (e / 6) L[e / 6], by rw [nexts_at, hL, Option.map_some, if_pos hh], fun hm => ?_⟩
  unfold isFull at hF
  rw [show ((e : Nat) : Int).toNat = e by omega, hD] at hF
  have h2 : isG (L[e / 6].v + 1) := hm.2.1
  have h3 : isG (L[e / 6].g (e % 6) + add1 ls (6 * (e / 6) + e % 6)) := hm.2.2 (e % 6) (by omega)
  rw [show 6 * (e / 6) + e % 6 = e by omega, show add1 ls e = 1 from if_pos (named_iff.2 hx)] at h3
  unfold isG at h2 h3
  omega
theorem next_full {L : List Gp} {np ne : Nat} {ls : List Int} (hl : Pages L np) (hr : inR ls ne) {j : Nat} {y : Gp} (hy : (nexts ls L)[j]? = some y) (hm : ¬ MayBe y) : ∃ x ∈ ls, isFull L x :=
  Classical.byContradiction fun h => hm ((nexts_pages hl hr h).2 j y hy).1
def jfrom (ga : Nat) (ls : List Int) (L : List Gp) (j : Nat) : List (Nat × List UInt8) := (((List.range L.length).drop j).filter (hit ls)).map fun j => job ga (upp ls j (L.getD j zp))
theorem jfrom_zero (ga : Nat) (ls : List Int) (L : List Gp) : jfrom ga ls L 0 = jobs ga ls L := rfl
theorem drop_range {n j : Nat} (h : j < n) : (List.range n).drop j = j :: (List.range n).drop (j + 1) := by
  rw [List.drop_eq_getElem_cons (by simpa using h)]
  simp
theorem jfrom_yes {ga : Nat} {ls : List Int} {L : List Gp} {j : Nat} (hj : j < L.length) (h : hit ls j = true) : jfrom ga ls L j = job ga (upp ls j (L.getD j zp)) :: jfrom ga ls L (j + 1) := by
  unfold jfrom
  rw [drop_range hj, List.filter_cons_of_pos h, List.map_cons]
theorem jfrom_no {ga : Nat} {ls : List Int} {L : List Gp} {j : Nat} (hj : j < L.length) (h : hit ls j = false) : jfrom ga ls L j = jfrom ga ls L (j + 1) := by
  unfold jfrom
  rw [drop_range hj, List.filter_cons_of_neg (by rw [h]; decide)]
theorem jfrom_end {ga : Nat} {ls : List Int} {L : List Gp} {j : Nat} (hj : L.length ≤ j) : jfrom ga ls L j = [] := by
  unfold jfrom
  rw [List.drop_of_length_le (by simpa using hj)]
  rfl
section
variable {w w' : World} {H G : Nat → Prop} {T E q g cap ne np ga n k c N : Nat} {m : Vs} {p : Pn.Pl} {L : List Gp} {ls : List Int} {A : Option Addr}
set_option maxHeartbeats 4000000 in
theorem rbump_any (h : RD w G E q n N m) (hp : Pln p ne np ga n) (hl : Pages L np) (ht : TbAt w H 148 T E g cap p L) (hH : ∀ b, H b → ¬ Al G q b) (hHb : ∀ b, H b → b < w.heap.size) (hf : Fi w A k ls) (hk : k ≤ 1000000) (hN : N + np + 1 ≤ 1000000) (v : Int) (L2 : List Gp) (m2 : Vs) (hr : bmp ga ne ls m L = (v, L2, m2)) :
    Calls Tryz.prog 30 #[.pointer (some ⟨T, 0, none⟩), .slice A k c] w fun e w' => e = .returned (.int .i64 v) ∧ ∃ s, w.heap.size ≤ s ∧ s ≤ w'.heap.size ∧ RD w' (fun b => G b ∨ (s ≤ b ∧ b < w'.heap.size)) E q n (N + np + 1) m2 ∧ (∃ g' cap', TbAt w' (fun b => H b ∨ (w.heap.size ≤ b ∧ b < s)) 148 T E g' cap' p L2) ∧ Chg (fun b => Al G q b ∨ H b) w w' := by
  have HD := Lib.hid h
  have HP := Lib.hid hp
  have HL := Lib.hid hl
  have HT := Lib.hid ht
  have HH := Lib.hid (show (∀ b, H b → ¬ Al G q b) ∧ (∀ b, H b → b < w.heap.size) from ⟨hH, hHb⟩)
  have HF := Lib.hid hf
  have HK := Lib.hid hk
  have HN := Lib.hid hN
  have HR := Lib.hid hr
  have HU := Lib.hid (fi_len hf)
  have HG : Hid (∀ b, Al G q b → b < w.heap.size) := h.bound
  have hnp : np ≤ 4096 := by have := hp.hn; have := hp.hn2; omega
  have hkb : k ≤ 1000000 := hk
  have HLn : Hid (L.length = np) := hl.1
  have HS : Hid (∀ w', Below w.heap.size w w' → RD w' (fun b => G b ∨ (w.heap.size ≤ b ∧ b < w'.heap.size)) E q n (N + np + 1) m ∧ TbAt w' (fun b => H b ∨ (w.heap.size ≤ b ∧ b < w.heap.size)) 148 T E g cap p L ∧ Chg (fun b => Al G q b ∨ H b) w w' ∧ w.heap.size ≤ w'.heap.size) := fun w' hb =>
    ⟨((RDJ.start HD.out).below hb).rd.more (by have := HN.out; omega) HN.out, (by
      obtain ⟨a1, a2, a3, a4, a5⟩ := HT.out.below hb
      exact ⟨a1, a2, a3, ⟨.inl a4.1, .inl a4.2⟩, a5⟩), Chg.of_below hb, hb.size⟩
  clear h hp hl ht hH hHb hf hk hN hr
  go_enter Tryz.func30, Tryz.ntmps30
  go_wp2
  go_loopw [5] (fun q5 wr => ∃ j : Nat, j ≤ k ∧ q5 = .int .i64 (j : Int) ∧ Hid (∀ i x, i < j → ls[i]? = some x → 0 ≤ x ∧ x < (ne : Int)) ∧ Hid (Below w.heap.size w wr)) (fun q5 _ => k - (intOf q5).toNat)
  case atStart => exact ⟨0, by omega, rfl, fun i x h => by omega, Below.refl _ _⟩
  case round =>
    obtain ⟨j, hj, rfl, IJ, BJ⟩ := hrel
    have c2 : wr.cell? ⟨T, 2, none⟩ = some (.int .i64 (ne : Int)) := by
      have := (HT.out.below BJ.out).cells.2.2.1 1 (.int .i64 p.a1) rfl
      rwa [HP.out.h1] at this
    by_cases hlt : j < k
    · have hlt2 : (j : Int) < (k : Int) := by omega
      obtain ⟨f, hf⟩ : ∃ f, ls[j]? = some f := ⟨_, List.getElem?_eq_getElem (by rw [HU.out]; exact hlt)⟩
      obtain ⟨fb, fo, rfl, hfc⟩ := Fi.at_ (Rw.Sl.below HF.out BJ.out) hf
      have HFX := Lib.hid hf
      clear hf
      by_cases h1 : f < 0
      · have HV : Hid (v = 3 ∧ L2 = L ∧ m2 = m) := by
          have hr := HR.out
          unfold bmp at hr
          rw [if_pos (fun x => by have := (x f (List.mem_of_getElem? HFX.out)).1; omega)] at hr
          cases hr
          exact ⟨rfl, rfl, rfl⟩
        go_wp2_with fail
        go_quiet (fail)
        go_wp2
        go_ret
        obtain ⟨e1, e2, e3⟩ := HV.out
        rw [e1, e2, e3]
        exact ⟨rfl, w.heap.size, Nat.le_refl _, (HS.out _ (below_drewN BJ.out _)).2.2.2, (HS.out _ (below_drewN BJ.out _)).1, ⟨g, cap, (HS.out _ (below_drewN BJ.out _)).2.1⟩, (HS.out _ (below_drewN BJ.out _)).2.2.1⟩
      · by_cases h2 : (ne : Int) ≤ f
        · have hd : decide ((ne : Int) ≤ f) = true := by simp; omega
          have HV : Hid (v = 3 ∧ L2 = L ∧ m2 = m) := by
            have hr := HR.out
            unfold bmp at hr
            rw [if_pos (fun x => by have := (x f (List.mem_of_getElem? HFX.out)).2; omega)] at hr
            cases hr
            exact ⟨rfl, rfl, rfl⟩
          go_wp2_with fail
          go_quiet (fail)
          go_wp2
          go_ret
          obtain ⟨e1, e2, e3⟩ := HV.out
          rw [e1, e2, e3]
          exact ⟨rfl, w.heap.size, Nat.le_refl _, (HS.out _ (below_drewN BJ.out _)).2.2.2, (HS.out _ (below_drewN BJ.out _)).1, ⟨g, cap, (HS.out _ (below_drewN BJ.out _)).2.1⟩, (HS.out _ (below_drewN BJ.out _)).2.2.1⟩
        · have hd : decide ((ne : Int) ≤ f) = false := by simp; omega
          have IK : Hid (∀ i x, i < j + 1 → ls[i]? = some x → 0 ≤ x ∧ x < (ne : Int)) := fun i x hi hx => by
            by_cases e : i = j
            · subst e
              rw [HFX.out] at hx
              injection hx with hx
              omega
            · exact IJ.out i x (by omega) hx
          go_wp2_with fail
          go_quiet (fail)
          go_wp2
          go_roundw
          case rel => exact ⟨j + 1, by omega, by go_num, IK, below_drewN BJ.out _⟩
          case measure => simp [intOf]; omega
    · have hlt2 : ¬ (j : Int) < (k : Int) := by omega
      have hjk : j = k := by omega
      have IN : Hid (inR ls ne) := fun x hx => by
        obtain ⟨i, hi⟩ := List.getElem?_of_mem hx
        have := (List.getElem?_eq_some_iff.1 hi).1
        have := HU.out
        exact IJ.out i x (by omega) hi
      subst hjk
      clear IJ c2
      by_cases h0 : j = 0
      · have HV : Hid (v = 0 ∧ L2 = L ∧ m2 = m) := by
          have hr := HR.out
          have e0 : ls = [] := List.eq_nil_of_length_eq_zero (by rw [HU.out]; exact h0)
          unfold bmp at hr
          rw [if_neg (fun x => x IN.out), if_neg (by rw [e0]; rintro ⟨x, hx, _⟩; cases hx), if_pos e0] at hr
          cases hr
          exact ⟨rfl, rfl, rfl⟩
        subst h0
        go_wp2
        go_ret
        obtain ⟨e1, e2, e3⟩ := HV.out
        rw [e1, e2, e3]
        have := HS.out _ BJ.out
        exact ⟨rfl, w.heap.size, Nat.le_refl _, this.2.2.2, this.1, ⟨g, cap, this.2.1⟩, this.2.2.1⟩
      · have hk0 : ¬ ((j : Nat) : Int) = 0 := by omega
        go_wp2_with fail
        refine (rnext_any (c := c) (HT.out.below BJ.out) HP.out HL.out (Rw.Sl.below HF.out BJ.out) HK.out).mono ?_
        rintro e w2 ⟨g1, c1, g2, rfl, o2, f2, hc1, hc2, b2⟩
        rw [inside_all IN.out] at o2 f2
        have B2 := Lib.hid (bthen BJ.out b2)
        have O2 := Lib.hid (o2.more BJ.out.size)
        have F2 := Lib.hid (f2.more BJ.out.size)
        have HC := Lib.hid (show np ≤ c1 ∧ c1 ≤ maxLen from ⟨hc1, hc2⟩)
        have GE : Hid (w.heap.size ≤ g1 ∧ w.heap.size ≤ g2 ∧ g1 < w2.heap.size) := ⟨(O2.out.ge g1 rfl).1, (F2.out.ge g2 rfl).1, (O2.out.ge g1 rfl).2⟩
        have R2 := Lib.hid (RDJ.start (HD.out.below B2.out))
        have HML : Hid (((nexts ls L).map gcs).length = np) := by show _ = _; rw [List.length_map, nexts_length, HLn.out]
        clear o2 f2 b2 hc1 hc2 BJ
        go_wp2
        go_loopw [8] (fun q8 wr => ∃ i : Nat, i ≤ np ∧ q8 = .int .i64 (i : Int) ∧ Hid (∀ (i' : Nat) (y : Gp), i' < i → (nexts ls L)[i']? = some y → MayBe y) ∧ Hid (Below w2.heap.size w2 wr)) (fun q8 _ => np - (intOf q8).toNat)
        case atStart => exact ⟨0, by omega, rfl, fun i' y h => by omega, Below.refl _ _⟩
        case round =>
          obtain ⟨i, hi, rfl, MI, BI⟩ := hrel
          have OI := Lib.hid (O2.out.below BI.out)
          by_cases hlt : i < np
          · have hlt2 : (i : Int) < (np : Int) := by omega
            obtain ⟨y, hy⟩ : ∃ y, (nexts ls L)[i]? = some y := ⟨_, List.getElem?_eq_getElem (by rw [nexts_length, HLn.out]; exact hlt)⟩
            have HY := Lib.hid hy
            have hmy : ((nexts ls L).map gcs)[i]? = some (gcs y) := by rw [List.getElem?_map, hy]; rfl
            have LD : Hid ((Instr.loadAt 33 (.pointer (some ⟨g1, i * 8, none⟩))).run Tryz.prog wr = .ok (.agg #[.int .i64 y.no, .int .u64 (y.v : Int), .int .u64 (y.g 0 : Int), .int .u64 (y.g 1 : Int), .int .u64 (y.g 2 : Int), .int .u64 (y.g 3 : Int), .int .u64 (y.g 4 : Int), .int .u64 (y.g 5 : Int)]) wr) := OI.out.load HML.out hmy Tryz.underlying33 rfl info_gp rfl
            obtain ⟨b, hb⟩ : ∃ b : Bool, b = true ↔ MayBe y := by
              by_cases h : MayBe y
              · exact ⟨true, by simp [h]⟩
              · exact ⟨false, by simp [h]⟩
            have HB := Lib.hid hb
            clear hy hmy hb
            go_wp2_with ((with_reducible apply L_ld); exact rfl; exact LD.out)
            refine (rmay_any y b _ HB.out).mono ?_; rintro e w3 ⟨rfl, b3⟩
            have B3 := Lib.hid (bthen BI.out b3)
            clear b3
            cases b
            · have HV : Hid (v = 5 ∧ L2 = L ∧ m2 = m) := by
                have hr := HR.out
                have hm : ¬ MayBe y := fun h => by have := HB.out.2 h; cases this
                unfold bmp at hr
                rw [if_neg (fun x => x IN.out), if_pos (next_full HL.out IN.out HY.out hm)] at hr
                cases hr
                exact ⟨rfl, rfl, rfl⟩
              go_wp2
              go_ret
              obtain ⟨e1, e2, e3⟩ := HV.out
              rw [e1, e2, e3]
              have := HS.out _ (bthen B2.out B3.out)
              exact ⟨rfl, w.heap.size, Nat.le_refl _, this.2.2.2, this.1, ⟨g, cap, this.2.1⟩, this.2.2.1⟩
            · have MK : Hid (∀ (i' : Nat) (y : Gp), i' < i + 1 → (nexts ls L)[i']? = some y → MayBe y) := fun i' y' h1 h2 => by
                by_cases e : i' = i
                · subst e
                  rw [HY.out] at h2
                  injection h2 with h2
                  subst h2
                  exact HB.out.1 rfl
                · exact MI.out i' y' (by omega) h2
              go_wp2
              go_roundw
              case rel => exact ⟨i + 1, by omega, by go_num, MK, B3⟩
              case measure => simp [intOf]; omega
          · have hlt2 : ¬ (i : Int) < (np : Int) := by omega
            have NF : Hid (¬ ∃ x ∈ ls, isFull L x) := fun hf => by
              obtain ⟨j', y, h1, h2⟩ := full_next HL.out IN.out HP.out.he1 hf
              have := (List.getElem?_eq_some_iff.1 h1).1
              rw [nexts_length, HLn.out] at this
              exact h2 (MI.out j' y (by omega) h1)
            have HPU : Hid (puts (jobs ga ls L) m = (v, m2) ∧ L2 = if v = 0 then nexts ls L else L) := by
              have hr := HR.out
              have e0 : ¬ ls = [] := fun e => h0 (by rw [← HU.out, e]; rfl)
              unfold bmp at hr
              rw [if_neg (fun x => x IN.out), if_neg NF.out, if_neg e0] at hr
              cases hr
              exact ⟨rfl, rfl⟩
            have SS : Hid (∀ x N' mi, RDJ w2 G E q n N' mi x → TbAt x H 148 T E g cap p L ∧ OwnS x 33 8 w.heap.size (.slice (some ⟨g1, 0, none⟩) np c1) ((nexts ls L).map gcs) ∧ Rw.OwnV x 4 w.heap.size (.slice (some ⟨g2, 0, none⟩) np np) (flags ls np)) := fun x N' mi hx =>
              ⟨(HT.out.below B2.out).kept hx.chg HH.out.1, O2.out.keep (fun b hb => hx.chg.block b (O2.out.ge b hb).2 (fun z => by have := HG.out b z; have := (O2.out.ge b hb).1; omega)), F2.out.keep (fun b hb => hx.chg.block b (F2.out.ge b hb).2 (fun z => by have := HG.out b z; have := (F2.out.ge b hb).1; omega))⟩
            clear MI OI
            go_wp2
            go_loopw [9] (fun q9 wr => ∃ i : Nat, i ≤ np ∧ q9 = .int .i64 (i : Int) ∧ ∃ mi, Hid (RDJ w2 G E q n (N + i) mi wr) ∧ Hid (puts (jfrom ga ls L i) mi = (v, m2))) (fun q9 _ => np - (intOf q9).toNat)
            case atStart => exact ⟨0, by omega, rfl, m, R2.out.below BI.out, HPU.out.1⟩
            case round =>
              obtain ⟨i, hi, rfl, mi, RI, PI⟩ := hrel
              obtain ⟨ti, oi, fi⟩ := SS.out _ _ _ RI.out
              have TI := Lib.hid ti
              have OI := Lib.hid oi
              have FI := Lib.hid fi
              clear ti oi fi
              by_cases hlt : i < np
              · have hlt2 : (i : Int) < (np : Int) := by omega
                obtain ⟨cf, ff⟩ := FI.out.cell (flags_len _ _) (flags_at (l := ls) hlt)
                have hil : i < L.length := by rw [HLn.out]; exact hlt
                cases hh : hit ls i
                · rw [hh] at cf
                  have PK : Hid (puts (jfrom ga ls L (i + 1)) mi = (v, m2)) := by show _ = _; rw [← jfrom_no hil hh]; exact PI.out
                  have RK := Lib.hid (RI.out.more (N' := N + (i + 1)) (by omega) (by have := HN.out; omega))
                  clear hh
                  go_wp2
                  go_roundw
                  case rel => exact ⟨i + 1, by omega, by go_num, mi, RK, PK⟩
                  case measure => simp [intOf]; omega
                · rw [hh] at cf
                  obtain ⟨y, hy⟩ : ∃ y, upp ls i (L.getD i zp) = y := ⟨_, rfl⟩
                  have hny : (nexts ls L)[i]? = some y := by rw [nexts_at, List.getElem?_eq_getElem hil, Option.map_some, if_pos hh, ← hy]; simp [List.getD, hil]
                  have hmy : ((nexts ls L).map gcs)[i]? = some (gcs y) := by rw [List.getElem?_map, hny]; rfl
                  have YM : Hid (MayBe y ∧ y.no = (i : Int)) := (nexts_pages HL.out IN.out NF.out).2 i y hny
                  obtain ⟨v1, m1, hv⟩ : ∃ v1 m1, wr1 mi (spot ga y) (sect y) = (v1, m1) := ⟨_, _, rfl⟩
                  have HV := Lib.hid hv
                  have PI2 : Hid (puts ((spot ga y, sect y) :: jfrom ga ls L (i + 1)) mi = (v, m2)) := by
                    have := PI.out
                    rw [jfrom_yes hil hh, hy] at this
                    exact this
                  have KW : Hid (∀ w', Below wr.heap.size wr w' → Calls Tryz.prog 67 #[.pointer (some ⟨E, 0, none⟩), (.agg #[.int .i64 p.a0, .int .i64 p.a1, .int .i64 p.a2, .int .i64 p.a3, .int .i64 p.a4, .int .i64 p.a5, .int .i64 p.a6, .int .i64 p.a7, .int .i64 p.a8, .int .i64 p.a9, .int .i64 p.a10, .int .i64 p.a11, .int .i64 p.a12]), (.agg #[.int .i64 y.no, .int .u64 (y.v : Int), .int .u64 (y.g 0 : Int), .int .u64 (y.g 1 : Int), .int .u64 (y.g 2 : Int), .int .u64 (y.g 3 : Int), .int .u64 (y.g 4 : Int), .int .u64 (y.g 5 : Int)])] w' fun e w'' => e = .returned (.int .i64 v1) ∧ RDJ w2 G E q n (N + (i + 1)) m1 w'') := fun w' hb => by
                    have := (RI.out.below hb).write HP.out (by have := HN.out; omega) hlt YM.out.2 YM.out.1
                    rw [hv] at this
                    exact this
                  have LD : Hid (∀ x, OwnS x 33 8 w.heap.size (.slice (some ⟨g1, 0, none⟩) np c1) ((nexts ls L).map gcs) → (Instr.loadAt 33 (.pointer (some ⟨g1, i * 8, none⟩))).run Tryz.prog x = .ok (.agg #[.int .i64 y.no, .int .u64 (y.v : Int), .int .u64 (y.g 0 : Int), .int .u64 (y.g 1 : Int), .int .u64 (y.g 2 : Int), .int .u64 (y.g 3 : Int), .int .u64 (y.g 4 : Int), .int .u64 (y.g 5 : Int)]) x) := fun x hx => hx.load HML.out hmy Tryz.underlying33 rfl info_gp rfl
                  clear hh hy hny hmy hv hil
                  go_wp2_with fail
                  refine gate (fun x => TbAt x H 148 T E g cap p L ∧ OwnS x 33 8 w.heap.size (.slice (some ⟨g1, 0, none⟩) np c1) ((nexts ls L).map gcs)) 13 [0, 1, 2, 3, 4, 5, 6, 7, 8, 9, 10, 11] 2 (by kernel_rfl) (by kernel_rfl) (by kernel_rfl) rfl ?_ ⟨TI.out.below (below_drew1 _), OI.out.drew⟩ ?_
                  · intro d v c a w h
                    cases d <;> exact h
                  iterate 3
                    refine yields_step ?_ rfl rfl ?_ ?_
                    rotate_left
                    · intro x hS; go_simp; rfl
                  refine yields_step ?_ rfl rfl ?_ ?_
                  rotate_left
                  · intro x hS; have c0 := hS.1.cells.1; go_simp; rfl
                  iterate 3
                    refine yields_step ?_ rfl rfl ?_ ?_
                    rotate_left
                    · intro x hS; go_simp; rfl
                  refine yields_step (.agg #[.int .i64 p.a0, .int .i64 p.a1, .int .i64 p.a2, .int .i64 p.a3, .int .i64 p.a4, .int .i64 p.a5, .int .i64 p.a6, .int .i64 p.a7, .int .i64 p.a8, .int .i64 p.a9, .int .i64 p.a10, .int .i64 p.a11, .int .i64 p.a12]) rfl rfl ?_ ?_
                  · intro x hS; exact exec_ld rfl (by go_simp) hS.1.plan
                  iterate 3
                    refine yields_step ?_ rfl rfl ?_ ?_
                    rotate_left
                    · intro x hS; go_simp; rfl
                  refine yields_step (.agg #[.int .i64 y.no, .int .u64 (y.v : Int), .int .u64 (y.g 0 : Int), .int .u64 (y.g 1 : Int), .int .u64 (y.g 2 : Int), .int .u64 (y.g 3 : Int), .int .u64 (y.g 4 : Int), .int .u64 (y.g 5 : Int)]) rfl rfl ?_ ?_
                  · intro x hS; exact exec_ld rfl (by go_simp) (LD.out x hS.2)
                  refine Gate.next (i := 12) (by kernel_rfl) rfl rfl (fun K hK => ?_)
                  go_simp
                  refine (KW.out _ (below_drew1 _)).mono ?_; rintro e w4 ⟨rfl, p4⟩
                  have R4 := Lib.hid p4
                  have S4 := SS.out _ _ _ p4
                  refine hK _ _ (fun _ => ⟨S4.1, S4.2.1⟩) ?_
                  clear hK K S4 p4
                  refine Gate.next (i := 13) (by kernel_rfl) rfl rfl (fun K hK => ?_)
                  go_simp
                  refine hK _ _ (fun h => absurd rfl h) ?_
                  clear hK K cf ff
                  refine Gate.done (by kernel_rfl) ?_
                  by_cases hv0 : v1 = 0
                  · have PK : Hid (puts (jfrom ga ls L (i + 1)) m1 = (v, m2)) := by
                      have h1 := PI2.out
                      rw [puts_ok (by show (wr1 mi (spot ga y) (sect y)).1 = 0; rw [HV.out]; exact hv0)] at h1
                      have e : (wr1 mi (spot ga y, sect y).1 (spot ga y, sect y).2) = (v1, m1) := HV.out
                      rw [e] at h1
                      exact h1
                    subst hv0
                    go_wp2
                    go_roundw
                    case rel => exact ⟨i + 1, by omega, by go_num, m1, R4, PK⟩
                    case measure => simp [intOf]; omega
                  · have EV : Hid (v = v1 ∧ m2 = m1) := by
                      have h1 := PI2.out
                      rw [puts_no (by show ¬ (wr1 mi (spot ga y) (sect y)).1 = 0; rw [HV.out]; exact hv0)] at h1
                      have e : (wr1 mi (spot ga y, sect y).1 (spot ga y, sect y).2) = (v1, m1) := HV.out
                      rw [e] at h1
                      cases h1
                      exact ⟨rfl, rfl⟩
                    have RE := Lib.hid (show RD _ _ E q n (N + np + 1) _ ∧ Chg (Al G q) w _ ∧ w2.heap.size ≤ _ from ⟨(R4.out.more (N' := N + np + 1) (by omega) HN.out).rd, ((R4.out.more (N' := N + np + 1) (by omega) HN.out).end_ HD.out B2.out).2, R4.out.chg.size⟩)
                    have TE := Lib.hid ((SS.out _ _ _ R4.out).1)
                    have hv0' : ¬ ((v1 : Int) = 0) := hv0
                    go_wp2
                    go_ret
                    obtain ⟨e1, e2⟩ := EV.out
                    have e3 := HPU.out.2
                    rw [e1, if_neg hv0] at e3
                    rw [e1, e2, e3]
                    obtain ⟨a1, a2, a3, a4, a5⟩ := TE.out
                    exact ⟨rfl, w2.heap.size, B2.out.size, RE.out.2.2, RE.out.1, ⟨g, cap, a1, a2, a3, ⟨.inl a4.1, .inl a4.2⟩, a5⟩, RE.out.2.1.mono (fun _ _ x => .inl x)⟩
              · have hlt2 : ¬ (i : Int) < (np : Int) := by omega
                have PF : Hid (fl1 mi = (v, m2)) := by
                  have h1 := PI.out
                  rw [jfrom_end (by rw [HLn.out]; omega)] at h1
                  exact h1
                obtain ⟨c0, c14, cm, fr⟩ := TI.out.cells
                clear cm fr
                go_wp2_with fail
                refine (RI.out.flush (by have := HN.out; omega)).mono ?_; rintro e w4 ⟨rfl, p4⟩
                rw [PF.out] at p4
                rw [PF.out]
                have T4 := Lib.hid (SS.out _ _ _ p4)
                have RE := Lib.hid (show RD _ _ E q n (N + np + 1) _ ∧ Chg (Al G q) w _ ∧ w2.heap.size ≤ _ from ⟨(p4.more (N' := N + np + 1) (by have := HN.out; omega) HN.out).rd, ((p4.more (N' := N + np + 1) (by have := HN.out; omega) HN.out).end_ HD.out B2.out).2, p4.chg.size⟩)
                have SZ : Hid (w2.heap.size ≤ w4.heap.size) := p4.chg.size
                clear p4 c0 c14
                dsimp only
                by_cases hv0 : v = 0
                · have e3 := HPU.out.2
                  rw [if_pos hv0] at e3
                  have E3 := Lib.hid e3
                  clear e3
                  obtain ⟨c0, c14, cm, fr⟩ := T4.out.1.cells
                  have f14 := fr 14
                  have T5 : Hid ((w4.setCell ⟨T, 14, none⟩ (.slice (some ⟨g1, 0, none⟩) np c1)).heap[T]? = some (.cells #[.pointer (some ⟨E, 0, none⟩), .int .i64 p.a0, .int .i64 p.a1, .int .i64 p.a2, .int .i64 p.a3, .int .i64 p.a4, .int .i64 p.a5, .int .i64 p.a6, .int .i64 p.a7, .int .i64 p.a8, .int .i64 p.a9, .int .i64 p.a10, .int .i64 p.a11, .int .i64 p.a12, .slice (some ⟨g1, 0, none⟩) np c1] 148 (0, 0))) := by
                    show _ = _
                    rw [heap_setCell_same _ _ _ _ _ _ T4.out.1.head]
                    rfl
                  have g5 := grown_set w4 T 14 (.slice (some ⟨g1, 0, none⟩) np c1)
                  have hTw : T < w.heap.size := HT.out.lt.1
                  have O5 := Lib.hid (T4.out.2.1.keep (w' := w4.setCell ⟨T, 14, none⟩ (.slice (some ⟨g1, 0, none⟩) np c1)) (fun b e => g5.block b (T4.out.2.1.ge b e).2 (fun e2 => by injection e2 with e2; have := (T4.out.2.1.ge b e).1; omega)))
                  have C5 := Lib.hid (Chg.of_grown (F := fun b => b = T) g5 (fun k e _ => by injection e with e; exact e.symm))
                  have HTA : Hid (H T ∧ ¬ Al G q T) := ⟨HT.out.inH.1, HH.out.1 _ HT.out.inH.1⟩
                  have R5 := Lib.hid (RE.out.1.kept C5.out (fun b x e => by
                    subst e
                    exact x.elim (fun y => y.elim (fun z => HTA.out.2 (.inl z)) (fun z => by have := z.1; have := B2.out.size; omega)) (fun y => HTA.out.2 (.inr y))))
                  have HTL := Lib.hid hTw
                  clear g5 cm fr hTw
                  subst hv0
                  go_wp2
                  go_ret
                  rw [E3.out]
                  have sz := C5.out.size
                  have sz2 := B2.out.size
                  have sz3 := SZ.out
                  refine ⟨rfl, w2.heap.size, sz2, Nat.le_trans sz3 sz, R5.out.wide (fun b x => x.imp id (fun z => ⟨z.1, Nat.lt_of_lt_of_le z.2 sz⟩)) (ext_bound (w := w2) (fun b x => Nat.lt_of_lt_of_le (HG.out b (.inl x)) sz2) (Nat.le_trans sz3 sz)) (fun x => x.elim HD.out.nq (fun z => by have := HG.out q (.inr rfl); have := z.1; omega)), ⟨g1, c1, ?_, ?_, ?_, ?_, ?_⟩, ?_⟩
                  · rw [nexts_length, HLn.out]; exact T5.out
                  · rw [nexts_length, HLn.out]; exact O5.out.more (Nat.zero_le _)
                  · intro e; subst e; have := GE.out.1; have := HTL.out; omega
                  · exact ⟨.inl HTA.out.1, .inr ⟨GE.out.1, GE.out.2.2⟩⟩
                  · rw [nexts_length, HLn.out]; exact HC.out
                  · exact (RE.out.2.1.mono (fun _ _ x => .inl x)).trans C5.out (fun b _ e => .inr (e ▸ HTA.out.1))
                · have e3 := HPU.out.2
                  rw [if_neg hv0] at e3
                  have E3 := Lib.hid e3
                  clear e3
                  go_wp2
                  go_ret
                  rw [E3.out]
                  obtain ⟨a1, a2, a3, a4, a5⟩ := T4.out.1
                  exact ⟨rfl, w2.heap.size, B2.out.size, RE.out.2.2, RE.out.1, ⟨g, cap, a1, a2, a3, ⟨.inl a4.1, .inl a4.2⟩, a5⟩, RE.out.2.1.mono (fun _ _ x => .inl x)⟩
end
end Go.Proofs.YtgdgehfapfgdfaaGreatDoor.Tb
