/-
  crash, on a pair. No conditions.
-/
import Derived.Test.YtikbbikcacoobaaGreatDoorIvPairDo
import Derived.Test.YtikbbikcacoobaaGreatDoorIvBegin
import Derived.Deep.RegionHeld
import Derived.Deep.DrawnRows
namespace Go.Proofs.YtikbbikcacoobaaGreatDoor.Pd.Iv
open Go.RowKit Oc Dm W Dw Sr Gt
set_option linter.unusedVariables false
set_option maxRecDepth 100000
attribute [local go_sem ↓] Go.wp_at_zero Go.wp_at_succ
/-- what a crash leaves -/
def fits (n : Nat) (S : Nat → Sec) (fs : List Int) : List Int := fitOf (looseOf n S) fs (min fs.length (looseOf n S).length)
def crashed (n : Nat) (S : Nat → Sec) (fs : List Int) : Vs := ⟨⟨false, none, 0⟩, crashTo n S (fits n S fs) (fits n S fs).length, 0, 0⟩
theorem own_fresh {w : World} {e : TypeId} {B n c b off : Nat} {A : Option Addr} {vs : List Value} (h : Rw.OwnV w e B (.slice A n c) vs) (hl : vs.length = n) (h0 : 0 < n) (hA : A = some ⟨b, off, none⟩) : B ≤ b := by
  rcases h.2 with ⟨e1, h1⟩ | ⟨g, cap, cur, e1, hb, _⟩
  · omega
  · injection e1 with e1 e2 e3
    rw [hA] at e1
    injection e1 with e1
    injection e1 with e1
    omega
theorem fi_set {w : World} {A : Option Addr} {k P : Nat} {fs : List Int} (h : Fi w A k fs) (hP : ∀ b off, 0 < k → A = some ⟨b, off, none⟩ → b ≠ P) (j : Nat) (v : Value) : Fi (w.setCell ⟨P, j, none⟩ v) A k fs :=
  Rw.Sl.heap h (fun b off h0 e => heap_setCell_other _ _ _ _ (hP b off h0 e))
set_option maxHeartbeats 1000000 in
theorem fit_own (w : World) (A B : Option Addr) (k c l c2 : Nat) (ps : List (Nat × Nat)) (fs : List Int) (hp : Lo w A k ps) (hf : Fi w B l fs) (hk : k ≤ 4096) (hm : ∀ x ∈ ps, x.2 ≤ 1000000000) (hl9 : l ≤ 9223372036854775807) :
    Calls Tryz.prog 20 #[.slice A k c, .slice B l c2] w fun e w' => ∃ A' c', e = .returned (.slice A' (fitOf ps fs (min l k)).length c') ∧ Fi w' A' (fitOf ps fs (min l k)).length (fitOf ps fs (min l k)) ∧ (∀ b off, 0 < (fitOf ps fs (min l k)).length → A' = some ⟨b, off, none⟩ → w.heap.size ≤ b) ∧ Below w.heap.size w w' := by
  have HP := Lib.hid hp
  have HF := Lib.hid hf
  have HM := Lib.hid hm
  have hk2 := hp.1
  clear hp hf hm
  go_enter Tryz.func20, Tryz.ntmps20
  go_wp2
  go_loopw [5, 6] (fun v p wr => ∃ j : Nat, j ≤ l ∧ j ≤ k ∧ p = .int .i64 (j : Int) ∧ Hid (Rw.OwnV wr 3 w.heap.size v ((fitOf ps fs j).map (Value.int .i64))) ∧ Hid (Below w.heap.size w wr)) (fun _ p _ => k - (intOf p).toNat)
  case atStart => exact ⟨0, Nat.zero_le _, Nat.zero_le _, rfl, Rw.OwnV.nil _ _ _, Below.refl _ _⟩
  case round =>
    obtain ⟨j, hj, hj2, rfl, OJ, BJ⟩ := hrel
    have hcase : (j < l ∧ j < k) ∨ (l ≤ j) ∨ (j < l ∧ k ≤ j) := by omega
    rcases hcase with ⟨h1, h2⟩ | hend
    · have hfl := HF.out.len
      obtain ⟨f, hf⟩ : ∃ f, fs[j]? = some f := ⟨_, List.getElem?_eq_getElem (by omega)⟩
      obtain ⟨x, hx⟩ : ∃ x, ps[j]? = some x := ⟨_, List.getElem?_eq_getElem (by omega)⟩
      obtain ⟨b1, o1, rfl, cf⟩ := (HF.out.below BJ.out).at_ hf
      obtain ⟨b2, rfl, _, cx⟩ := (HP.out.below BJ.out).at_ hx
      have hx9 := HM.out x (List.mem_of_getElem? hx)
      have ST := Lib.hid (fitOf_step ps fs j)
      rw [show fs.getD j 0 = f by simp [List.getD, hf], show (ps.getD j (0, 0)).2 = x.2 by simp [List.getD, hx]] at ST
      have hj3 : (j : Int) < (l : Int) := by omega
      have hj4 : (j : Int) < (k : Int) := by omega
      have LEN := Lib.hid (fitOf_len ps fs j)
      clear hf hx hfl
      obtain ⟨x1, m⟩ := x
      dsimp only at cx hx9 ST
      have hm1 : ¬ ((m : Int) + 1 = 0) := by omega
      obtain ⟨t, ht⟩ : ∃ t, f.tmod ((m : Int) + 1) = t := ⟨_, rfl⟩
      have hb := fit1_le f m
      have ef : fit1 f m = (t.natAbs : Int) := by rw [fit1, ht]
      rw [ef] at hb ST
      by_cases htn : t < 0
      · have hneg : 0 - t = (t.natAbs : Int) := by omega
        have hlow : -9223372036854775808 ≤ t := by omega
        generalize (t.natAbs : Int) = y at hneg ST hb
        clear ef
        go_wp2_with fail
        go_region
        go_wp2_with (at_builtin; refine Rw.wpList_append_one rfl _ _ 29 rfl itt rfl OJ.out BJ.out.drew _ rfl rfl (by rw [List.length_map, LEN.out]; omega) ?_; intro v2 w2 o2 b2; have O2 := Lib.hid o2; have B2 := Lib.hid b2; clear o2 b2)
        go_roundw
        case rel => exact ⟨j + 1, by omega, by omega, by go_num, by rw [ST.out, List.map_append]; exact O2, B2⟩
        case measure => simp [intOf]; omega
      · have hneg : (t.natAbs : Int) = t := by omega
        rw [hneg] at ST hb
        clear ef hneg
        go_wp2_with fail
        go_region
        go_wp2_with (at_builtin; refine Rw.wpList_append_one rfl _ _ 29 rfl itt rfl OJ.out BJ.out.drew _ rfl rfl (by rw [List.length_map, LEN.out]; omega) ?_; intro v2 w2 o2 b2; have O2 := Lib.hid o2; have B2 := Lib.hid b2; clear o2 b2)
        go_roundw
        case rel => exact ⟨j + 1, by omega, by omega, by go_num, by rw [ST.out, List.map_append]; exact O2, B2⟩
        case measure => simp [intOf]; omega
    · have HJM : Hid (min l k = j) := Lib.hid (by omega)
      have LEN : ((fitOf ps fs j).map (Value.int .i64)).length = (fitOf ps fs j).length := by simp
      obtain ⟨A2, c3, rfl, _, _, sl⟩ := OJ.out.form LEN
      have SL := Lib.hid sl
      have LEN2 := Lib.hid LEN
      clear sl LEN
      rcases hend with hend | ⟨hend, hend2⟩
      all_goals
        go_wp2
        go_ret
        rw [HJM.out]
        exact ⟨A2, c3, rfl, SL.out, fun b off h0 e => own_fresh OJ.out LEN2.out h0 e, BJ.out⟩
def none1 (b : Nat) : Prop := False
section
variable {w0 w wa wb wc : World} {P n N pw D q E pw' D' q' E' la lg : Nat} {p : Pn.Pl} {T U T0 U0 : Option Addr} {F G H1 H2 : Nat → Prop} {m m1 m2 : Vs} {t1 t2 : Option Lg} {l c : Nat} {A : Option Addr} {fs : List Int} {S : Nat → Sec} {fx mm r gs : Nat} {vs : Nat → Value}
theorem phead_set {j : Nat} {v : Value} {pw'' D'' q'' E'' : Nat} {T'' U'' : Option Addr} (h : PHead w P p pw D q E T U) (e : (PCs p pw D q E T U).setIfInBounds j v = PCs p pw'' D'' q'' E'' T'' U'') : PHead (w.setCell ⟨P, j, none⟩ v) P p pw'' D'' q'' E'' T'' U'' := by
  unfold PHead
  rw [heap_setCell_same _ _ _ _ _ _ h, e]
theorem set_size (w : World) (a : Addr) (v : Value) : (w.setCell a v).heap.size = w.heap.size := by simp [World.setCell]
set_option maxHeartbeats 1000000 in
theorem cr_done (h : Pr w0 P p n N pw D q E T U F G H1 H2 m1 m2 t1 t2 wa) (hw : w.heap.size ≤ wa.heap.size) (hP : P < w.heap.size) (hU : ∀ b, Us F pw G q H1 H2 b → b < w.heap.size) (hk : Kp' w P none1 wa none1) (hd : PHead wa P p pw' D q' E T0 U0)
    (hp : Pw wa pw' ⟨false, none, 0⟩) (hq : Qw wa q' ⟨false, none, 0⟩) (hne : pw' ≠ q') (gp : w.heap.size ≤ pw') (gq : w.heap.size ≤ q') (hS : ∀ i, (S i).loose = [])
    (d : DvAt wb (Fresh wa wb) D' pw' n N S 0 0 fx mm r (fun _ => none)) (b1 : Below wa.heap.size wa wb) (e : RvAt wc (Fresh wb wc) E' q' n S 0 0 gs vs) (b2 : Below wb.heap.size wb wc) :
    Pr w0 P p n N pw' D' q' E' none none (Fresh wa wb) (Fresh wb wc) none1 none1 ⟨⟨false, none, 0⟩, S, 0, 0⟩ ⟨⟨false, none, 0⟩, S, 0, 0⟩ none none ((wc.setCell ⟨P, 27, none⟩ (.pointer (some ⟨D', 0, none⟩))).setCell ⟨P, 30, none⟩ (.pointer (some ⟨E', 0, none⟩))) ∧
    PHead ((wc.setCell ⟨P, 27, none⟩ (.pointer (some ⟨D', 0, none⟩))).setCell ⟨P, 30, none⟩ (.pointer (some ⟨E', 0, none⟩))) P p pw' D' q' E' T0 U0 ∧
    Kp' w P (Us F pw G q H1 H2) ((wc.setCell ⟨P, 27, none⟩ (.pointer (some ⟨D', 0, none⟩))).setCell ⟨P, 30, none⟩ (.pointer (some ⟨E', 0, none⟩))) (Us (Fresh wa wb) pw' (Fresh wb wc) q' none1 none1) ∧
    ∀ b, b < w.heap.size → b ≠ P → ((wc.setCell ⟨P, 27, none⟩ (.pointer (some ⟨D', 0, none⟩))).setCell ⟨P, 30, none⟩ (.pointer (some ⟨E', 0, none⟩))).heap[b]? = w.heap[b]? := by
  have lp := hp.lt
  have lq := hq.lt
  have s1 := b1.size
  have s2 := b2.size
  have gP := h.lt.2
  have g0 : w0.heap.size ≤ w.heap.size := by omega
  have hsz : ((wc.setCell ⟨P, 27, none⟩ (.pointer (some ⟨D', 0, none⟩))).setCell ⟨P, 30, none⟩ (.pointer (some ⟨E', 0, none⟩))).heap.size = wc.heap.size := by rw [set_size, set_size]
  have ho : ∀ b, b ≠ P → ((wc.setCell ⟨P, 27, none⟩ (.pointer (some ⟨D', 0, none⟩))).setCell ⟨P, 30, none⟩ (.pointer (some ⟨E', 0, none⟩))).heap[b]? = wc.heap[b]? := fun b hb => by rw [heap_setCell_other _ _ _ _ hb, heap_setCell_other _ _ _ _ hb]
  have hc : Chg (fun b => b = P) wc ((wc.setCell ⟨P, 27, none⟩ (.pointer (some ⟨D', 0, none⟩))).setCell ⟨P, 30, none⟩ (.pointer (some ⟨E', 0, none⟩))) :=
    (Chg.of_grown (grown_set wc P 27 _) (fun k e _ => by injection e with e; exact e.symm)).trans (Chg.of_grown (grown_set _ P 30 _) (fun k e _ => by injection e with e; exact e.symm)) (fun _ _ y => y)
  refine ⟨⟨⟨?_, ?_, fun x => ?_, Nat.zero_le _, h.pd.hN⟩, ⟨?_, ⟨gs, vs, ?_⟩, fun x => ?_, fun k e => (by cases e), Nat.zero_le _, fun i hi => (by show (S i).loose.length ≤ N; rw [hS i]; exact Nat.zero_le _), h.pd.hN⟩, rfl, rfl, ⟨⟨fun b => if b = pw' then 1 else if b = q' then 2 else if wa.heap.size ≤ b ∧ b < wb.heap.size then 1 else if wb.heap.size ≤ b ∧ b < wc.heap.size then 2 else if b = P then 5 else 0, fun b x => ?_, fun b x => ?_, fun b x => x.elim, fun b x => x.elim, ?_⟩, fun b x => ?_⟩, ?_⟩, ?_, ?_, fun b hb x => ?_⟩
  · exact hp.heap (((ho pw' (by omega)).trans (b2.block pw' (by omega))).trans (b1.block pw' lp))
  · exact ⟨fx, mm, r, _, (d.frame (fun _ x => x) (fun k x => by have := x.2; omega) (fun k x => b2.block k x.2)).kept hc (fun k x e => by have := x.1; omega)⟩
  · have := x.1; omega
  · exact hq.heap (((ho q' (by omega)).trans (b2.block q' (by omega))).trans (b1.block q' lq))
  · exact e.kept hc (fun k x e => by have := x.1; omega)
  · have := x.1; omega
  · rcases x with x | x
    · have h1 := x.1
      have h2 := x.2
      show (if b = pw' then 1 else if b = q' then 2 else if wa.heap.size ≤ b ∧ b < wb.heap.size then 1 else if wb.heap.size ≤ b ∧ b < wc.heap.size then 2 else if b = P then 5 else 0) = 1
      rw [if_neg (by omega), if_neg (by omega), if_pos ⟨h1, h2⟩]
    · exact if_pos x
  · rcases x with x | x
    · have h1 := x.1
      have h2 := x.2
      show (if b = pw' then 1 else if b = q' then 2 else if wa.heap.size ≤ b ∧ b < wb.heap.size then 1 else if wb.heap.size ≤ b ∧ b < wc.heap.size then 2 else if b = P then 5 else 0) = 2
      rw [if_neg (by omega), if_neg (by omega), if_neg (by omega), if_pos ⟨h1, h2⟩]
    · show (if b = pw' then 1 else if b = q' then 2 else if wa.heap.size ≤ b ∧ b < wb.heap.size then 1 else if wb.heap.size ≤ b ∧ b < wc.heap.size then 2 else if b = P then 5 else 0) = 2
      rw [if_neg (by omega), if_pos x]
  · show (if P = pw' then 1 else if P = q' then 2 else if wa.heap.size ≤ P ∧ P < wb.heap.size then 1 else if wb.heap.size ≤ P ∧ P < wc.heap.size then 2 else if P = P then 5 else 0) = 5
    rw [if_neg (by omega), if_neg (by omega), if_neg (by omega), if_neg (by omega), if_pos rfl]
  · rw [hsz]
    rcases x with (x | x) | (x | x) | x | x | x
    · have := x.1; have := x.2; omega
    · omega
    · have := x.1; have := x.2; omega
    · omega
    · exact x.elim
    · exact x.elim
    · omega
  · exact ((h.bel.trans (b1.mono h.bel.size)).trans (b2.mono (by omega))).trans (hc.below (by omega) (fun b hb x => by omega))
  · refine phead_set (pw := pw') (D := D') (q := q') (E := E) (T := T0) (U := U0) (phead_set (pw'' := pw') (D'' := D') (q'' := q') (E'' := E) (T'' := T0) (U'' := U0) (hd.of ((b2.block P (by omega)).trans (b1.block P h.lt.1))) ?_) ?_ <;> rfl
  · refine ⟨by rw [hsz]; omega, fun b hb x => ⟨(ho b (fun e => x (.inr e))).trans ((b2.block b (by omega)).trans ((b1.block b (by omega)).trans (hk.at_ b hb (fun y => x (y.elim (fun z => z.elim) .inr))).1)), fun y => ?_⟩⟩
    rcases y with ((y | y) | (y | y) | y | y) | y
    · have := y.1; omega
    · omega
    · have := y.1; omega
    · omega
    · exact y.elim
    · exact y.elim
    · exact x (.inr y)
  · exact (ho b x).trans ((b2.block b (by omega)).trans ((b1.block b (by omega)).trans (hk.at_ b hb (fun y => y.elim (fun z => z.elim) x)).1))
theorem phead_pd (h : PHead w P p pw D q E T U) : w.cell? ⟨P, 26, none⟩ = some (.pointer (some ⟨pw, 0, none⟩)) ∧ w.cell? ⟨P, 27, none⟩ = some (.pointer (some ⟨D, 0, none⟩)) ∧ w.cell? ⟨P, 29, none⟩ = some (.pointer (some ⟨q, 0, none⟩)) ∧ w.cell? ⟨P, 30, none⟩ = some (.pointer (some ⟨E, 0, none⟩)) ∧ ∀ j, w.frozen? ⟨P, j, none⟩ = false :=
  ⟨(h.cell 26).1, (h.cell 27).1, (h.cell 29).1, (h.cell 30).1, fun j => (h.cell j).2⟩
set_option maxHeartbeats 8000000 in
theorem pair_crash (h : Pr w0 P p n N pw D q E T U F G H1 H2 m m t1 t2 w) (hh : PHead w P p pw D q E T0 U0) (hf : Fi w A l fs) (hl : l ≤ maxLen) :
    Calls Tryz.prog 37 #[.pointer (some ⟨P, 0, none⟩), .slice A l c] w fun e w' => e = .returned (.bool true) ∧ ∃ pw' D' q' E' F' G', Pr w0 P p n N pw' D' q' E' none none F' G' none1 none1 (crashed n m.S fs) (crashed n m.S fs) none none w' ∧ PHead w' P p pw' D' q' E' T0 U0 ∧ Kp' w P (Us F pw G q H1 H2) w' (Us F' pw' G' q' none1 none1) ∧ ∀ b, b < w.heap.size → b ≠ P → w'.heap[b]? = w.heap[b]? := by
  have H := Lib.hid h
  have HH := Lib.hid hh
  have HF := Lib.hid hf
  have hl9 : l ≤ 9223372036854775807 := by unfold maxLen at hl; omega
  have hfl := hf.len
  have HP : Hid (P < w.heap.size) := h.lt.1
  have HU : Hid (∀ b, Us F pw G q H1 H2 b → b < w.heap.size) := fun b x => (h.ubound x).2
  obtain ⟨hn4, hsec⟩ := h.pd.secs
  have hN6 := h.pd.hN
  have HM : Hid (∀ x ∈ looseOf n m.S, x.2 ≤ 1000000000) := fun x hx => by
    obtain ⟨m1, m2, m3⟩ := mem_loose.1 hx
    have := (hsec x.1 m1).1
    omega
  have HBD : Hid (∀ i, i < n → (m.S i).loose.length ≤ 1000000000) := fun i hi => by have := (hsec i hi).1; omega
  have hL4 := loose_len n m.S
  have HCR : Hid (crashed n m.S fs = ⟨⟨false, none, 0⟩, crashTo n m.S (fits n m.S fs) (fits n m.S fs).length, 0, 0⟩) := rfl
  generalize crashed n m.S fs = mc at HCR
  unfold fits at HCR
  rw [hfl] at HCR
  have HCL : Hid (∀ i, (crashTo n m.S (fitOf (looseOf n m.S) fs (min l (looseOf n m.S).length)) (fitOf (looseOf n m.S) fs (min l (looseOf n m.S).length)).length i).loose = []) := fun i => crashTo_loose _ _ _ _ _
  clear h hh hf hfl hsec hl
  obtain ⟨gs, vs, rv⟩ := H.out.rd.rv
  have RV := Lib.hid rv
  clear rv
  obtain ⟨c26, c27, c29, c30, cf⟩ := phead_pd HH.out
  go_enter Tryz.func37, Tryz.ntmps37
  go_wp2_with fail
  refine (rloose_any RV.out).mono ?_; rintro e w1 ⟨A1, c1, rfl, lo1, b1⟩
  have LO1 := Lib.hid lo1
  have B1 := Lib.hid b1
  have F1 := Lib.hid (HF.out.below b1)
  clear lo1 b1 c26 c27 c29 c30 cf RV
  go_wp2_with fail
  refine (fit_own w1 A1 A _ _ l _ (looseOf n m.S) fs LO1.out F1.out (by omega) HM.out hl9).mono ?_; rintro e w2 ⟨A2, c2, rfl, f2, r2, b2⟩
  have RP : Hid (∀ b off, 0 < (fitOf (looseOf n m.S) fs (min l (looseOf n m.S).length)).length → A2 = some ⟨b, off, none⟩ → b ≠ P) := fun b off h0 e => by have := r2 b off h0 e; have := B1.out.size; have := HP.out; omega
  have FT2 := Lib.hid f2
  have B2 := Lib.hid (bthen B1.out b2)
  have HK : Hid ((fitOf (looseOf n m.S) fs (min l (looseOf n m.S).length)).length ≤ (looseOf n m.S).length) := by rw [fitOf_len]; exact Nat.min_le_right _ _
  have HG : Hid (∀ i, i < (fitOf (looseOf n m.S) fs (min l (looseOf n m.S).length)).length → Dw.Good (looseOf n m.S) (fitOf (looseOf n m.S) fs (min l (looseOf n m.S).length)) i) := fun i _ => fitOf_good _ _ _ i
  clear f2 b2 r2 B1 F1 LO1
  generalize fitOf (looseOf n m.S) fs (min l (looseOf n m.S).length) = ft at FT2 HK HG HCR HCL RP ⊢
  have hft : ft.length ≤ 4096 := by have := HK.out; omega
  generalize hflg : ft.length = fl at FT2 HK HG HCR HCL RP hft ⊢
  clear hflg
  go_wp2_with fail
  refine (newpower_any _).mono ?_; rintro e w3 ⟨rfl, p3, b3, z3⟩
  have P3 := Lib.hid p3
  have B3 := Lib.hid (bthen B2.out b3)
  have FT3 := Lib.hid (FT2.out.below b3)
  have hpw : w.heap.size ≤ w2.heap.size := B2.out.size
  generalize w2.heap.size = pw' at P3 z3 hpw ⊢
  have PR3 := Lib.hid (H.out.below B3.out)
  have PH3 := Lib.hid (HH.out.below B3.out)
  clear p3 b3 B2 FT2
  obtain ⟨c26, c27, c29, c30, cf⟩ := phead_pd PH3.out
  obtain ⟨w4, hw4⟩ : ∃ x, (w3.setCell ⟨P, 26, none⟩ (.pointer (some ⟨pw', 0, none⟩))).alloc (.cells #[.bool false, .bool false, .int .i64 0, .int .i64 0] 78) = x := ⟨_, rfl⟩
  have z3' : (w3.setCell ⟨P, 26, none⟩ (.pointer (some ⟨pw', 0, none⟩))).heap.size = pw' + 1 := by rw [set_size]; exact z3
  have b4 : Below (w3.setCell ⟨P, 26, none⟩ (.pointer (some ⟨pw', 0, none⟩))).heap.size (w3.setCell ⟨P, 26, none⟩ (.pointer (some ⟨pw', 0, none⟩))) w4 := by rw [← hw4]; exact balloc _ _
  have PR4 := Lib.hid ((PR3.out.store 26 (.pointer (some ⟨pw', 0, none⟩))).below b4)
  have PH4 : Hid (PHead w4 P p pw' D q E T0 U0) := (phead_set (pw'' := pw') (D'' := D) (q'' := q) (E'' := E) (T'' := T0) (U'' := U0) PH3.out rfl).below b4
  have hPp : P ≠ pw' := by have := HP.out; omega
  have hPq : pw' + 1 ≠ P := by have : P < w.heap.size := HP.out; omega
  have P4 : Hid (Pw w4 pw' ⟨false, none, 0⟩) := P3.out.heap ((b4.block pw' (by rw [z3']; omega)).trans (heap_setCell_other _ _ _ _ (fun e => hPp e.symm)))
  have Q4 : Hid (Qw w4 (pw' + 1) ⟨false, none, 0⟩) := by
    have := qw_box (w3.setCell ⟨P, 26, none⟩ (.pointer (some ⟨pw', 0, none⟩)))
    rw [z3', hw4] at this
    exact this
  have K4 : Hid (Kp' w P none1 w4 none1) := ((Kp'.of_below B3.out P _).cell 26 _).trans (Kp'.of_below b4 P _)
  have FT4 : Hid (Fi w4 A2 fl ft) := (fi_set FT3.out RP.out 26 _).below b4
  have k29 : ((w3.setCell ⟨P, 26, none⟩ (.pointer (some ⟨pw', 0, none⟩))).alloc (.cells #[.bool false, .bool false, .int .i64 0, .int .i64 0] 78)).cell? ⟨P, 29, none⟩ = some (.pointer (some ⟨q, 0, none⟩)) := by rw [hw4]; exact (phead_pd PH4.out).2.2.1
  have kf : ((w3.setCell ⟨P, 26, none⟩ (.pointer (some ⟨pw', 0, none⟩))).alloc (.cells #[.bool false, .bool false, .int .i64 0, .int .i64 0] 78)).frozen? ⟨P, 29, none⟩ = false := by rw [hw4]; exact (phead_pd PH4.out).2.2.2.2 29
  have HW4 := Lib.hid hw4
  clear hw4 b4
  go_wp2_with fail
  rw [HW4.out]
  clear k29 kf c26 c27 c29 c30 cf HW4
  have PR5 := Lib.hid (PR4.out.store 29 (.pointer (some ⟨pw' + 1, 0, none⟩)))
  have PH5 : Hid (PHead (w4.setCell ⟨P, 29, none⟩ (.pointer (some ⟨pw' + 1, 0, none⟩))) P p pw' D (pw' + 1) E T0 U0) := phead_set (pw'' := pw') (D'' := D) (q'' := pw' + 1) (E'' := E) (T'' := T0) (U'' := U0) PH4.out rfl
  have P5 : Hid (Pw (w4.setCell ⟨P, 29, none⟩ (.pointer (some ⟨pw' + 1, 0, none⟩))) pw' ⟨false, none, 0⟩) := P4.out.heap (heap_setCell_other _ _ _ _ (fun e => hPp e.symm))
  have Q5 : Hid (Qw (w4.setCell ⟨P, 29, none⟩ (.pointer (some ⟨pw' + 1, 0, none⟩))) (pw' + 1) ⟨false, none, 0⟩) := Q4.out.heap (heap_setCell_other _ _ _ _ hPq)
  have K5 : Hid (Kp' w P none1 (w4.setCell ⟨P, 29, none⟩ (.pointer (some ⟨pw' + 1, 0, none⟩))) none1) := K4.out.cell 29 _
  have FT5 := Lib.hid (fi_set FT4.out RP.out 29 (.pointer (some ⟨pw' + 1, 0, none⟩)))
  generalize w4.setCell ⟨P, 29, none⟩ (.pointer (some ⟨pw' + 1, 0, none⟩)) = w5 at PR5 PH5 P5 Q5 K5 FT5 ⊢
  clear PR4 PH4 P4 Q4 K4 FT4 z3' z3 PR3 PH3 P3 B3 FT3
  obtain ⟨c26, c27, c29, c30, cf⟩ := phead_pd PH5.out
  have KC : Hid (∀ y, Below w5.heap.size w5 y → Calls Tryz.prog 18 #[.pointer (some ⟨D, 0, none⟩), .pointer (some ⟨pw', 0, none⟩), .slice A2 fl c2] y (Crashed y pw' n N (crashTo n m.S ft fl))) := fun y hy => by
    obtain ⟨fx, a, b, g, x⟩ := (PR5.out.below hy).pd.dv
    exact crash_ok x (P5.out.heap (hy.block _ P5.out.lt)) (FT5.out.below hy) HK.out HG.out
  go_region_held (fun x => x.cell? ⟨P, 26, none⟩ = some (.pointer (some ⟨pw', 0, none⟩)) ∧ x.cell? ⟨P, 27, none⟩ = some (.pointer (some ⟨D, 0, none⟩))) (first | go_keep | exact ⟨(phead_pd PH6.out).1, (phead_pd PH6.out).2.1⟩)
    (first
      | (go_at_call 18; (with_reducible refine (KC.out _ (bdrew _)).mono ?_); rintro e w6 ⟨D', fx6, m6, r6, rfl, hD6, d6, b6⟩; have B6 : Hid (Below w5.heap.size w5 w6) := bthen (bdrew _) b6; have D6 : Hid (DvAt w6 (Fresh w5 w6) D' pw' n N (crashTo n m.S ft fl) 0 0 fx6 m6 r6 (fun _ => none)) := d6; have PH6 := Lib.hid (PH5.out.below B6.out); clear d6 b6 hD6))
  all_goals
    clear c26 c27 c29 c30 cf KC
    obtain ⟨c26, c27, c29, c30, cf⟩ := phead_pd PH6.out
    have KC : Hid (∀ y, Below w6.heap.size w6 y → Calls Tryz.prog 67 #[.pointer (some ⟨E, 0, none⟩), .pointer (some ⟨pw' + 1, 0, none⟩), .slice A2 fl c2] y (RCrashed y (pw' + 1) n (crashTo n m.S ft fl))) := fun y hy => by
      obtain ⟨gs, vs, x⟩ := ((PR5.out.below B6.out).below hy).rd.rv
      exact rcrash_ok x HBD.out ((FT5.out.below B6.out).below hy) HK.out HG.out
    go_wp2_with fail
    go_region_held (fun x => x.cell? ⟨P, 29, none⟩ = some (.pointer (some ⟨pw' + 1, 0, none⟩)) ∧ x.cell? ⟨P, 30, none⟩ = some (.pointer (some ⟨E, 0, none⟩))) (first | go_keep | exact ⟨(phead_pd PH7.out).2.2.1, (phead_pd PH7.out).2.2.2.1⟩)
      (first
        | (go_at_call 67; (with_reducible refine (KC.out _ (bdrew _)).mono ?_); rintro e w7 ⟨E', gs7, vs7, rfl, hE7, d7, b7⟩; have B7 : Hid (Below w6.heap.size w6 w7) := bthen (bdrew _) b7; have D7 : Hid (RvAt w7 (Fresh w6 w7) E' (pw' + 1) n (crashTo n m.S ft fl) 0 0 gs7 vs7) := d7; have PH7 := Lib.hid (PH6.out.below B7.out); clear d7 b7 hE7))
    all_goals
      clear c26 c27 c29 c30 cf KC
      obtain ⟨c26, c27, c29, c30, cf⟩ := phead_pd PH7.out
      go_wp2
      go_ret
      rw [HCR.out]
      obtain ⟨r1, r2, r3, r4⟩ := cr_done (w := w) PR5.out K5.out.size HP.out HU.out K5.out PH5.out P5.out Q5.out (by omega) hpw (by omega) HCL.out D6.out B6.out D7.out B7.out
      exact ⟨rfl, _, _, _, _, _, _, r1, r2, r3, r4⟩
end
end Go.Proofs.YtikbbikcacoobaaGreatDoor.Pd.Iv
