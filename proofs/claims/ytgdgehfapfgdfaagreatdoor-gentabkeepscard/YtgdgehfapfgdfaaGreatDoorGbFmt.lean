/-
  Format. No conditions.
-/
import Derived.Test.YtgdgehfapfgdfaaGreatDoorGbNew
import Derived.Deep.RegionHeld
import Derived.Deep.DrawnRows
namespace Go.Proofs.YtgdgehfapfgdfaaGreatDoor.Tb
open Go.RowKit Oc Dm W Dw Sr
set_option linter.unusedVariables false
set_option maxRecDepth 100000
attribute [local go_sem ↓] Go.wp_at_zero Go.wp_at_succ

section
variable {w w' w1 : World} {F : Nat → Prop} {D q n N ne np ga : Nat} {m : Vs} {p : Pn.Pl}
theorem ext_E {G : Nat → Prop} (hE : ∀ k, Al F q k → 0 < k) (hw : 0 < w.heap.size) : ∀ k, Al (Ext F w w') q k → 0 < k :=
  fun k x => x.elim (fun y => y.elim (fun z => hE k (.inl z)) (fun z => by have := z.1; omega)) (fun y => hE k (.inr y))
theorem env_al {w1 w2 : World} (h : Env w1) (hc : Chg (Al F q) w1 w2) (hE : ∀ k, Al F q k → 0 < k) : Env w2 := env_chg h hc hE
/-- a struct's cells -/
theorem place_cells {w : World} {b : Nat} {T : TypeId} (h : w.heap[b]? = some (.cells #[.pointer (some ⟨D, 0, none⟩), .int .i64 p.a0, .int .i64 p.a1, .int .i64 p.a2, .int .i64 p.a3, .int .i64 p.a4, .int .i64 p.a5, .int .i64 p.a6, .int .i64 p.a7, .int .i64 p.a8, .int .i64 p.a9, .int .i64 p.a10, .int .i64 p.a11, .int .i64 p.a12] T (0, 0))) : w.cell? ⟨b, 0, none⟩ = some (.pointer (some ⟨D, 0, none⟩)) ∧ w.cell? ⟨b, 1, none⟩ = some (.int .i64 p.a0) ∧ w.cell? ⟨b, 2, none⟩ = some (.int .i64 p.a1) ∧ w.cell? ⟨b, 3, none⟩ = some (.int .i64 p.a2) ∧ w.cell? ⟨b, 4, none⟩ = some (.int .i64 p.a3) ∧ w.cell? ⟨b, 5, none⟩ = some (.int .i64 p.a4) ∧ w.cell? ⟨b, 6, none⟩ = some (.int .i64 p.a5) ∧ w.cell? ⟨b, 7, none⟩ = some (.int .i64 p.a6) ∧ w.cell? ⟨b, 8, none⟩ = some (.int .i64 p.a7) ∧ w.cell? ⟨b, 9, none⟩ = some (.int .i64 p.a8) ∧ w.cell? ⟨b, 10, none⟩ = some (.int .i64 p.a9) ∧ w.cell? ⟨b, 11, none⟩ = some (.int .i64 p.a10) ∧ w.cell? ⟨b, 12, none⟩ = some (.int .i64 p.a11) ∧ w.cell? ⟨b, 13, none⟩ = some (.int .i64 p.a12) := by
  refine ⟨?_, ?_, ?_, ?_, ?_, ?_, ?_, ?_, ?_, ?_, ?_, ?_, ?_, ?_⟩ <;> rw [cell_of_row _ _ _ _ _ _ h] <;> rfl
/-- a device on the way, from w0 on -/
structure PDJ (w0 : World) (F : Nat → Prop) (D q n N : Nat) (m : Vs) (w : World) : Prop where
  pd : PD w (Ext F w0 w) D q n N m
  chg : Chg (Al F q) w0 w
  base : (∀ k, Al F q k → k < w0.heap.size) ∧ ¬ F q
theorem PDJ.start (h : PD w F D q n N m) : PDJ w F D q n N m w :=
  ⟨h.wide (fun _ x => .inl x) (ext_bound (fun k x => h.bound k (.inl x)) (Nat.le_refl _)) (fun x => x.elim h.np (fun y => by omega)), Chg.refl _ _, h.bound, h.np⟩
theorem PDJ.then {w0 : World} {N' : Nat} {m' : Vs} (h : PDJ w0 F D q n N m w) (h1 : PD w' (Ext (Ext F w0 w) w w') D q n N' m') (hc : Chg (Al (Ext F w0 w) q) w w') : PDJ w0 F D q n N' m' w' := by
  have z1 := h.chg.size
  have z2 := hc.size
  refine ⟨h1.wide (fun k x => x.elim (fun y => y.imp id (fun z => ⟨z.1, Nat.lt_of_lt_of_le z.2 z2⟩)) (fun y => .inr ⟨Nat.le_trans z1 y.1, y.2⟩)) (ext_bound (fun k x => h.base.1 k (.inl x)) (Nat.le_trans z1 z2)) (fun x => x.elim h.base.2 (fun y => by have := h.base.1 q (.inr rfl); omega)), ?_, h.base⟩
  exact h.chg.trans hc (fun k hk x => x.elim (fun y => y.elim .inl (fun z => absurd z.1 (by omega))) .inr)
theorem PDJ.below {w0 : World} (h : PDJ w0 F D q n N m w) (hb : Below w.heap.size w w') : PDJ w0 F D q n N m w' :=
  ⟨(h.pd.below hb).wide (fun k x => x.imp id (fun y => ⟨y.1, Nat.lt_of_lt_of_le y.2 hb.size⟩)) (ext_bound (fun k x => h.base.1 k (.inl x)) (Nat.le_trans h.chg.size hb.size)) (fun x => x.elim h.base.2 (fun y => by have := h.base.1 q (.inr rfl); omega)), h.chg.trans (Chg.of_below (F := Al F q) hb) (fun _ _ x => x), h.base⟩
theorem PDJ.env {w0 : World} (h : PDJ w0 F D q n N m w) (he : Env w0) (hE : ∀ k, Al F q k → 0 < k) : Env w := env_al he h.chg hE
theorem PDJ.write {w0 : World} {x : Gp} (h : PDJ w0 F D q n N m w) (he : Env w0) (hE : ∀ k, Al F q k → 0 < k) (hp : Pln p ne np ga n) (hN : N + 1 ≤ 1000000) {i : Nat} (hi : i < np) (hx : x.no = (i : Int)) (hm : MayBe x) :
    Calls Tryz.prog 64 #[(.agg #[.pointer (some ⟨D, 0, none⟩), .int .i64 p.a0, .int .i64 p.a1, .int .i64 p.a2, .int .i64 p.a3, .int .i64 p.a4, .int .i64 p.a5, .int .i64 p.a6, .int .i64 p.a7, .int .i64 p.a8, .int .i64 p.a9, .int .i64 p.a10, .int .i64 p.a11, .int .i64 p.a12]), (.agg #[.int .i64 x.no, .int .u64 (x.v : Int), .int .u64 (x.g 0 : Int), .int .u64 (x.g 1 : Int), .int .u64 (x.g 2 : Int), .int .u64 (x.g 3 : Int), .int .u64 (x.g 4 : Int), .int .u64 (x.g 5 : Int)])] w fun e w' => e = .returned (.int .i64 (wr1 m (spot ga x) (sect x)).1) ∧ PDJ w0 F D q n (N + 1) (wr1 m (spot ga x) (sect x)).2 w' :=
  (write_any h.pd (h.env he hE) hp hN hi hx hm).mono fun e w' ⟨h1, h2, h3⟩ => ⟨h1, h.then h2 h3⟩
theorem PDJ.flush {w0 : World} (h : PDJ w0 F D q n N m w) (hN : N + 1 ≤ 1000000) :
    Calls Tryz.prog 37 #[.pointer (some ⟨D, 0, none⟩)] w fun e w' => e = .returned (.int .i64 (fl1 m).1) ∧ PDJ w0 F D q n (N + 1) (fl1 m).2 w' :=
  (h.pd.flush hN).mono fun e w' ⟨h1, h2, h3⟩ => ⟨h1, h.then h2 h3⟩
theorem PDJ.more {w0 : World} {N' : Nat} (h : PDJ w0 F D q n N m w) (hN : N ≤ N') (hb : N' ≤ 1000000) : PDJ w0 F D q n N' m w := ⟨h.pd.more hN hb, h.chg, h.base⟩
/-- in the words of a call that began at an elder world -/
theorem PDJ.end_ {wa w0 : World} {m0 : Vs} {N0 : Nat} (h : PDJ w0 F D q n N m w) (ha : PD wa F D q n N0 m0) (hb : Below wa.heap.size wa w0) : PD w (Ext F wa w) D q n N m ∧ Chg (Al F q) wa w :=
  ⟨ha.from_ hb.size h.chg.size h.pd, (Chg.of_below (F := Al F q) hb).trans h.chg (fun _ _ x => x)⟩
def fjobs (ga np : Nat) : List (Nat × List UInt8) := (List.range np).map fun i => job ga (fresh i)
theorem fjobs_at {ga np j : Nat} (h : j < np) : (fjobs ga np).drop j = job ga (fresh j) :: (fjobs ga np).drop (j + 1) := by
  unfold fjobs
  rw [List.drop_eq_getElem_cons (by simpa using h)]
  simp
set_option maxHeartbeats 2000000 in
theorem format_yes (h : PD w F D q n N m) (he : Env w) (hE : ∀ k, Al F q k → 0 < k) (hp : Pln p ne np ga n) (hN : N + np + 1 ≤ 1000000) (r : Int × Vs) (hr : fmt ga np m = r) :
    Calls Tryz.prog 24 #[.pointer (some ⟨D, 0, none⟩), (.agg #[.int .i64 p.a0, .int .i64 p.a1, .int .i64 p.a2, .int .i64 p.a3, .int .i64 p.a4, .int .i64 p.a5, .int .i64 p.a6, .int .i64 p.a7, .int .i64 p.a8, .int .i64 p.a9, .int .i64 p.a10, .int .i64 p.a11, .int .i64 p.a12])] w fun e w' => e = .returned (.int .i64 r.1) ∧ PD w' (Ext F w w') D q n (N + np + 1) r.2 ∧ Chg (Al F q) w w' := by
  have H := Lib.hid h
  have HE := Lib.hid he
  have HG := Lib.hid hE
  have HP := Lib.hid hp
  have HR : Hid (puts (fjobs ga np) m = r) := hr
  have HB : Hid (∀ k, Al F q k → k < w.heap.size) := h.bound
  clear h he hE hp hr
  go_enter Tryz.func24, Tryz.ntmps24
  go_wp2_with fail
  refine (check_yes (H.out.below (bthen (balloc w (.cells #[.int .i64 p.a0, .int .i64 p.a1, .int .i64 p.a2, .int .i64 p.a3, .int .i64 p.a4, .int .i64 p.a5, .int .i64 p.a6, .int .i64 p.a7, .int .i64 p.a8, .int .i64 p.a9, .int .i64 p.a10, .int .i64 p.a11, .int .i64 p.a12] 46)) (balloc _ (.cells #[.pointer (some ⟨D, 0, none⟩), .int .i64 p.a0, .int .i64 p.a1, .int .i64 p.a2, .int .i64 p.a3, .int .i64 p.a4, .int .i64 p.a5, .int .i64 p.a6, .int .i64 p.a7, .int .i64 p.a8, .int .i64 p.a9, .int .i64 p.a10, .int .i64 p.a11, .int .i64 p.a12] 78)))) HP.out.h4 (by have := HP.out.hn; have := HP.out.hp; omega)).mono ?_; rintro e w1 ⟨rfl, b1⟩
  have B1 := Lib.hid (bthen (bthen (balloc w (.cells #[.int .i64 p.a0, .int .i64 p.a1, .int .i64 p.a2, .int .i64 p.a3, .int .i64 p.a4, .int .i64 p.a5, .int .i64 p.a6, .int .i64 p.a7, .int .i64 p.a8, .int .i64 p.a9, .int .i64 p.a10, .int .i64 p.a11, .int .i64 p.a12] 46)) (balloc _ (.cells #[.pointer (some ⟨D, 0, none⟩), .int .i64 p.a0, .int .i64 p.a1, .int .i64 p.a2, .int .i64 p.a3, .int .i64 p.a4, .int .i64 p.a5, .int .i64 p.a6, .int .i64 p.a7, .int .i64 p.a8, .int .i64 p.a9, .int .i64 p.a10, .int .i64 p.a11, .int .i64 p.a12] 78))) b1)
  have X1 := Lib.hid (kept_below (heap_alloc2_old w (.cells #[.int .i64 p.a0, .int .i64 p.a1, .int .i64 p.a2, .int .i64 p.a3, .int .i64 p.a4, .int .i64 p.a5, .int .i64 p.a6, .int .i64 p.a7, .int .i64 p.a8, .int .i64 p.a9, .int .i64 p.a10, .int .i64 p.a11, .int .i64 p.a12] 46) (.cells #[.pointer (some ⟨D, 0, none⟩), .int .i64 p.a0, .int .i64 p.a1, .int .i64 p.a2, .int .i64 p.a3, .int .i64 p.a4, .int .i64 p.a5, .int .i64 p.a6, .int .i64 p.a7, .int .i64 p.a8, .int .i64 p.a9, .int .i64 p.a10, .int .i64 p.a11, .int .i64 p.a12] 78)) b1)
  have Y1 := Lib.hid (kept_below (heap_at_next w (.cells #[.int .i64 p.a0, .int .i64 p.a1, .int .i64 p.a2, .int .i64 p.a3, .int .i64 p.a4, .int .i64 p.a5, .int .i64 p.a6, .int .i64 p.a7, .int .i64 p.a8, .int .i64 p.a9, .int .i64 p.a10, .int .i64 p.a11, .int .i64 p.a12] 46) (.cells #[.pointer (some ⟨D, 0, none⟩), .int .i64 p.a0, .int .i64 p.a1, .int .i64 p.a2, .int .i64 p.a3, .int .i64 p.a4, .int .i64 p.a5, .int .i64 p.a6, .int .i64 p.a7, .int .i64 p.a8, .int .i64 p.a9, .int .i64 p.a10, .int .i64 p.a11, .int .i64 p.a12] 78)) b1)
  clear b1
  go_wp2_with ((with_reducible apply Pn.L_loadMap); exact rfl; exact X1.out; exact rfl)
  refine (Pn.plan_any p _).mono ?_; rintro e w2 ⟨rfl, b2⟩
  have hf2 : (Instr.field 42 (.agg #[.int .i64 p.a0, .int .i64 p.a1, .int .i64 p.a2, .int .i64 p.a3, .int .i64 p.a4, .int .i64 p.a5, .int .i64 p.a6, .int .i64 p.a7, .int .i64 p.a8, .int .i64 p.a9, .int .i64 p.a10, .int .i64 p.a11, .int .i64 p.a12]) 2).run Tryz.prog w2 = .ok (.int .i64 (np : Int)) w2 := by rw [field_2, HP.out.h2]
  have B2 := Lib.hid (bthen B1.out b2)
  have Y2 := Lib.hid (kept_below Y1.out b2)
  have P2 := Lib.hid (H.out.below (bthen B1.out b2))
  clear b2 X1 Y1 B1
  go_wp2
  clear hf2
  have WQ : Hid (∀ k, Al F q k → k < w2.heap.size) := fun k x => Nat.lt_of_lt_of_le (HB.out k x) B2.out.size
  have YN : Hid (¬ Al F q (w.heap.size + 1)) := fun x => by have := HB.out _ x; omega
  have YL : Hid (w.heap.size + 1 < w2.heap.size) := lt_of_heap Y2.out
  have E2 := Lib.hid (HE.out.below B2.out)
  go_loopw [20] (fun q20 wr => ∃ j : Nat, j ≤ np ∧ q20 = .int .i64 (j : Int) ∧ ∃ mj, Hid (PDJ w2 F D q n (N + j) mj wr) ∧ Hid (puts ((fjobs ga np).drop j) mj = r)) (fun q20 _ => np - (intOf q20).toNat)
  case atStart => exact ⟨0, by omega, rfl, m, PDJ.start P2.out, HR⟩
  case round =>
    obtain ⟨j, hj, rfl, mj, PJ, RJ⟩ := hrel
    have YJ := Lib.hid ((PJ.out.chg.block _ YL.out YN.out).trans Y2.out)
    by_cases hlt : j < np
    · have hlt2 : (j : Int) < (np : Int) := by omega
      obtain ⟨y0, y1, y2, y3, y4, y5, y6, y7, y8, y9, y10, y11, y12, y13⟩ := place_cells YJ.out
      obtain ⟨fq, hfq⟩ : ∃ fq, fresh j = fq := ⟨_, rfl⟩
      have FR : Hid (∀ w', Calls Tryz.prog 65 #[.int .i64 (j : Int)] w' fun e w'' => e = .returned (.agg #[.int .i64 fq.no, .int .u64 (fq.v : Int), .int .u64 (fq.g 0 : Int), .int .u64 (fq.g 1 : Int), .int .u64 (fq.g 2 : Int), .int .u64 (fq.g 3 : Int), .int .u64 (fq.g 4 : Int), .int .u64 (fq.g 5 : Int)]) ∧ Below w'.heap.size w' w'') := fun w' => by rw [← hfq]; exact fresh_any _ _
      have RJ2 := Lib.hid RJ.out
      rw [fjobs_at hlt, hfq] at RJ2
      have FM : Hid (MayBe fq ∧ fq.no = (j : Int)) := by subst hfq; exact ⟨fresh_may (by have := HP.out.hn; have := HP.out.hn2; omega), rfl⟩
      obtain ⟨v, m', hv⟩ : ∃ v m', wr1 mj (spot ga fq) (sect fq) = (v, m') := ⟨_, _, rfl⟩
      have KW : Hid (∀ w', Below wr.heap.size wr w' → Calls Tryz.prog 64 #[(.agg #[.pointer (some ⟨D, 0, none⟩), .int .i64 p.a0, .int .i64 p.a1, .int .i64 p.a2, .int .i64 p.a3, .int .i64 p.a4, .int .i64 p.a5, .int .i64 p.a6, .int .i64 p.a7, .int .i64 p.a8, .int .i64 p.a9, .int .i64 p.a10, .int .i64 p.a11, .int .i64 p.a12]), (.agg #[.int .i64 fq.no, .int .u64 (fq.v : Int), .int .u64 (fq.g 0 : Int), .int .u64 (fq.g 1 : Int), .int .u64 (fq.g 2 : Int), .int .u64 (fq.g 3 : Int), .int .u64 (fq.g 4 : Int), .int .u64 (fq.g 5 : Int)])] w' fun e w'' => e = .returned (.int .i64 v) ∧ PDJ w2 F D q n (N + (j + 1)) m' w'') := fun w' hb => by
        have := (PJ.out.below hb).write E2.out HG.out HP.out (by omega) hlt FM.out.2 FM.out.1
        rw [hv] at this
        exact this
      have HV : Hid (wr1 mj (spot ga fq) (sect fq) = (v, m')) := hv
      clear hfq hv
      go_wp2_with fail
      go_region_held (fun w' => w'.cell? ⟨w.heap.size + 1, 0, none⟩ = some (.pointer (some ⟨D, 0, none⟩)) ∧ w'.cell? ⟨w.heap.size + 1, 1, none⟩ = some (.int .i64 p.a0) ∧ w'.cell? ⟨w.heap.size + 1, 2, none⟩ = some (.int .i64 p.a1) ∧ w'.cell? ⟨w.heap.size + 1, 3, none⟩ = some (.int .i64 p.a2) ∧ w'.cell? ⟨w.heap.size + 1, 4, none⟩ = some (.int .i64 p.a3) ∧ w'.cell? ⟨w.heap.size + 1, 5, none⟩ = some (.int .i64 p.a4) ∧ w'.cell? ⟨w.heap.size + 1, 6, none⟩ = some (.int .i64 p.a5) ∧ w'.cell? ⟨w.heap.size + 1, 7, none⟩ = some (.int .i64 p.a6) ∧ w'.cell? ⟨w.heap.size + 1, 8, none⟩ = some (.int .i64 p.a7) ∧ w'.cell? ⟨w.heap.size + 1, 9, none⟩ = some (.int .i64 p.a8) ∧ w'.cell? ⟨w.heap.size + 1, 10, none⟩ = some (.int .i64 p.a9) ∧ w'.cell? ⟨w.heap.size + 1, 11, none⟩ = some (.int .i64 p.a10) ∧ w'.cell? ⟨w.heap.size + 1, 12, none⟩ = some (.int .i64 p.a11) ∧ w'.cell? ⟨w.heap.size + 1, 13, none⟩ = some (.int .i64 p.a12))
        (first | go_keep | exact place_cells Z4.out | exact place_cells Z3.out)
        (first
          | (go_at_call 65; (with_reducible refine (FR.out _).mono ?_); rintro e w3 ⟨rfl, b3⟩; have B3 : Hid (Below wr.heap.size wr w3) := below_of_drew b3; have Z3 := Lib.hid (kept_below YJ.out B3.out); clear b3)
          | (go_at_call 64; (with_reducible refine (KW.out _ B3.out).mono ?_); rintro e w4 ⟨rfl, p4⟩; have P4 := Lib.hid p4; have Z4 := Lib.hid ((p4.chg.block _ YL.out YN.out).trans Y2.out); clear p4))
      all_goals
        clear y0 y1 y2 y3 y4 y5 y6 y7 y8 y9 y10 y11 y12 y13
        by_cases hv0 : v = 0
        · have RK : Hid (puts ((fjobs ga np).drop (j + 1)) m' = r) := by
            have h1 := RJ2.out
            rw [puts_ok (by show (wr1 mj (spot ga fq) (sect fq)).1 = 0; rw [HV.out]; exact hv0)] at h1
            have e : (wr1 mj (job ga fq).1 (job ga fq).2) = (v, m') := HV.out
            rw [e] at h1
            exact h1
          go_wp2
          go_roundw
          case rel => exact ⟨j + 1, by omega, by go_num, m', P4, RK⟩
          case measure => simp [intOf]; omega
        · have RK : Hid (r = (v, m')) := by
            have h1 := RJ2.out
            rw [puts_no (by show ¬ (wr1 mj (spot ga fq) (sect fq)).1 = 0; rw [HV.out]; exact hv0)] at h1
            exact h1.symm.trans HV.out
          have PE := Lib.hid ((P4.out.more (N' := N + np + 1) (by omega) hN).end_ H.out B2.out)
          go_wp2
          go_ret
          rw [RK.out]
          exact ⟨rfl, PE.out⟩
    · have hlt2 : ¬ (j : Int) < (np : Int) := by omega
      have hjn : j = np := by omega
      have RK : Hid (fl1 mj = r) := by
        have h1 := RJ.out
        rw [hjn, List.drop_of_length_le (by simp [fjobs])] at h1
        exact h1
      go_wp2_with fail
      refine (PJ.out.flush (by omega)).mono ?_; rintro e w4 ⟨rfl, p4⟩
      rw [RK.out] at p4
      have PE := Lib.hid ((p4.more (N' := N + np + 1) (by omega) hN).end_ H.out B2.out)
      clear p4
      go_wp2
      go_ret
      exact ⟨by rw [RK.out]; rfl, PE.out⟩
end
end Go.Proofs.YtgdgehfapfgdfaaGreatDoor.Tb
