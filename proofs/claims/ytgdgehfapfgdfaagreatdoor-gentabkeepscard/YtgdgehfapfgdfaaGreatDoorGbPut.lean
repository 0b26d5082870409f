/-
  Where a table stands: check, write, newest. No conditions.
-/
import Derived.Test.YtgdgehfapfgdfaaGreatDoorGbAll
namespace Go.Proofs.YtgdgehfapfgdfaaGreatDoor.Tb
open Go.RowKit Oc Dm W Dw Sr
set_option linter.unusedVariables false
set_option maxRecDepth 100000

section
variable {w w' w1 : World} {F G : Nat → Prop} {D q n N N' : Nat} {m m' : Vs}
theorem PD.wide (h : PD w F D q n N m) (hF : ∀ k, F k → G k) (hb : ∀ k, G k → k < w.heap.size) (hq : ¬ G q) : PD w G D q n N m := ⟨h.pw, h.dv.frame hF hb (fun _ _ => rfl), hq, h.hs, h.hN⟩
theorem RD.wide (h : RD w F D q n N m) (hF : ∀ k, F k → G k) (hb : ∀ k, G k → k < w.heap.size) (hq : ¬ G q) : RD w G D q n N m := ⟨h.qw, by obtain ⟨gs, vs, x⟩ := h.rv; exact ⟨gs, vs, x.frame hF hb (fun _ _ => rfl)⟩, hq, h.hf, h.hs, h.hl, h.hN⟩
theorem ext_bound (h : ∀ k, F k → k < w.heap.size) (hs : w.heap.size ≤ w'.heap.size) : ∀ k, Ext F w w' k → k < w'.heap.size := fun k x => x.elim (fun y => Nat.lt_of_lt_of_le (h k y) hs) (fun y => y.2)
/-- what came between -/
theorem PD.from_ (h : PD w F D q n N m) (hs : w.heap.size ≤ w1.heap.size) (hs2 : w1.heap.size ≤ w'.heap.size) (h1 : PD w' (Ext F w1 w') D q n N' m') : PD w' (Ext F w w') D q n N' m' :=
  h1.wide (fun k x => x.imp id (fun y => ⟨Nat.le_trans hs y.1, y.2⟩)) (ext_bound (fun k x => h.bound k (.inl x)) (Nat.le_trans hs hs2)) (fun x => x.elim h.np (fun y => by have := h.pw.lt; omega))
theorem PD.trans (h : PD w F D q n N m) (hs : w.heap.size ≤ w1.heap.size) (hs2 : w1.heap.size ≤ w'.heap.size) (h1 : PD w' (Ext (Ext F w w1) w1 w') D q n N' m') : PD w' (Ext F w w') D q n N' m' :=
  h1.wide (fun k x => x.elim (fun y => y.imp id (fun z => ⟨z.1, Nat.lt_of_lt_of_le z.2 hs2⟩)) (fun y => .inr ⟨Nat.le_trans hs y.1, y.2⟩)) (ext_bound (fun k x => h.bound k (.inl x)) (Nat.le_trans hs hs2)) (fun x => x.elim h.np (fun y => by have := h.pw.lt; omega))
theorem RD.from_ (h : RD w F D q n N m) (hs : w.heap.size ≤ w1.heap.size) (hs2 : w1.heap.size ≤ w'.heap.size) (h1 : RD w' (Ext F w1 w') D q n N' m') : RD w' (Ext F w w') D q n N' m' :=
  h1.wide (fun k x => x.imp id (fun y => ⟨Nat.le_trans hs y.1, y.2⟩)) (ext_bound (fun k x => h.bound k (.inl x)) (Nat.le_trans hs hs2)) (fun x => x.elim h.nq (fun y => by have := h.qw.lt; omega))
theorem RD.trans (h : RD w F D q n N m) (hs : w.heap.size ≤ w1.heap.size) (hs2 : w1.heap.size ≤ w'.heap.size) (h1 : RD w' (Ext (Ext F w w1) w1 w') D q n N' m') : RD w' (Ext F w w') D q n N' m' :=
  h1.wide (fun k x => x.elim (fun y => y.imp id (fun z => ⟨z.1, Nat.lt_of_lt_of_le z.2 hs2⟩)) (fun y => .inr ⟨Nat.le_trans hs y.1, y.2⟩)) (ext_bound (fun k x => h.bound k (.inl x)) (Nat.le_trans hs hs2)) (fun x => x.elim h.nq (fun y => by have := h.qw.lt; omega))
/-- changes of a device that grew on the way -/
theorem chg_trans (hb : ∀ k, Al F q k → k < w.heap.size) (h1 : Chg (Al F q) w w1) (h2 : Chg (Al (Ext F w w1) q) w1 w') : Chg (Al F q) w w' :=
  h1.trans h2 (fun k hk x => x.elim (fun y => y.elim .inl (fun z => absurd z.1 (by omega))) .inr)
/-- the table of four halvings stands below B -/
def EB (B : Nat) (w : World) : Prop := Env w ∧ 0 < B
theorem EB.base {B : Nat} (h : EB B w) (hb : Below B w w') : EB B w' := by
  obtain ⟨⟨t, fr, hh⟩, h2⟩ := h
  exact ⟨⟨t, fr, (hb.block _ h2).trans hh⟩, h2⟩
theorem EB.chg {B : Nat} (h : EB B w) (hc : Chg F w w') (hF : ∀ k, F k → B ≤ k) : EB B w' := by
  obtain ⟨⟨t, fr, hh⟩, h2⟩ := h
  exact ⟨⟨t, fr, (hc.block _ (Array.getElem?_eq_some_iff.1 hh).1 (fun x => by have := hF _ x; omega)).trans hh⟩, h2⟩
end
section
variable {w w' : World} {F : Nat → Prop} {D q n N : Nat} {m : Vs} {p : Pn.Pl}
theorem check_nil (p : Pn.Pl) (w : World) : Calls Tryz.prog 58 #[.agg #[.pointer none, .int .i64 p.a0, .int .i64 p.a1, .int .i64 p.a2, .int .i64 p.a3, .int .i64 p.a4, .int .i64 p.a5, .int .i64 p.a6, .int .i64 p.a7, .int .i64 p.a8, .int .i64 p.a9, .int .i64 p.a10, .int .i64 p.a11, .int .i64 p.a12]] w fun e w' => e = .returned (.int .i64 2) ∧ Below w.heap.size w w' := by
  go_enter Tryz.func58, Tryz.ntmps58
  go_wp2_with fail
  refine (read_nil _ _).mono ?_; rintro e w' ⟨rfl, rfl⟩
  go_wp2
  go_ret
  exact ⟨rfl, balloc _ _⟩
theorem check_yes (h : PD w F D q n N m) (h4 : p.a4 = (n : Int)) (hn : 0 < n) : Calls Tryz.prog 58 #[(.agg #[.pointer (some ⟨D, 0, none⟩), .int .i64 p.a0, .int .i64 p.a1, .int .i64 p.a2, .int .i64 p.a3, .int .i64 p.a4, .int .i64 p.a5, .int .i64 p.a6, .int .i64 p.a7, .int .i64 p.a8, .int .i64 p.a9, .int .i64 p.a10, .int .i64 p.a11, .int .i64 p.a12])] w fun e w' => e = .returned (.int .i64 0) ∧ Below w.heap.size w w' := by
  have H := Lib.hid h
  have H4 := Lib.hid h4
  clear h h4
  go_enter Tryz.func58, Tryz.ntmps58
  go_wp2_with fail
  refine ((H.out.below (balloc _ _)).noread (-1) (.inl (by decide))).mono ?_; rintro e w1 ⟨v, rfl, hv, rfl⟩
  go_wp2_with fail
  refine (Pn.plan_any p _).mono ?_; rintro e w1 ⟨rfl, b1⟩
  have B1 := Lib.hid (bthen (balloc w _) b1)
  have X1 := Lib.hid (Pn.box_cell b1 (j := 0) (v := .pointer (some ⟨D, 0, none⟩)) rfl)
  have PD1 := Lib.hid (H.out.below (bthen (balloc w _) b1))
  have hf1 := field_4 p w1
  have c0 := X1.out
  have t0 : (p.a4 == 0) = false := by rw [H4.out]; simp; omega
  have t1 : ((n : Int) != p.a4) = false := by rw [H4.out]; simp
  clear b1
  go_wp2_with fail
  refine PD1.out.size.mono ?_; rintro e w2 ⟨rfl, rfl⟩
  go_wp2
  go_ret
  exact ⟨rfl, B1.out⟩
theorem check_no (h : PD w F D q n N m) (h4 : p.a4 = 0 ∨ ¬ p.a4 = (n : Int)) : Calls Tryz.prog 58 #[(.agg #[.pointer (some ⟨D, 0, none⟩), .int .i64 p.a0, .int .i64 p.a1, .int .i64 p.a2, .int .i64 p.a3, .int .i64 p.a4, .int .i64 p.a5, .int .i64 p.a6, .int .i64 p.a7, .int .i64 p.a8, .int .i64 p.a9, .int .i64 p.a10, .int .i64 p.a11, .int .i64 p.a12])] w fun e w' => e = .returned (.int .i64 1) ∧ Below w.heap.size w w' := by
  have H := Lib.hid h
  by_cases h0 : p.a4 = 0
  · have H0 := Lib.hid h0
    clear h h4 h0
    go_enter Tryz.func58, Tryz.ntmps58
    go_wp2_with fail
    refine ((H.out.below (balloc _ _)).noread (-1) (.inl (by decide))).mono ?_; rintro e w1 ⟨v, rfl, hv, rfl⟩
    go_wp2_with fail
    refine (Pn.plan_any p _).mono ?_; rintro e w1 ⟨rfl, b1⟩
    have B1 := Lib.hid (bthen (balloc w _) b1)
    have hf1 := field_4 p w1
    have t0 : (p.a4 == 0) = true := by rw [H0.out]; rfl
    clear b1
    go_wp2
    go_ret
    exact ⟨rfl, B1.out⟩
  · have HN : Hid (¬ (n : Int) = p.a4) := by show ¬ _; omega
    have H0 := Lib.hid h0
    clear h h4 h0
    go_enter Tryz.func58, Tryz.ntmps58
    go_wp2_with fail
    refine ((H.out.below (balloc _ _)).noread (-1) (.inl (by decide))).mono ?_; rintro e w1 ⟨v, rfl, hv, rfl⟩
    go_wp2_with fail
    refine (Pn.plan_any p _).mono ?_; rintro e w1 ⟨rfl, b1⟩
    have B1 := Lib.hid (bthen (balloc w _) b1)
    have X1 := Lib.hid (Pn.box_cell b1 (j := 0) (v := .pointer (some ⟨D, 0, none⟩)) rfl)
    have PD1 := Lib.hid (H.out.below (bthen (balloc w _) b1))
    have hf1 := field_4 p w1
    have c0 := X1.out
    have t0 : (p.a4 == 0) = false := by simp; exact H0.out
    have t1 : ((n : Int) != p.a4) = true := by simp; exact HN.out
    clear b1
    go_wp2_with fail
    refine PD1.out.size.mono ?_; rintro e w2 ⟨rfl, rfl⟩
    go_wp2
    go_ret
    exact ⟨rfl, B1.out⟩
end
section
variable {w w' : World} {F : Nat → Prop} {D q n N ne np ga : Nat} {m : Vs} {p : Pn.Pl} {x : Gp}
theorem spot_lt (hp : Pln p ne np ga n) {i : Nat} (hi : i < np) (hx : x.no = (i : Int)) : spot ga x < n ∧ (spot ga x : Int) = p.a3 + 2 * x.no + ((x.v % 2 : Nat) : Int) := by
  have := hp.hn
  have := hp.h3
  unfold spot
  rw [hx]
  omega
set_option maxHeartbeats 1000000 in
theorem write_any (h : PD w F D q n N m) (he : Env w) (hp : Pln p ne np ga n) (hN : N + 1 ≤ 1000000) {i : Nat} (hi : i < np) (hx : x.no = (i : Int)) (hm : MayBe x) :
    Calls Tryz.prog 64 #[(.agg #[.pointer (some ⟨D, 0, none⟩), .int .i64 p.a0, .int .i64 p.a1, .int .i64 p.a2, .int .i64 p.a3, .int .i64 p.a4, .int .i64 p.a5, .int .i64 p.a6, .int .i64 p.a7, .int .i64 p.a8, .int .i64 p.a9, .int .i64 p.a10, .int .i64 p.a11, .int .i64 p.a12]), (.agg #[.int .i64 x.no, .int .u64 (x.v : Int), .int .u64 (x.g 0 : Int), .int .u64 (x.g 1 : Int), .int .u64 (x.g 2 : Int), .int .u64 (x.g 3 : Int), .int .u64 (x.g 4 : Int), .int .u64 (x.g 5 : Int)])] w fun e w' => e = .returned (.int .i64 (wr1 m (spot ga x) (sect x)).1) ∧ PD w' (Ext F w w') D q n (N + 1) (wr1 m (spot ga x) (sect x)).2 ∧ Chg (Al F q) w w' := by
  have H := Lib.hid h
  have HE := Lib.hid he
  obtain ⟨s1, s2⟩ := spot_lt hp hi hx
  have S1 := Lib.hid s1
  have C2 : Hid (x.no < p.a2) := by show _ < _; rw [hp.h2]; omega
  have C0 : Hid (0 ≤ x.no) := by show _ ≤ _; omega
  have C3 : Hid (p.a2 ≤ 100000 ∧ 0 ≤ p.a3 ∧ p.a3 ≤ 100000) := by show _ ∧ _; rw [hp.h2, hp.h3]; have := hp.hn; have := hp.hn2; omega
  have HM := Lib.hid hm
  have hv64 : x.v < 18446744073709551616 := isG64 hm.2.1
  obtain ⟨sp, hsp⟩ : ∃ sp, spot ga x = sp := ⟨_, rfl⟩
  have hway : (((x.v : Nat) : Int) % 2 = 0 ∧ p.a3 + 2 * x.no = (sp : Int)) ∨ (((x.v : Nat) : Int) % 2 = 1 ∧ p.a3 + 2 * x.no + 1 = (sp : Int)) := by omega
  rw [hsp] at S1 ⊢
  clear h he s1 s2 hx hm hp hi hsp
  rcases hway with ⟨hr, hs⟩ | ⟨hr, hs⟩
  all_goals
    have HS := Lib.hid hs
    clear hs
    go_enter Tryz.func64, Tryz.ntmps64
    go_wp2_with fail
    refine (Pn.copies_yes p x.no _ C0.out C2.out C3.out.1 C3.out.2.1 C3.out.2.2).mono ?_; rintro e w1 ⟨rfl, b1⟩
    have B1 := Lib.hid (bthen (bthen (balloc w _) (balloc _ _)) b1)
    have X1 := Lib.hid (kept_below (heap_at_next w (.cells #[.pointer (some ⟨D, 0, none⟩), .int .i64 p.a0, .int .i64 p.a1, .int .i64 p.a2, .int .i64 p.a3, .int .i64 p.a4, .int .i64 p.a5, .int .i64 p.a6, .int .i64 p.a7, .int .i64 p.a8, .int .i64 p.a9, .int .i64 p.a10, .int .i64 p.a11, .int .i64 p.a12] 78) (.cells #[.int .i64 x.no, .int .u64 (x.v : Int), .int .u64 (x.g 0 : Int), .int .u64 (x.g 1 : Int), .int .u64 (x.g 2 : Int), .int .u64 (x.g 3 : Int), .int .u64 (x.g 4 : Int), .int .u64 (x.g 5 : Int)] 33)) b1)
    have Y1 := Lib.hid (kept_below (heap_alloc2_old w (.cells #[.pointer (some ⟨D, 0, none⟩), .int .i64 p.a0, .int .i64 p.a1, .int .i64 p.a2, .int .i64 p.a3, .int .i64 p.a4, .int .i64 p.a5, .int .i64 p.a6, .int .i64 p.a7, .int .i64 p.a8, .int .i64 p.a9, .int .i64 p.a10, .int .i64 p.a11, .int .i64 p.a12] 78) (.cells #[.int .i64 x.no, .int .u64 (x.v : Int), .int .u64 (x.g 0 : Int), .int .u64 (x.g 1 : Int), .int .u64 (x.g 2 : Int), .int .u64 (x.g 3 : Int), .int .u64 (x.g 4 : Int), .int .u64 (x.g 5 : Int)] 33)) b1)
    have E1 := Lib.hid (HE.out.below B1.out)
    clear b1
    obtain ⟨x0, x1, x2, x3, x4, x5, x6, x7⟩ := gp_cells X1.out
    clear x0 x2 x3 x4 x5 x6 x7
    go_wp2_with ((with_reducible apply L_loadGp); exact rfl; exact X1.out; exact rfl)
    refine (gput_ok x _ HM.out E1.out).mono ?_; rintro e w2 ⟨v2, rfl, o2, b2⟩
    obtain ⟨A2, c2, rfl, l2, s2⟩ := o2.form (sect_length x)
    have S2 := Lib.hid s2
    have G2 : Hid (∀ b off, A2 = some ⟨b, off, none⟩ → ¬ Al F q b) := fun b off e hb => by
      have h1 := H.out.bound b hb
      have h2 := (o2.ge b (by rw [e]; rfl)).1
      have h3 := B1.out.size
      omega
    have y2 := cell_of_row _ _ 0 _ _ _ (kept_below Y1.out b2)
    have Y2 : w2.cell? ⟨w.heap.size, 0, none⟩ = some (.pointer (some ⟨D, 0, none⟩)) := y2
    have B2 := Lib.hid (bthen B1.out b2)
    have H2 := Lib.hid (H.out.below (bthen B1.out b2))
    clear o2 b2 s2 y2 x1
    go_wp2_with fail
    rw [HS.out]
    refine (H2.out.write (c := c2) hN sp S1.out S2.out G2.out).mono ?_; rintro e w3 ⟨rfl, p3, c3⟩
    have P3 := Lib.hid p3
    have C4 := Lib.hid c3
    clear p3 c3 Y2
    go_wp2
    go_ret
    exact ⟨rfl, H.out.from_ B2.out.size C4.out.size P3.out, (Chg.of_below (F := Al F q) B2.out).trans C4.out (fun _ _ x => x)⟩
theorem keep_new {w1 w2 : World} {b : Nat} {o : Obj} (hF : ∀ k, F k → k < w.heap.size) (h : w1.heap[b]? = some o) (hc : Chg F w1 w2) (hb : w.heap.size ≤ b) : w2.heap[b]? = some o :=
  (hc.block b (lt_of_heap h) (fun x => by have := hF b x; omega)).trans h
theorem oct_new {w1 w2 : World} {A : Option Addr} {l : Nat} {xs : List UInt8} (hF : ∀ k, F k → k < w.heap.size) (h : Oct w1 A l xs) (hc : Chg F w1 w2) (hb : ∀ b off, 0 < l → A = some ⟨b, off, none⟩ → w.heap.size ≤ b) : Oct w2 A l xs :=
  h.heap fun b off hl e => hc.block b (h.lt hl e) (fun x => by have := hF b x; have := hb b off hl e; omega)
theorem env_chg {w1 w2 : World} (h : Env w1) (hc : Chg F w1 w2) (hE : ∀ k, F k → 0 < k) : Env w2 := by
  obtain ⟨t, fr, hh⟩ := h
  exact ⟨t, fr, (hc.block _ (Array.getElem?_eq_some_iff.1 hh).1 (fun x => by have := hE _ x; omega)).trans hh⟩
end
end Go.Proofs.YtgdgehfapfgdfaaGreatDoor.Tb
