/-
  The document's table: write, Fresh, Format, Get. No conditions.
-/
import Derived.Test.YtgdgehfapfgdfaaGreatDoorGbBump
import Derived.Lib.ConvBytes
import Derived.Deep.RegionHeld
import Derived.Deep.DrawnRows
namespace Go.Proofs.YtgdgehfapfgdfaaGreatDoor.Tb
open Go.RowKit Oc Dm W Dw Sr
set_option linter.unusedVariables false
set_option maxRecDepth 100000
attribute [local go_sem ↓] Go.wp_at_zero Go.wp_at_succ

/-- a text of 64 octets as a slice -/
theorem bytes_of (w : World) (xs : List UInt8) (B : ByteArray) (hB : tx xs = .string B) (hx : xs.length = 64) : ∃ c w', (convert 9 96 (.string B)).run Tryz.prog w = .ok (.slice (some ⟨w.heap.size, 0, none⟩) 64 c) w' ∧ 64 ≤ c ∧ Oct w' (some ⟨w.heap.size, 0, none⟩) 64 xs ∧ Below w.heap.size w w' := by
  have e : B = bstr xs := by unfold tx at hB; injection hB with hB; exact hB.symm
  subst e
  have hs : (bstr xs).size = 64 := hx
  have hrun := Lib.run_convert_string_bytes (P := Tryz.prog) w 9 96 5 (bstr xs) Tryz.underlying9 Dm.bt.sl Dm.bt.u8
  rw [hs] at hrun
  refine ⟨_, _, hrun, grownCap_ge w 64 0 _, ⟨hx, fun _ => ⟨_, 0, rfl, fun j x hj => ?_⟩⟩, ⟨?_, ?_, ?_, ?_, fun k hk => Lib.bytesWorld_at_old w _ _ k hk⟩⟩
  · have hjl : j < xs.length := (List.getElem?_eq_some_iff.1 hj).1
    rw [Nat.zero_add, Lib.bytesWorld_cell w _ _ j (by rw [hs]; omega)]
    have : (bstr xs).data.toList = xs := by simp [bstr]
    rw [this]
    simp [List.getD, hj, ov]
  · simp [Lib.bytesWorld, World.freeze, World.alloc, World.drew, -World.alloc_eq, -World.drew_eq]
  · simp [Lib.bytesWorld, World.freeze, World.alloc, World.drew, -World.alloc_eq, -World.drew_eq]
  · simp [Lib.bytesWorld, World.freeze, World.alloc, World.drew, -World.alloc_eq, -World.drew_eq]
  · rw [Lib.bytesWorld_size]; omega
theorem rfresh_any (no : Int) (w : World) : Calls Tryz.prog 68 #[.int .i64 no] w fun e w' => e = .returned (.agg #[.int .i64 no, .int .u64 1, .int .u64 1, .int .u64 1, .int .u64 1, .int .u64 1, .int .u64 1, .int .u64 1]) ∧ Below w.heap.size w w' := by
  go_enter Tryz.func68, Tryz.ntmps68
  go_wp2_with ((with_reducible apply W.L_storeRow (N := 8) info_gp); exact rfl; exact rfl; exact heap_alloc_new _ _; exact rfl; exact rfl; (simp [Value.oneCell']); intro w1 h1 g1; have H1 := Lib.hid h1; have G1 := Lib.hid g1; clear h1 g1)
  refine bodyPost_ret (results_cell_row rfl _ _ _ _ _ _ _ rfl H1.out Tryz.underlying33 rfl info_gp) rfl ?_
  exact ⟨rfl, below_up (balloc w _) G1.out (Nat.le_refl _)⟩
section
variable {w w' w1 w0 : World} {G : Nat → Prop} {E q n N N' ne np ga : Nat} {m m' : Vs} {p : Pn.Pl} {x : Gp}
/-- a device of the document's on the way, from w0 on -/
structure RDJ (w0 : World) (G : Nat → Prop) (E q n N : Nat) (m : Vs) (w : World) : Prop where
  rd : RD w (Ext G w0 w) E q n N m
  chg : Chg (Al G q) w0 w
  base : (∀ k, Al G q k → k < w0.heap.size) ∧ ¬ G q
theorem RDJ.start (h : RD w G E q n N m) : RDJ w G E q n N m w :=
  ⟨h.wide (fun _ x => .inl x) (ext_bound (fun k x => h.bound k (.inl x)) (Nat.le_refl _)) (fun x => x.elim h.nq (fun y => by omega)), Chg.refl _ _, h.bound, h.nq⟩
theorem RDJ.then (h : RDJ w0 G E q n N m w) (h1 : RD w' (Ext (Ext G w0 w) w w') E q n N' m') (hc : Chg (Al (Ext G w0 w) q) w w') : RDJ w0 G E q n N' m' w' := by
  have z1 := h.chg.size
  have z2 := hc.size
  refine ⟨h1.wide (fun k x => x.elim (fun y => y.imp id (fun z => ⟨z.1, Nat.lt_of_lt_of_le z.2 z2⟩)) (fun y => .inr ⟨Nat.le_trans z1 y.1, y.2⟩)) (ext_bound (fun k x => h.base.1 k (.inl x)) (Nat.le_trans z1 z2)) (fun x => x.elim h.base.2 (fun y => by have := h.base.1 q (.inr rfl); omega)), ?_, h.base⟩
  exact h.chg.trans hc (fun k hk x => x.elim (fun y => y.elim .inl (fun z => absurd z.1 (by omega))) .inr)
theorem RDJ.below (h : RDJ w0 G E q n N m w) (hb : Below w.heap.size w w') : RDJ w0 G E q n N m w' :=
  ⟨(h.rd.below hb).wide (fun k x => x.imp id (fun y => ⟨y.1, Nat.lt_of_lt_of_le y.2 hb.size⟩)) (ext_bound (fun k x => h.base.1 k (.inl x)) (Nat.le_trans h.chg.size hb.size)) (fun x => x.elim h.base.2 (fun y => by have := h.base.1 q (.inr rfl); omega)), h.chg.trans (Chg.of_below (F := Al G q) hb) (fun _ _ x => x), h.base⟩
theorem RDJ.more (h : RDJ w0 G E q n N m w) (hN : N ≤ N') (hb : N' ≤ 1000000) : RDJ w0 G E q n N' m w := ⟨h.rd.more hN hb, h.chg, h.base⟩
theorem RDJ.flush (h : RDJ w0 G E q n N m w) (hN : N + 1 ≤ 1000000) :
    Calls Tryz.prog 38 #[.pointer (some ⟨E, 0, none⟩)] w fun e w' => e = .returned (.int .i64 (fl1 m).1) ∧ RDJ w0 G E q n (N + 1) (fl1 m).2 w' :=
  (h.rd.flush hN).mono fun e w' ⟨h1, h2, h3⟩ => ⟨h1, h.then h2 h3⟩
theorem RDJ.end_ {wa : World} {m0 : Vs} {N0 : Nat} (h : RDJ w0 G E q n N m w) (ha : RD wa G E q n N0 m0) (hb : Below wa.heap.size wa w0) : RD w (Ext G wa w) E q n N m ∧ Chg (Al G q) wa w :=
  ⟨ha.from_ hb.size h.chg.size h.rd, (Chg.of_below (F := Al G q) hb).trans h.chg (fun _ _ x => x)⟩
set_option maxHeartbeats 2000000 in
theorem RDJ.write (h : RDJ w0 G E q n N m w) (hp : Pln p ne np ga n) (hN : N + 1 ≤ 1000000) {i : Nat} (hi : i < np) (hx : x.no = (i : Int)) (hm : MayBe x) :
    Calls Tryz.prog 67 #[.pointer (some ⟨E, 0, none⟩), (.agg #[.int .i64 p.a0, .int .i64 p.a1, .int .i64 p.a2, .int .i64 p.a3, .int .i64 p.a4, .int .i64 p.a5, .int .i64 p.a6, .int .i64 p.a7, .int .i64 p.a8, .int .i64 p.a9, .int .i64 p.a10, .int .i64 p.a11, .int .i64 p.a12]), (.agg #[.int .i64 x.no, .int .u64 (x.v : Int), .int .u64 (x.g 0 : Int), .int .u64 (x.g 1 : Int), .int .u64 (x.g 2 : Int), .int .u64 (x.g 3 : Int), .int .u64 (x.g 4 : Int), .int .u64 (x.g 5 : Int)])] w fun e w' => e = .returned (.int .i64 (wr1 m (spot ga x) (sect x)).1) ∧ RDJ w0 G E q n (N + 1) (wr1 m (spot ga x) (sect x)).2 w' := by
  have H := Lib.hid h
  obtain ⟨s1, s2⟩ := spot_lt hp hi hx
  have S1 := Lib.hid s1
  have HM := Lib.hid hm
  have hb1 : 0 ≤ x.no ∧ x.no ≤ 10000 := by have := hp.hn; have := hp.hn2; omega
  have hb2 : 0 ≤ p.a3 ∧ p.a3 ≤ 10000 := by rw [hp.h3]; have := hp.hn; have := hp.hn2; omega
  have hv64 : x.v < 18446744073709551616 := isG64 hm.2.1
  obtain ⟨sp, hsp⟩ : ∃ sp, spot ga x = sp := ⟨_, rfl⟩
  obtain ⟨rm, hrm⟩ : ∃ rm : Nat, ((x.v : Nat) : Int) % 2 = (rm : Int) := ⟨x.v % 2, by omega⟩
  have hrm2 : rm < 2 := by omega
  rw [hsp] at S1 s2 ⊢
  have S2 : Hid (p.a3 + 2 * x.no + (rm : Int) = (sp : Int)) := by show _ = _; omega
  clear h s1 s2 hx hm hp hi hsp
  go_enter Tryz.func67, Tryz.ntmps67
  go_wp2_with ((with_reducible apply L_loadGp); exact rfl; exact heap_at_next w (.cells #[.int .i64 p.a0, .int .i64 p.a1, .int .i64 p.a2, .int .i64 p.a3, .int .i64 p.a4, .int .i64 p.a5, .int .i64 p.a6, .int .i64 p.a7, .int .i64 p.a8, .int .i64 p.a9, .int .i64 p.a10, .int .i64 p.a11, .int .i64 p.a12] 42) (.cells #[.int .i64 x.no, .int .u64 (x.v : Int), .int .u64 (x.g 0 : Int), .int .u64 (x.g 1 : Int), .int .u64 (x.g 2 : Int), .int .u64 (x.g 3 : Int), .int .u64 (x.g 4 : Int), .int .u64 (x.g 5 : Int)] 33); exact rfl)
  refine (rgput_ok x _ HM.out).mono ?_; rintro e w2 ⟨v2, rfl, o2, b2⟩
  obtain ⟨A2, c2, rfl, l2, s2⟩ := o2.form (sect_length x)
  have B2 := Lib.hid (bthen (bthen (balloc w (.cells #[.int .i64 p.a0, .int .i64 p.a1, .int .i64 p.a2, .int .i64 p.a3, .int .i64 p.a4, .int .i64 p.a5, .int .i64 p.a6, .int .i64 p.a7, .int .i64 p.a8, .int .i64 p.a9, .int .i64 p.a10, .int .i64 p.a11, .int .i64 p.a12] 42)) (balloc _ (.cells #[.int .i64 x.no, .int .u64 (x.v : Int), .int .u64 (x.g 0 : Int), .int .u64 (x.g 1 : Int), .int .u64 (x.g 2 : Int), .int .u64 (x.g 3 : Int), .int .u64 (x.g 4 : Int), .int .u64 (x.g 5 : Int)] 33))) b2)
  have X2 := Lib.hid (kept_below (heap_at_next w (.cells #[.int .i64 p.a0, .int .i64 p.a1, .int .i64 p.a2, .int .i64 p.a3, .int .i64 p.a4, .int .i64 p.a5, .int .i64 p.a6, .int .i64 p.a7, .int .i64 p.a8, .int .i64 p.a9, .int .i64 p.a10, .int .i64 p.a11, .int .i64 p.a12] 42) (.cells #[.int .i64 x.no, .int .u64 (x.v : Int), .int .u64 (x.g 0 : Int), .int .u64 (x.g 1 : Int), .int .u64 (x.g 2 : Int), .int .u64 (x.g 3 : Int), .int .u64 (x.g 4 : Int), .int .u64 (x.g 5 : Int)] 33)) b2)
  have y2 : w2.cell? ⟨w.heap.size, 3, none⟩ = some (.int .i64 p.a3) := cell_of_row _ _ 3 _ _ _ (kept_below (heap_alloc2_old w (.cells #[.int .i64 p.a0, .int .i64 p.a1, .int .i64 p.a2, .int .i64 p.a3, .int .i64 p.a4, .int .i64 p.a5, .int .i64 p.a6, .int .i64 p.a7, .int .i64 p.a8, .int .i64 p.a9, .int .i64 p.a10, .int .i64 p.a11, .int .i64 p.a12] 42) (.cells #[.int .i64 x.no, .int .u64 (x.v : Int), .int .u64 (x.g 0 : Int), .int .u64 (x.g 1 : Int), .int .u64 (x.g 2 : Int), .int .u64 (x.g 3 : Int), .int .u64 (x.g 4 : Int), .int .u64 (x.g 5 : Int)] 33)) b2)
  have S3 := Lib.hid s2
  have cv := s2.conv Dm.bt Tryz.underlying9 c2
  obtain ⟨B, hB⟩ : ∃ B, tx (sect x) = .string B := ⟨_, rfl⟩
  rw [show Value.string (bstr (sect x)) = .string B from hB] at cv
  have HB := Lib.hid hB
  clear o2 b2 s2 hB
  obtain ⟨x0, x1, x2, x3, x4, x5, x6, x7⟩ := gp_cells X2.out
  clear x2 x3 x4 x5 x6 x7
  go_wp2_with fail
  rw [S2.out]
  refine ((H.out.below B2.out).rd.write hN sp S1.out HB.out (sect_length x)).mono ?_; rintro e w3 ⟨rfl, p3, c3⟩
  have P3 := Lib.hid ((H.out.below B2.out).then p3 c3)
  clear p3 c3 x0 x1 y2 cv
  go_wp2
  go_ret
  exact ⟨rfl, P3.out⟩
end
end Go.Proofs.YtgdgehfapfgdfaaGreatDoor.Tb
