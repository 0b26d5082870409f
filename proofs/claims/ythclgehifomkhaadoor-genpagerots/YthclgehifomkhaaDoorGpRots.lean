/-
  The walk of the statement on two copies, of which one is spoilt. No conditions.
-/
import Derived.Test.YthclgehifomkhaaDoorGpGets
namespace Go.Proofs.YthclgehifomkhaaDoor.W
open Go.RowKit Oc
set_option linter.unusedVariables false
attribute [local go_sem] eq6
attribute [local go_sem ↓] Go.wp_at_zero Go.wp_at_succ

theorem nat_u32 {a : Int} (h : (Lit.int .u32 a).wf = true) : ∃ N : Nat, a = (N : Int) ∧ N < 4294967296 := by
  simp [Lit.wf, IntKind.min, IntKind.max, IntKind.signed, IntKind.bits] at h
  exact ⟨a.toNat, by omega, by omega⟩
theorem nat_u16 {a : Int} (h : (Lit.int .u16 a).wf = true) : ∃ N : Nat, a = (N : Int) ∧ N < 65536 := by
  simp [Lit.wf, IntKind.min, IntKind.max, IntKind.signed, IntKind.bits] at h
  exact ⟨a.toNat, by omega, by omega⟩
theorem nat_u8 {a : Int} (h : (Lit.int .u8 a).wf = true) : ∃ N : Nat, a = (N : Int) ∧ N < 256 := by
  simp [Lit.wf, IntKind.min, IntKind.max, IntKind.signed, IntKind.bits] at h
  exact ⟨a.toNat, by omega, by omega⟩

theorem oct_gc5 {w w' : World} {A : Option Addr} {n B : Nat} {xs : List UInt8} {no : Int} {v : Nat} {g : Nat → Nat} {T : TypeId} (h : Oct w A n xs) (hB : w.heap[B]? = some (.cells (gc no v g) T (0, 0))) (hg : w.grownBy w' (some B)) : Oct w' A n xs := h.grown hg (Oct.gc h hB)

set_option maxRecDepth 100000 in
set_option maxHeartbeats 4000000 in
theorem rots_no (p : Gp) (M : Int) (sec : Bool) (a t : Int) (w : World) (he : Env w) (h : ¬ MayBe p) :
    Calls Tryd.prog 5 #[(.agg #[.int .i64 p.no, .int .u64 (p.v : Int), .int .u64 (p.g 0 : Int), .int .u64 (p.g 1 : Int), .int .u64 (p.g 2 : Int), .int .u64 (p.g 3 : Int), .int .u64 (p.g 4 : Int), .int .u64 (p.g 5 : Int)]), .int .u8 M, .bool sec, .int .u16 a, .int .u32 t] w fun e w' => e = .returned (.bool true) ∧ Below w.heap.size w w' := by
  have HE := Lib.hid he
  have HM := Lib.hid h
  clear he h
  go_enter Tryd.func5, Tryd.ntmps5
  go_wp2_with fail
  refine (rmay_any p false _ ⟨fun x => (by cases x), fun x => absurd x HM.out⟩).mono ?_; rintro e w1 ⟨rfl, b1⟩
  have B1 : Hid (Below w.heap.size w w1) := bthen (balloc _ _) b1
  clear b1
  go_wp2_with fail
  refine (awake_any _ (HE.out.below B1.out)).mono ?_; rintro e w3 ⟨rfl, b3⟩
  have B3 : Hid (Below w.heap.size w w3) := bthen B1.out b3
  clear b3
  go_wp2
  go_ret
  exact ⟨rfl, B3.out⟩

set_option maxRecDepth 100000 in
set_option maxHeartbeats 8000000 in
theorem rots_ebt (p : Gp) (M V at_ T : Nat) (w : World) (he : Env w) (h : MayBe p) (hM : M < 256) (ha : at_ < 65536) (hT : T < 4294967296) (hV : V = min (p.v + M) 4611686018427387904) (hv : V = p.v) (ss cs : List UInt8) (hss : sect ⟨p.no, V, p.g⟩ = ss) (hcs : turned ss (at_ : Int) T 32 = cs) (hd : ¬ ss = cs) :
    Calls Tryd.prog 5 #[(.agg #[.int .i64 p.no, .int .u64 (p.v : Int), .int .u64 (p.g 0 : Int), .int .u64 (p.g 1 : Int), .int .u64 (p.g 2 : Int), .int .u64 (p.g 3 : Int), .int .u64 (p.g 4 : Int), .int .u64 (p.g 5 : Int)]), .int .u8 (M : Int), .bool true, .int .u16 (at_ : Int), .int .u32 (T : Int)] w fun e w' => e = .returned (.bool true) ∧ Below w.heap.size w w' := by
  have HE := Lib.hid he
  have HP := Lib.hid h
  have hpv := h.2.1
  have hq : MayBe (⟨p.no, V, p.g⟩ : Gp) := ⟨h.1, by have := hpv.1; have := hpv.2; show isG V; exact ⟨by omega, by omega⟩, h.2.2⟩
  have HQ := Lib.hid hq
  have hvm : (if (4611686018427387904 : Int) < (p.v : Int) + (M : Int) then (4611686018427387904 : Int) else (p.v : Int) + (M : Int)) = (V : Int) := by
    split <;> omega
  have hp1 := hpv.1
  have hp2 := hpv.2
  have hVb : V ≤ 4611686018427387904 := by omega
  have hve : ((V : Int) == (p.v : Int)) = true := by simp; omega
  have hbe : ((bstr cs).toList == (bstr ss).toList) = false := bstr_eq cs ss false (by simp; exact fun e => hd e.symm)
  have hw1 : GWay (sect p) p.no p 0 := way_own h
  have hw2 : GWay (sect ⟨p.no, V, p.g⟩) p.no ⟨p.no, V, p.g⟩ 0 := way_own hq
  have hwc : GWay cs p.no zp 40 := by
    rw [← hcs, ← hss]; exact way_rot _ at_ T (by rw [hss, hcs]; exact hd) _
  obtain ⟨xs, hxs⟩ : ∃ xs, sect p = xs := ⟨_, rfl⟩
  have hsl : ss.length = 64 := by rw [← hss]; exact sect_length _
  have hxl : xs.length = 64 := by rw [← hxs]; exact sect_length _
  have hcl : cs.length = 64 := by rw [← hcs, turned_length, hsl]
  rw [hxs] at hw1
  rw [hss] at hw2
  have HS := Lib.hid hss
  have HX := Lib.hid hxs
  have HSL := Lib.hid hsl
  have HXL := Lib.hid hxl
  have HCL := Lib.hid hcl
  have HC := Lib.hid hcs
  have W1 := Lib.hid hw1
  have W2 := Lib.hid hw2
  have WC := Lib.hid hwc
  have HT := Lib.hid hT
  have HV := Lib.hid hv
  clear he h hq hpv hss hxs hsl hxl hcl hcs hw1 hw2 hwc hT hd hV hv
  go_enter Tryd.func5, Tryd.ntmps5
  go_wp2_with fail
  refine (rmay_any p true _ ⟨fun _ => HP.out, fun _ => rfl⟩).mono ?_; rintro e w1 ⟨rfl, b1⟩
  have X1 := Lib.hid (kept_below (heap_alloc_new w (.cells #[.int .i64 p.no, .int .u64 (p.v : Int), .int .u64 (p.g 0 : Int), .int .u64 (p.g 1 : Int), .int .u64 (p.g 2 : Int), .int .u64 (p.g 3 : Int), .int .u64 (p.g 4 : Int), .int .u64 (p.g 5 : Int)] 25)) b1)
  have B1 : Hid (Below w.heap.size w w1) := bthen (balloc _ _) b1
  clear b1
  have X2 := Lib.hid (kept_below X1.out (balloc w1 (.cells #[.int .i64 p.no, .int .u64 (p.v : Int), .int .u64 (p.g 0 : Int), .int .u64 (p.g 1 : Int), .int .u64 (p.g 2 : Int), .int .u64 (p.g 3 : Int), .int .u64 (p.g 4 : Int), .int .u64 (p.g 5 : Int)] 25)))
  obtain ⟨x0, x1, x2, x3, x4, x5, x6, x7⟩ := gp_cells X2.out
  go_wp2_with (first
    | ((with_reducible apply L_loadGp); exact rfl; exact X1.out; exact rfl)
    | ((with_reducible apply L_loadGp); exact rfl; exact (kept_below X1.out (balloc w1 _)); exact rfl))
  clear x0 x1 x2 x3 x4 x5 x6 x7
  have X3 := Lib.hid (kept_below X1.out (balloc w1 (.cells #[.int .i64 p.no, .int .u64 (V : Int), .int .u64 (p.g 0 : Int), .int .u64 (p.g 1 : Int), .int .u64 (p.g 2 : Int), .int .u64 (p.g 3 : Int), .int .u64 (p.g 4 : Int), .int .u64 (p.g 5 : Int)] 25)))
  have Y3 := Lib.hid (heap_alloc_new w1 (.cells #[.int .i64 p.no, .int .u64 (V : Int), .int .u64 (p.g 0 : Int), .int .u64 (p.g 1 : Int), .int .u64 (p.g 2 : Int), .int .u64 (p.g 3 : Int), .int .u64 (p.g 4 : Int), .int .u64 (p.g 5 : Int)] 25))
  have Ba : Hid (Below w.heap.size w (w1.alloc (.cells #[.int .i64 p.no, .int .u64 (V : Int), .int .u64 (p.g 0 : Int), .int .u64 (p.g 1 : Int), .int .u64 (p.g 2 : Int), .int .u64 (p.g 3 : Int), .int .u64 (p.g 4 : Int), .int .u64 (p.g 5 : Int)] 25))) := bthen B1.out (balloc _ _)
  refine (rgput_ok p _ HP.out).mono ?_; rintro e w2 ⟨v2, rfl, o2, b2⟩
  obtain ⟨A2, c2, rfl, l2, s2⟩ := o2.form (sect_length p)
  have X4 := Lib.hid (kept_below X3.out b2)
  have Y4 := Lib.hid (kept_below Y3.out b2)
  have S2 := Lib.hid s2
  have B2 : Hid (Below w.heap.size w w2) := bthen Ba.out b2
  clear b2 s2 o2 X2 X3 Y3
  go_wp2_with ((with_reducible apply L_loadGp); exact rfl; exact Y4.out; exact rfl)
  refine (rgput_ok ⟨p.no, V, p.g⟩ _ HQ.out).mono ?_; rintro e w3 ⟨v3, rfl, o3, b3⟩
  obtain ⟨A3, c3, rfl, l3, s3⟩ := o3.form (sect_length _)
  have X5 := Lib.hid (kept_below X4.out b3)
  have Y5 := Lib.hid (kept_below Y4.out b3)
  have S3 := Lib.hid s3
  have T3 := Lib.hid (S2.out.below b3)
  have B3 : Hid (Below w.heap.size w w3) := bthen B2.out b3
  clear b3 s3 o3
  have X6 := Lib.hid (kept_below X5.out (balloc w3 (.cells #[.int .i64 p.no, .int .u64 (V : Int), .int .u64 (p.g 0 : Int), .int .u64 (p.g 1 : Int), .int .u64 (p.g 2 : Int), .int .u64 (p.g 3 : Int), .int .u64 (p.g 4 : Int), .int .u64 (p.g 5 : Int)] 25)))
  have Y6 := Lib.hid (kept_below Y5.out (balloc w3 (.cells #[.int .i64 p.no, .int .u64 (V : Int), .int .u64 (p.g 0 : Int), .int .u64 (p.g 1 : Int), .int .u64 (p.g 2 : Int), .int .u64 (p.g 3 : Int), .int .u64 (p.g 4 : Int), .int .u64 (p.g 5 : Int)] 25)))
  obtain ⟨x0, x1, x2, x3, x4, x5, x6, x7⟩ := gp_cells X6.out
  obtain ⟨y0, y1, y2, y3, y4, y5, y6, y7⟩ := gp_cells (p := ⟨p.no, V, p.g⟩) Y6.out
  go_wp2_with (first
    | ((with_reducible apply L_loadGp); exact rfl; exact X6.out; exact rfl)
    | ((with_reducible apply L_loadGp); exact rfl; exact Y6.out; exact rfl)
    | ((with_reducible apply L_loadGp); exact rfl; exact Y5.out; exact rfl))
  have Bb : Hid (Below w.heap.size w (w3.alloc (.cells #[.int .i64 p.no, .int .u64 (p.v : Int), .int .u64 (p.g 0 : Int), .int .u64 (p.g 1 : Int), .int .u64 (p.g 2 : Int), .int .u64 (p.g 3 : Int), .int .u64 (p.g 4 : Int), .int .u64 (p.g 5 : Int)] 25))) := bthen B3.out (balloc _ _)
  have X7 := Lib.hid (kept_below X5.out (balloc w3 (.cells #[.int .i64 p.no, .int .u64 (p.v : Int), .int .u64 (p.g 0 : Int), .int .u64 (p.g 1 : Int), .int .u64 (p.g 2 : Int), .int .u64 (p.g 3 : Int), .int .u64 (p.g 4 : Int), .int .u64 (p.g 5 : Int)] 25)))
  have Y7 := Lib.hid (kept_below Y5.out (balloc w3 (.cells #[.int .i64 p.no, .int .u64 (p.v : Int), .int .u64 (p.g 0 : Int), .int .u64 (p.g 1 : Int), .int .u64 (p.g 2 : Int), .int .u64 (p.g 3 : Int), .int .u64 (p.g 4 : Int), .int .u64 (p.g 5 : Int)] 25)))
  have Z7 := Lib.hid (heap_alloc_new w3 (.cells #[.int .i64 p.no, .int .u64 (p.v : Int), .int .u64 (p.g 0 : Int), .int .u64 (p.g 1 : Int), .int .u64 (p.g 2 : Int), .int .u64 (p.g 3 : Int), .int .u64 (p.g 4 : Int), .int .u64 (p.g 5 : Int)] 25))
  refine (rturn_any _ 64 _ ss _ T _ (by omega) (by rw [← HS.out]; exact (S3.out.alloc _)) HT.out).mono ?_; rintro e w4 ⟨v4, rfl, o4, b4⟩
  rw [HC.out] at o4
  obtain ⟨A4, c4, rfl, l4, s4⟩ := o4.form HCL.out
  have X8 := Lib.hid (kept_below X7.out b4)
  have Y8 := Lib.hid (kept_below Y7.out b4)
  have Z8 := Lib.hid (kept_below Z7.out b4)
  have SC := Lib.hid s4
  have SO : Hid (Oct w4 A3 64 ss) := by show Oct _ _ _ _; rw [← HS.out]; exact (S3.out.alloc _).below b4
  have SX : Hid (Oct w4 A2 64 xs) := by show Oct _ _ _ _; rw [← HX.out]; exact (T3.out.alloc _).below b4
  have B4 : Hid (Below w.heap.size w w4) := bthen Bb.out b4
  clear b4 s4 o4 x0 x1 x2 x3 x4 x5 x6 x7 y0 y1 y2 y3 y4 y5 y6 y7 X6 Y6 X7 Y7 Z7
  have cv1 := SC.out.conv bt Tryd.underlying9 c4
  have cv2 := SO.out.conv bt Tryd.underlying9 c3
  have hws : w.heap.size < w3.heap.size := by have := (Array.getElem?_eq_some_iff.1 X5.out).1; omega
  have hws1 : w1.heap.size < w3.heap.size := by have := (Array.getElem?_eq_some_iff.1 Y5.out).1; omega
  have n0 := gp_cells X8.out
  obtain ⟨x0, x1, x2, x3, x4, x5, x6, x7⟩ := n0
  go_upto_region 19 with (first
    | ((with_reducible apply L_loadGp); exact rfl; exact X8.out; exact rfl)
    | ((with_reducible apply L_storeRow (N := 8) info_gp); exact rfl; exact rfl; exact Z8.out; exact rfl; exact rfl; (simp [Value.oneCell']); intro w5 h5 g5; have Z9 := Lib.hid h5; have G5 := Lib.hid g5; clear h5 g5))
  have X9 := Lib.hid (kept_by X8.out G5.out (by omega))
  have SC9 := Lib.hid (oct_gc5 SC.out Z8.out G5.out)
  have SX9 := Lib.hid (oct_gc5 SX.out Z8.out G5.out)
  have B9 : Hid (Below w.heap.size w w5) := below_up B4.out G5.out (by omega)
  clear x0 x1 x2 x3 x4 x5 x6 x7
  obtain ⟨x0, x1, x2, x3, x4, x5, x6, x7⟩ := gp_cells X9.out
  go_wp2_with fail
  refine (newer_any _ _ 64 _ 64 _ xs cs _ p zp 0 40 p 0 true _ (by omega) l2 (by omega) l4 SX9.out SC9.out (HE.out.below B9.out) W1.out WC.out (.inl ⟨rfl, by decide, rfl, HP.out.2.1, rfl, rfl, rfl⟩)).mono ?_; rintro e w6 ⟨rfl, b6⟩
  have Z10 := Lib.hid (kept_below Z9.out b6)
  have B10 : Hid (Below w.heap.size w w6) := bthen B9.out b6
  clear b6 x0 x1 x2 x3 x4 x5 x6 x7
  rw [show (.agg #[.int .i64 (Gp.no p), .int .u64 ((Gp.v p : Nat) : Int), .int .u64 ((Gp.g p 0 : Nat) : Int), .int .u64 ((Gp.g p 1 : Nat) : Int), .int .u64 ((Gp.g p 2 : Nat) : Int), .int .u64 ((Gp.g p 3 : Nat) : Int), .int .u64 ((Gp.g p 4 : Nat) : Int), .int .u64 ((Gp.g p 5 : Nat) : Int)] : Value) = .agg #[.int .i64 p.no, .int .u64 (p.v : Int), .int .u64 (p.g 0 : Int), .int .u64 (p.g 1 : Int), .int .u64 (p.g 2 : Int), .int .u64 (p.g 3 : Int), .int .u64 (p.g 4 : Int), .int .u64 (p.g 5 : Int)] from rfl]
  have Z11 := kept_below Z10.out (balloc w6 (.cells #[.int .i64 p.no, .int .u64 (p.v : Int), .int .u64 (p.g 0 : Int), .int .u64 (p.g 1 : Int), .int .u64 (p.g 2 : Int), .int .u64 (p.g 3 : Int), .int .u64 (p.g 4 : Int), .int .u64 (p.g 5 : Int)] 25))
  have B11 : Hid (Below w.heap.size w (w6.alloc (.cells #[.int .i64 p.no, .int .u64 (p.v : Int), .int .u64 (p.g 0 : Int), .int .u64 (p.g 1 : Int), .int .u64 (p.g 2 : Int), .int .u64 (p.g 3 : Int), .int .u64 (p.g 4 : Int), .int .u64 (p.g 5 : Int)] 25))) := bthen B10.out (balloc _ _)
  obtain ⟨z0, z1, z2, z3, z4, z5, z6, z7⟩ := gp_cells (p := p) Z11
  go_wp2_with fail
  refine (awake_any _ (HE.out.below B11.out)).mono ?_; rintro e w7 ⟨rfl, b7⟩
  have B12 : Hid (Below w.heap.size w w7) := bthen B11.out b7
  clear b7
  go_wp2
  go_ret
  exact ⟨rfl, B12.out⟩

set_option maxRecDepth 100000 in
set_option maxHeartbeats 8000000 in
theorem rots_ebk (p : Gp) (M V at_ T : Nat) (w : World) (he : Env w) (h : MayBe p) (hM : M < 256) (ha : at_ < 65536) (hT : T < 4294967296) (hV : V = min (p.v + M) 4611686018427387904) (hv : V = p.v) (ss cs : List UInt8) (hss : sect ⟨p.no, V, p.g⟩ = ss) (hcs : turned ss (at_ : Int) T 32 = cs) (hd : ss = cs) :
    Calls Tryd.prog 5 #[(.agg #[.int .i64 p.no, .int .u64 (p.v : Int), .int .u64 (p.g 0 : Int), .int .u64 (p.g 1 : Int), .int .u64 (p.g 2 : Int), .int .u64 (p.g 3 : Int), .int .u64 (p.g 4 : Int), .int .u64 (p.g 5 : Int)]), .int .u8 (M : Int), .bool true, .int .u16 (at_ : Int), .int .u32 (T : Int)] w fun e w' => e = .returned (.bool true) ∧ Below w.heap.size w w' := by
  have HE := Lib.hid he
  have HP := Lib.hid h
  have hpv := h.2.1
  have hq : MayBe (⟨p.no, V, p.g⟩ : Gp) := ⟨h.1, by have := hpv.1; have := hpv.2; show isG V; exact ⟨by omega, by omega⟩, h.2.2⟩
  have HQ := Lib.hid hq
  have hvm : (if (4611686018427387904 : Int) < (p.v : Int) + (M : Int) then (4611686018427387904 : Int) else (p.v : Int) + (M : Int)) = (V : Int) := by
    split <;> omega
  have hp1 := hpv.1
  have hp2 := hpv.2
  have hVb : V ≤ 4611686018427387904 := by omega
  have hve : ((V : Int) == (p.v : Int)) = true := by simp; omega
  have hbe : ((bstr cs).toList == (bstr ss).toList) = true := bstr_eq cs ss true (by rw [hd]; simp)
  have hw1 : GWay (sect p) p.no p 0 := way_own h
  have hw2 : GWay (sect ⟨p.no, V, p.g⟩) p.no ⟨p.no, V, p.g⟩ 0 := way_own hq
  have hwc : GWay cs p.no ⟨p.no, V, p.g⟩ 0 := by
    rw [← hd, ← hss]; exact hw2
  obtain ⟨xs, hxs⟩ : ∃ xs, sect p = xs := ⟨_, rfl⟩
  have hsl : ss.length = 64 := by rw [← hss]; exact sect_length _
  have hxl : xs.length = 64 := by rw [← hxs]; exact sect_length _
  have hcl : cs.length = 64 := by rw [← hcs, turned_length, hsl]
  rw [hxs] at hw1
  rw [hss] at hw2
  have HS := Lib.hid hss
  have HX := Lib.hid hxs
  have HSL := Lib.hid hsl
  have HXL := Lib.hid hxl
  have HCL := Lib.hid hcl
  have HC := Lib.hid hcs
  have W1 := Lib.hid hw1
  have W2 := Lib.hid hw2
  have WC := Lib.hid hwc
  have HT := Lib.hid hT
  have HV := Lib.hid hv
  clear he h hq hpv hss hxs hsl hxl hcl hcs hw1 hw2 hwc hT hd hV hv
  go_enter Tryd.func5, Tryd.ntmps5
  go_wp2_with fail
  refine (rmay_any p true _ ⟨fun _ => HP.out, fun _ => rfl⟩).mono ?_; rintro e w1 ⟨rfl, b1⟩
  have X1 := Lib.hid (kept_below (heap_alloc_new w (.cells #[.int .i64 p.no, .int .u64 (p.v : Int), .int .u64 (p.g 0 : Int), .int .u64 (p.g 1 : Int), .int .u64 (p.g 2 : Int), .int .u64 (p.g 3 : Int), .int .u64 (p.g 4 : Int), .int .u64 (p.g 5 : Int)] 25)) b1)
  have B1 : Hid (Below w.heap.size w w1) := bthen (balloc _ _) b1
  clear b1
  have X2 := Lib.hid (kept_below X1.out (balloc w1 (.cells #[.int .i64 p.no, .int .u64 (p.v : Int), .int .u64 (p.g 0 : Int), .int .u64 (p.g 1 : Int), .int .u64 (p.g 2 : Int), .int .u64 (p.g 3 : Int), .int .u64 (p.g 4 : Int), .int .u64 (p.g 5 : Int)] 25)))
  obtain ⟨x0, x1, x2, x3, x4, x5, x6, x7⟩ := gp_cells X2.out
  go_wp2_with (first
    | ((with_reducible apply L_loadGp); exact rfl; exact X1.out; exact rfl)
    | ((with_reducible apply L_loadGp); exact rfl; exact (kept_below X1.out (balloc w1 _)); exact rfl))
  clear x0 x1 x2 x3 x4 x5 x6 x7
  have X3 := Lib.hid (kept_below X1.out (balloc w1 (.cells #[.int .i64 p.no, .int .u64 (V : Int), .int .u64 (p.g 0 : Int), .int .u64 (p.g 1 : Int), .int .u64 (p.g 2 : Int), .int .u64 (p.g 3 : Int), .int .u64 (p.g 4 : Int), .int .u64 (p.g 5 : Int)] 25)))
  have Y3 := Lib.hid (heap_alloc_new w1 (.cells #[.int .i64 p.no, .int .u64 (V : Int), .int .u64 (p.g 0 : Int), .int .u64 (p.g 1 : Int), .int .u64 (p.g 2 : Int), .int .u64 (p.g 3 : Int), .int .u64 (p.g 4 : Int), .int .u64 (p.g 5 : Int)] 25))
  have Ba : Hid (Below w.heap.size w (w1.alloc (.cells #[.int .i64 p.no, .int .u64 (V : Int), .int .u64 (p.g 0 : Int), .int .u64 (p.g 1 : Int), .int .u64 (p.g 2 : Int), .int .u64 (p.g 3 : Int), .int .u64 (p.g 4 : Int), .int .u64 (p.g 5 : Int)] 25))) := bthen B1.out (balloc _ _)
  refine (rgput_ok p _ HP.out).mono ?_; rintro e w2 ⟨v2, rfl, o2, b2⟩
  obtain ⟨A2, c2, rfl, l2, s2⟩ := o2.form (sect_length p)
  have X4 := Lib.hid (kept_below X3.out b2)
  have Y4 := Lib.hid (kept_below Y3.out b2)
  have S2 := Lib.hid s2
  have B2 : Hid (Below w.heap.size w w2) := bthen Ba.out b2
  clear b2 s2 o2 X2 X3 Y3
  go_wp2_with ((with_reducible apply L_loadGp); exact rfl; exact Y4.out; exact rfl)
  refine (rgput_ok ⟨p.no, V, p.g⟩ _ HQ.out).mono ?_; rintro e w3 ⟨v3, rfl, o3, b3⟩
  obtain ⟨A3, c3, rfl, l3, s3⟩ := o3.form (sect_length _)
  have X5 := Lib.hid (kept_below X4.out b3)
  have Y5 := Lib.hid (kept_below Y4.out b3)
  have S3 := Lib.hid s3
  have T3 := Lib.hid (S2.out.below b3)
  have B3 : Hid (Below w.heap.size w w3) := bthen B2.out b3
  clear b3 s3 o3
  have X6 := Lib.hid (kept_below X5.out (balloc w3 (.cells #[.int .i64 p.no, .int .u64 (V : Int), .int .u64 (p.g 0 : Int), .int .u64 (p.g 1 : Int), .int .u64 (p.g 2 : Int), .int .u64 (p.g 3 : Int), .int .u64 (p.g 4 : Int), .int .u64 (p.g 5 : Int)] 25)))
  have Y6 := Lib.hid (kept_below Y5.out (balloc w3 (.cells #[.int .i64 p.no, .int .u64 (V : Int), .int .u64 (p.g 0 : Int), .int .u64 (p.g 1 : Int), .int .u64 (p.g 2 : Int), .int .u64 (p.g 3 : Int), .int .u64 (p.g 4 : Int), .int .u64 (p.g 5 : Int)] 25)))
  obtain ⟨x0, x1, x2, x3, x4, x5, x6, x7⟩ := gp_cells X6.out
  obtain ⟨y0, y1, y2, y3, y4, y5, y6, y7⟩ := gp_cells (p := ⟨p.no, V, p.g⟩) Y6.out
  go_wp2_with (first
    | ((with_reducible apply L_loadGp); exact rfl; exact X6.out; exact rfl)
    | ((with_reducible apply L_loadGp); exact rfl; exact Y6.out; exact rfl)
    | ((with_reducible apply L_loadGp); exact rfl; exact Y5.out; exact rfl))
  have Bb : Hid (Below w.heap.size w (w3.alloc (.cells #[.int .i64 p.no, .int .u64 (p.v : Int), .int .u64 (p.g 0 : Int), .int .u64 (p.g 1 : Int), .int .u64 (p.g 2 : Int), .int .u64 (p.g 3 : Int), .int .u64 (p.g 4 : Int), .int .u64 (p.g 5 : Int)] 25))) := bthen B3.out (balloc _ _)
  have X7 := Lib.hid (kept_below X5.out (balloc w3 (.cells #[.int .i64 p.no, .int .u64 (p.v : Int), .int .u64 (p.g 0 : Int), .int .u64 (p.g 1 : Int), .int .u64 (p.g 2 : Int), .int .u64 (p.g 3 : Int), .int .u64 (p.g 4 : Int), .int .u64 (p.g 5 : Int)] 25)))
  have Y7 := Lib.hid (kept_below Y5.out (balloc w3 (.cells #[.int .i64 p.no, .int .u64 (p.v : Int), .int .u64 (p.g 0 : Int), .int .u64 (p.g 1 : Int), .int .u64 (p.g 2 : Int), .int .u64 (p.g 3 : Int), .int .u64 (p.g 4 : Int), .int .u64 (p.g 5 : Int)] 25)))
  have Z7 := Lib.hid (heap_alloc_new w3 (.cells #[.int .i64 p.no, .int .u64 (p.v : Int), .int .u64 (p.g 0 : Int), .int .u64 (p.g 1 : Int), .int .u64 (p.g 2 : Int), .int .u64 (p.g 3 : Int), .int .u64 (p.g 4 : Int), .int .u64 (p.g 5 : Int)] 25))
  refine (rturn_any _ 64 _ ss _ T _ (by omega) (by rw [← HS.out]; exact (S3.out.alloc _)) HT.out).mono ?_; rintro e w4 ⟨v4, rfl, o4, b4⟩
  rw [HC.out] at o4
  obtain ⟨A4, c4, rfl, l4, s4⟩ := o4.form HCL.out
  have X8 := Lib.hid (kept_below X7.out b4)
  have Y8 := Lib.hid (kept_below Y7.out b4)
  have Z8 := Lib.hid (kept_below Z7.out b4)
  have SC := Lib.hid s4
  have SO : Hid (Oct w4 A3 64 ss) := by show Oct _ _ _ _; rw [← HS.out]; exact (S3.out.alloc _).below b4
  have SX : Hid (Oct w4 A2 64 xs) := by show Oct _ _ _ _; rw [← HX.out]; exact (T3.out.alloc _).below b4
  have B4 : Hid (Below w.heap.size w w4) := bthen Bb.out b4
  clear b4 s4 o4 x0 x1 x2 x3 x4 x5 x6 x7 y0 y1 y2 y3 y4 y5 y6 y7 X6 Y6 X7 Y7 Z7
  have cv1 := SC.out.conv bt Tryd.underlying9 c4
  have cv2 := SO.out.conv bt Tryd.underlying9 c3
  have hws : w.heap.size < w3.heap.size := by have := (Array.getElem?_eq_some_iff.1 X5.out).1; omega
  have hws1 : w1.heap.size < w3.heap.size := by have := (Array.getElem?_eq_some_iff.1 Y5.out).1; omega
  obtain ⟨w5, hw5⟩ : ∃ w5, w5 = w4 := ⟨_, rfl⟩
  have X9 : Hid (w5.heap[w.heap.size]? = some (.cells #[.int .i64 p.no, .int .u64 (p.v : Int), .int .u64 (p.g 0 : Int), .int .u64 (p.g 1 : Int), .int .u64 (p.g 2 : Int), .int .u64 (p.g 3 : Int), .int .u64 (p.g 4 : Int), .int .u64 (p.g 5 : Int)] 25 (0, 0))) := by rw [hw5]; exact X8
  have Z9 : Hid (w5.heap[w3.heap.size]? = some (.cells #[.int .i64 p.no, .int .u64 (p.v : Int), .int .u64 (p.g 0 : Int), .int .u64 (p.g 1 : Int), .int .u64 (p.g 2 : Int), .int .u64 (p.g 3 : Int), .int .u64 (p.g 4 : Int), .int .u64 (p.g 5 : Int)] 25 (0, 0))) := by rw [hw5]; exact Z8
  have SC9 : Hid (Oct w5 A4 64 cs) := by rw [hw5]; exact SC
  have SX9 : Hid (Oct w5 A2 64 xs) := by rw [hw5]; exact SX
  have B9 : Hid (Below w.heap.size w w5) := by rw [hw5]; exact B4
  rw [← hw5] at cv1 cv2
  rw [← hw5]
  clear hw5
  obtain ⟨x0, x1, x2, x3, x4, x5, x6, x7⟩ := gp_cells X9.out
  go_wp2_with fail
  refine (newer_any _ _ 64 _ 64 _ xs cs _ p ⟨p.no, V, p.g⟩ 0 0 p 0 true _ (by omega) l2 (by omega) l4 SX9.out SC9.out (HE.out.below B9.out) W1.out WC.out (.inr (.inl ⟨rfl, rfl, HP.out.2.1, Nat.le_of_eq HV.out, rfl, rfl, rfl⟩))).mono ?_; rintro e w6 ⟨rfl, b6⟩
  have Z10 := Lib.hid (kept_below Z9.out b6)
  have B10 : Hid (Below w.heap.size w w6) := bthen B9.out b6
  clear b6 x0 x1 x2 x3 x4 x5 x6 x7
  rw [show (.agg #[.int .i64 (Gp.no p), .int .u64 ((Gp.v p : Nat) : Int), .int .u64 ((Gp.g p 0 : Nat) : Int), .int .u64 ((Gp.g p 1 : Nat) : Int), .int .u64 ((Gp.g p 2 : Nat) : Int), .int .u64 ((Gp.g p 3 : Nat) : Int), .int .u64 ((Gp.g p 4 : Nat) : Int), .int .u64 ((Gp.g p 5 : Nat) : Int)] : Value) = .agg #[.int .i64 p.no, .int .u64 (p.v : Int), .int .u64 (p.g 0 : Int), .int .u64 (p.g 1 : Int), .int .u64 (p.g 2 : Int), .int .u64 (p.g 3 : Int), .int .u64 (p.g 4 : Int), .int .u64 (p.g 5 : Int)] from rfl]
  have Z11 := kept_below Z10.out (balloc w6 (.cells #[.int .i64 p.no, .int .u64 (p.v : Int), .int .u64 (p.g 0 : Int), .int .u64 (p.g 1 : Int), .int .u64 (p.g 2 : Int), .int .u64 (p.g 3 : Int), .int .u64 (p.g 4 : Int), .int .u64 (p.g 5 : Int)] 25))
  have B11 : Hid (Below w.heap.size w (w6.alloc (.cells #[.int .i64 p.no, .int .u64 (p.v : Int), .int .u64 (p.g 0 : Int), .int .u64 (p.g 1 : Int), .int .u64 (p.g 2 : Int), .int .u64 (p.g 3 : Int), .int .u64 (p.g 4 : Int), .int .u64 (p.g 5 : Int)] 25))) := bthen B10.out (balloc _ _)
  obtain ⟨z0, z1, z2, z3, z4, z5, z6, z7⟩ := gp_cells (p := p) Z11
  go_wp2_with fail
  refine (awake_any _ (HE.out.below B11.out)).mono ?_; rintro e w7 ⟨rfl, b7⟩
  have B12 : Hid (Below w.heap.size w w7) := bthen B11.out b7
  clear b7
  go_wp2
  go_ret
  exact ⟨rfl, B12.out⟩

set_option maxRecDepth 100000 in
set_option maxHeartbeats 8000000 in
theorem rots_eat (p : Gp) (M V at_ T : Nat) (w : World) (he : Env w) (h : MayBe p) (hM : M < 256) (ha : at_ < 65536) (hT : T < 4294967296) (hV : V = min (p.v + M) 4611686018427387904) (hv : V = p.v) (ss cs : List UInt8) (hss : sect p = ss) (hcs : turned ss (at_ : Int) T 32 = cs) (hd : ¬ ss = cs) :
    Calls Tryd.prog 5 #[(.agg #[.int .i64 p.no, .int .u64 (p.v : Int), .int .u64 (p.g 0 : Int), .int .u64 (p.g 1 : Int), .int .u64 (p.g 2 : Int), .int .u64 (p.g 3 : Int), .int .u64 (p.g 4 : Int), .int .u64 (p.g 5 : Int)]), .int .u8 (M : Int), .bool false, .int .u16 (at_ : Int), .int .u32 (T : Int)] w fun e w' => e = .returned (.bool true) ∧ Below w.heap.size w w' := by
  have HE := Lib.hid he
  have HP := Lib.hid h
  have hpv := h.2.1
  have hq : MayBe (⟨p.no, V, p.g⟩ : Gp) := ⟨h.1, by have := hpv.1; have := hpv.2; show isG V; exact ⟨by omega, by omega⟩, h.2.2⟩
  have HQ := Lib.hid hq
  have hvm : (if (4611686018427387904 : Int) < (p.v : Int) + (M : Int) then (4611686018427387904 : Int) else (p.v : Int) + (M : Int)) = (V : Int) := by
    split <;> omega
  have hp1 := hpv.1
  have hp2 := hpv.2
  have hVb : V ≤ 4611686018427387904 := by omega
  have hve : ((V : Int) == (p.v : Int)) = true := by simp; omega
  have hbe : ((bstr cs).toList == (bstr ss).toList) = false := bstr_eq cs ss false (by simp; exact fun e => hd e.symm)
  have hw1 : GWay (sect p) p.no p 0 := way_own h
  have hw2 : GWay (sect ⟨p.no, V, p.g⟩) p.no ⟨p.no, V, p.g⟩ 0 := way_own hq
  have hwc : GWay cs p.no zp 40 := by
    rw [← hcs, ← hss]; exact way_rot _ at_ T (by rw [hss, hcs]; exact hd) _
  obtain ⟨xs, hxs⟩ : ∃ xs, sect ⟨p.no, V, p.g⟩ = xs := ⟨_, rfl⟩
  have hsl : ss.length = 64 := by rw [← hss]; exact sect_length _
  have hxl : xs.length = 64 := by rw [← hxs]; exact sect_length _
  have hcl : cs.length = 64 := by rw [← hcs, turned_length, hsl]
  rw [hss] at hw1
  rw [hxs] at hw2
  have HS := Lib.hid hss
  have HX := Lib.hid hxs
  have HSL := Lib.hid hsl
  have HXL := Lib.hid hxl
  have HCL := Lib.hid hcl
  have HC := Lib.hid hcs
  have W1 := Lib.hid hw1
  have W2 := Lib.hid hw2
  have WC := Lib.hid hwc
  have HT := Lib.hid hT
  have HV := Lib.hid hv
  clear he h hq hpv hss hxs hsl hxl hcl hcs hw1 hw2 hwc hT hd hV hv
  go_enter Tryd.func5, Tryd.ntmps5
  go_wp2_with fail
  refine (rmay_any p true _ ⟨fun _ => HP.out, fun _ => rfl⟩).mono ?_; rintro e w1 ⟨rfl, b1⟩
  have X1 := Lib.hid (kept_below (heap_alloc_new w (.cells #[.int .i64 p.no, .int .u64 (p.v : Int), .int .u64 (p.g 0 : Int), .int .u64 (p.g 1 : Int), .int .u64 (p.g 2 : Int), .int .u64 (p.g 3 : Int), .int .u64 (p.g 4 : Int), .int .u64 (p.g 5 : Int)] 25)) b1)
  have B1 : Hid (Below w.heap.size w w1) := bthen (balloc _ _) b1
  clear b1
  have X2 := Lib.hid (kept_below X1.out (balloc w1 (.cells #[.int .i64 p.no, .int .u64 (p.v : Int), .int .u64 (p.g 0 : Int), .int .u64 (p.g 1 : Int), .int .u64 (p.g 2 : Int), .int .u64 (p.g 3 : Int), .int .u64 (p.g 4 : Int), .int .u64 (p.g 5 : Int)] 25)))
  obtain ⟨x0, x1, x2, x3, x4, x5, x6, x7⟩ := gp_cells X2.out
  go_wp2_with (first
    | ((with_reducible apply L_loadGp); exact rfl; exact X1.out; exact rfl)
    | ((with_reducible apply L_loadGp); exact rfl; exact (kept_below X1.out (balloc w1 _)); exact rfl))
  clear x0 x1 x2 x3 x4 x5 x6 x7
  have X3 := Lib.hid (kept_below X1.out (balloc w1 (.cells #[.int .i64 p.no, .int .u64 (V : Int), .int .u64 (p.g 0 : Int), .int .u64 (p.g 1 : Int), .int .u64 (p.g 2 : Int), .int .u64 (p.g 3 : Int), .int .u64 (p.g 4 : Int), .int .u64 (p.g 5 : Int)] 25)))
  have Y3 := Lib.hid (heap_alloc_new w1 (.cells #[.int .i64 p.no, .int .u64 (V : Int), .int .u64 (p.g 0 : Int), .int .u64 (p.g 1 : Int), .int .u64 (p.g 2 : Int), .int .u64 (p.g 3 : Int), .int .u64 (p.g 4 : Int), .int .u64 (p.g 5 : Int)] 25))
  have Ba : Hid (Below w.heap.size w (w1.alloc (.cells #[.int .i64 p.no, .int .u64 (V : Int), .int .u64 (p.g 0 : Int), .int .u64 (p.g 1 : Int), .int .u64 (p.g 2 : Int), .int .u64 (p.g 3 : Int), .int .u64 (p.g 4 : Int), .int .u64 (p.g 5 : Int)] 25))) := bthen B1.out (balloc _ _)
  refine (rgput_ok p _ HP.out).mono ?_; rintro e w2 ⟨v2, rfl, o2, b2⟩
  obtain ⟨A2, c2, rfl, l2, s2⟩ := o2.form (sect_length p)
  have X4 := Lib.hid (kept_below X3.out b2)
  have Y4 := Lib.hid (kept_below Y3.out b2)
  have S2 := Lib.hid s2
  have B2 : Hid (Below w.heap.size w w2) := bthen Ba.out b2
  clear b2 s2 o2 X2 X3 Y3
  go_wp2_with ((with_reducible apply L_loadGp); exact rfl; exact Y4.out; exact rfl)
  refine (rgput_ok ⟨p.no, V, p.g⟩ _ HQ.out).mono ?_; rintro e w3 ⟨v3, rfl, o3, b3⟩
  obtain ⟨A3, c3, rfl, l3, s3⟩ := o3.form (sect_length _)
  have X5 := Lib.hid (kept_below X4.out b3)
  have Y5 := Lib.hid (kept_below Y4.out b3)
  have S3 := Lib.hid s3
  have T3 := Lib.hid (S2.out.below b3)
  have B3 : Hid (Below w.heap.size w w3) := bthen B2.out b3
  clear b3 s3 o3
  have X6 := Lib.hid (kept_below X5.out (balloc w3 (.cells #[.int .i64 p.no, .int .u64 (V : Int), .int .u64 (p.g 0 : Int), .int .u64 (p.g 1 : Int), .int .u64 (p.g 2 : Int), .int .u64 (p.g 3 : Int), .int .u64 (p.g 4 : Int), .int .u64 (p.g 5 : Int)] 25)))
  have Y6 := Lib.hid (kept_below Y5.out (balloc w3 (.cells #[.int .i64 p.no, .int .u64 (V : Int), .int .u64 (p.g 0 : Int), .int .u64 (p.g 1 : Int), .int .u64 (p.g 2 : Int), .int .u64 (p.g 3 : Int), .int .u64 (p.g 4 : Int), .int .u64 (p.g 5 : Int)] 25)))
  obtain ⟨x0, x1, x2, x3, x4, x5, x6, x7⟩ := gp_cells X6.out
  obtain ⟨y0, y1, y2, y3, y4, y5, y6, y7⟩ := gp_cells (p := ⟨p.no, V, p.g⟩) Y6.out
  go_wp2_with (first
    | ((with_reducible apply L_loadGp); exact rfl; exact X6.out; exact rfl)
    | ((with_reducible apply L_loadGp); exact rfl; exact Y6.out; exact rfl)
    | ((with_reducible apply L_loadGp); exact rfl; exact Y5.out; exact rfl))
  have Bb : Hid (Below w.heap.size w (w3.alloc (.cells #[.int .i64 p.no, .int .u64 (p.v : Int), .int .u64 (p.g 0 : Int), .int .u64 (p.g 1 : Int), .int .u64 (p.g 2 : Int), .int .u64 (p.g 3 : Int), .int .u64 (p.g 4 : Int), .int .u64 (p.g 5 : Int)] 25))) := bthen B3.out (balloc _ _)
  have X7 := Lib.hid (kept_below X5.out (balloc w3 (.cells #[.int .i64 p.no, .int .u64 (p.v : Int), .int .u64 (p.g 0 : Int), .int .u64 (p.g 1 : Int), .int .u64 (p.g 2 : Int), .int .u64 (p.g 3 : Int), .int .u64 (p.g 4 : Int), .int .u64 (p.g 5 : Int)] 25)))
  have Y7 := Lib.hid (kept_below Y5.out (balloc w3 (.cells #[.int .i64 p.no, .int .u64 (p.v : Int), .int .u64 (p.g 0 : Int), .int .u64 (p.g 1 : Int), .int .u64 (p.g 2 : Int), .int .u64 (p.g 3 : Int), .int .u64 (p.g 4 : Int), .int .u64 (p.g 5 : Int)] 25)))
  have Z7 := Lib.hid (heap_alloc_new w3 (.cells #[.int .i64 p.no, .int .u64 (p.v : Int), .int .u64 (p.g 0 : Int), .int .u64 (p.g 1 : Int), .int .u64 (p.g 2 : Int), .int .u64 (p.g 3 : Int), .int .u64 (p.g 4 : Int), .int .u64 (p.g 5 : Int)] 25))
  refine (rturn_any _ 64 _ ss _ T _ (by omega) (by rw [← HS.out]; exact (T3.out.alloc _)) HT.out).mono ?_; rintro e w4 ⟨v4, rfl, o4, b4⟩
  rw [HC.out] at o4
  obtain ⟨A4, c4, rfl, l4, s4⟩ := o4.form HCL.out
  have X8 := Lib.hid (kept_below X7.out b4)
  have Y8 := Lib.hid (kept_below Y7.out b4)
  have Z8 := Lib.hid (kept_below Z7.out b4)
  have SC := Lib.hid s4
  have SO : Hid (Oct w4 A2 64 ss) := by show Oct _ _ _ _; rw [← HS.out]; exact (T3.out.alloc _).below b4
  have SX : Hid (Oct w4 A3 64 xs) := by show Oct _ _ _ _; rw [← HX.out]; exact (S3.out.alloc _).below b4
  have B4 : Hid (Below w.heap.size w w4) := bthen Bb.out b4
  clear b4 s4 o4 x0 x1 x2 x3 x4 x5 x6 x7 y0 y1 y2 y3 y4 y5 y6 y7 X6 Y6 X7 Y7 Z7
  have cv1 := SC.out.conv bt Tryd.underlying9 c4
  have cv2 := SO.out.conv bt Tryd.underlying9 c2
  have hws : w.heap.size < w3.heap.size := by have := (Array.getElem?_eq_some_iff.1 X5.out).1; omega
  have hws1 : w1.heap.size < w3.heap.size := by have := (Array.getElem?_eq_some_iff.1 Y5.out).1; omega
  have n0 := gp_cells X8.out
  obtain ⟨x0, x1, x2, x3, x4, x5, x6, x7⟩ := n0
  go_upto_region 19 with (first
    | ((with_reducible apply L_loadGp); exact rfl; exact Y8.out; exact rfl)
    | ((with_reducible apply L_storeRow (N := 8) info_gp); exact rfl; exact rfl; exact Z8.out; exact rfl; exact rfl; (simp [Value.oneCell']); intro w5 h5 g5; have Z9 := Lib.hid h5; have G5 := Lib.hid g5; clear h5 g5))
  have X9 := Lib.hid (kept_by X8.out G5.out (by omega))
  have SC9 := Lib.hid (oct_gc5 SC.out Z8.out G5.out)
  have SX9 := Lib.hid (oct_gc5 SX.out Z8.out G5.out)
  have B9 : Hid (Below w.heap.size w w5) := below_up B4.out G5.out (by omega)
  clear x0 x1 x2 x3 x4 x5 x6 x7
  obtain ⟨x0, x1, x2, x3, x4, x5, x6, x7⟩ := gp_cells X9.out
  go_wp2_with fail
  refine (newer_any _ _ 64 _ 64 _ cs xs _ zp ⟨p.no, V, p.g⟩ 40 0 ⟨p.no, V, p.g⟩ 1 true _ (by omega) l4 (by omega) l3 SC9.out SX9.out (HE.out.below B9.out) WC.out W2.out (.inr (.inr (.inr (.inl ⟨by decide, rfl, rfl, HQ.out.2.1, rfl, rfl, rfl⟩))))).mono ?_; rintro e w6 ⟨rfl, b6⟩
  have Z10 := Lib.hid (kept_below Z9.out b6)
  have B10 : Hid (Below w.heap.size w w6) := bthen B9.out b6
  clear b6 x0 x1 x2 x3 x4 x5 x6 x7
  rw [show (.agg #[.int .i64 (Gp.no ⟨p.no, V, p.g⟩), .int .u64 ((Gp.v ⟨p.no, V, p.g⟩ : Nat) : Int), .int .u64 ((Gp.g ⟨p.no, V, p.g⟩ 0 : Nat) : Int), .int .u64 ((Gp.g ⟨p.no, V, p.g⟩ 1 : Nat) : Int), .int .u64 ((Gp.g ⟨p.no, V, p.g⟩ 2 : Nat) : Int), .int .u64 ((Gp.g ⟨p.no, V, p.g⟩ 3 : Nat) : Int), .int .u64 ((Gp.g ⟨p.no, V, p.g⟩ 4 : Nat) : Int), .int .u64 ((Gp.g ⟨p.no, V, p.g⟩ 5 : Nat) : Int)] : Value) = .agg #[.int .i64 p.no, .int .u64 (V : Int), .int .u64 (p.g 0 : Int), .int .u64 (p.g 1 : Int), .int .u64 (p.g 2 : Int), .int .u64 (p.g 3 : Int), .int .u64 (p.g 4 : Int), .int .u64 (p.g 5 : Int)] from rfl]
  have Z11 := kept_below Z10.out (balloc w6 (.cells #[.int .i64 p.no, .int .u64 (V : Int), .int .u64 (p.g 0 : Int), .int .u64 (p.g 1 : Int), .int .u64 (p.g 2 : Int), .int .u64 (p.g 3 : Int), .int .u64 (p.g 4 : Int), .int .u64 (p.g 5 : Int)] 25))
  have B11 : Hid (Below w.heap.size w (w6.alloc (.cells #[.int .i64 p.no, .int .u64 (V : Int), .int .u64 (p.g 0 : Int), .int .u64 (p.g 1 : Int), .int .u64 (p.g 2 : Int), .int .u64 (p.g 3 : Int), .int .u64 (p.g 4 : Int), .int .u64 (p.g 5 : Int)] 25))) := bthen B10.out (balloc _ _)
  obtain ⟨z0, z1, z2, z3, z4, z5, z6, z7⟩ := gp_cells (p := ⟨p.no, V, p.g⟩) Z11
  go_wp2_with fail
  refine (awake_any _ (HE.out.below B11.out)).mono ?_; rintro e w7 ⟨rfl, b7⟩
  have B12 : Hid (Below w.heap.size w w7) := bthen B11.out b7
  clear b7
  go_wp2
  go_ret
  exact ⟨rfl, B12.out⟩

set_option maxRecDepth 100000 in
set_option maxHeartbeats 8000000 in
theorem rots_eak (p : Gp) (M V at_ T : Nat) (w : World) (he : Env w) (h : MayBe p) (hM : M < 256) (ha : at_ < 65536) (hT : T < 4294967296) (hV : V = min (p.v + M) 4611686018427387904) (hv : V = p.v) (ss cs : List UInt8) (hss : sect p = ss) (hcs : turned ss (at_ : Int) T 32 = cs) (hd : ss = cs) :
    Calls Tryd.prog 5 #[(.agg #[.int .i64 p.no, .int .u64 (p.v : Int), .int .u64 (p.g 0 : Int), .int .u64 (p.g 1 : Int), .int .u64 (p.g 2 : Int), .int .u64 (p.g 3 : Int), .int .u64 (p.g 4 : Int), .int .u64 (p.g 5 : Int)]), .int .u8 (M : Int), .bool false, .int .u16 (at_ : Int), .int .u32 (T : Int)] w fun e w' => e = .returned (.bool true) ∧ Below w.heap.size w w' := by
  have HE := Lib.hid he
  have HP := Lib.hid h
  have hpv := h.2.1
  have hq : MayBe (⟨p.no, V, p.g⟩ : Gp) := ⟨h.1, by have := hpv.1; have := hpv.2; show isG V; exact ⟨by omega, by omega⟩, h.2.2⟩
  have HQ := Lib.hid hq
  have hvm : (if (4611686018427387904 : Int) < (p.v : Int) + (M : Int) then (4611686018427387904 : Int) else (p.v : Int) + (M : Int)) = (V : Int) := by
    split <;> omega
  have hp1 := hpv.1
  have hp2 := hpv.2
  have hVb : V ≤ 4611686018427387904 := by omega
  have hve : ((V : Int) == (p.v : Int)) = true := by simp; omega
  have hbe : ((bstr cs).toList == (bstr ss).toList) = true := bstr_eq cs ss true (by rw [hd]; simp)
  have hw1 : GWay (sect p) p.no p 0 := way_own h
  have hw2 : GWay (sect ⟨p.no, V, p.g⟩) p.no ⟨p.no, V, p.g⟩ 0 := way_own hq
  have hwc : GWay cs p.no p 0 := by
    rw [← hd, ← hss]; exact hw1
  obtain ⟨xs, hxs⟩ : ∃ xs, sect ⟨p.no, V, p.g⟩ = xs := ⟨_, rfl⟩
  have hsl : ss.length = 64 := by rw [← hss]; exact sect_length _
  have hxl : xs.length = 64 := by rw [← hxs]; exact sect_length _
  have hcl : cs.length = 64 := by rw [← hcs, turned_length, hsl]
  rw [hss] at hw1
  rw [hxs] at hw2
  have HS := Lib.hid hss
  have HX := Lib.hid hxs
  have HSL := Lib.hid hsl
  have HXL := Lib.hid hxl
  have HCL := Lib.hid hcl
  have HC := Lib.hid hcs
  have W1 := Lib.hid hw1
  have W2 := Lib.hid hw2
  have WC := Lib.hid hwc
  have HT := Lib.hid hT
  have HV := Lib.hid hv
  clear he h hq hpv hss hxs hsl hxl hcl hcs hw1 hw2 hwc hT hd hV hv
  go_enter Tryd.func5, Tryd.ntmps5
  go_wp2_with fail
  refine (rmay_any p true _ ⟨fun _ => HP.out, fun _ => rfl⟩).mono ?_; rintro e w1 ⟨rfl, b1⟩
  have X1 := Lib.hid (kept_below (heap_alloc_new w (.cells #[.int .i64 p.no, .int .u64 (p.v : Int), .int .u64 (p.g 0 : Int), .int .u64 (p.g 1 : Int), .int .u64 (p.g 2 : Int), .int .u64 (p.g 3 : Int), .int .u64 (p.g 4 : Int), .int .u64 (p.g 5 : Int)] 25)) b1)
  have B1 : Hid (Below w.heap.size w w1) := bthen (balloc _ _) b1
  clear b1
  have X2 := Lib.hid (kept_below X1.out (balloc w1 (.cells #[.int .i64 p.no, .int .u64 (p.v : Int), .int .u64 (p.g 0 : Int), .int .u64 (p.g 1 : Int), .int .u64 (p.g 2 : Int), .int .u64 (p.g 3 : Int), .int .u64 (p.g 4 : Int), .int .u64 (p.g 5 : Int)] 25)))
  obtain ⟨x0, x1, x2, x3, x4, x5, x6, x7⟩ := gp_cells X2.out
  go_wp2_with (first
    | ((with_reducible apply L_loadGp); exact rfl; exact X1.out; exact rfl)
    | ((with_reducible apply L_loadGp); exact rfl; exact (kept_below X1.out (balloc w1 _)); exact rfl))
  clear x0 x1 x2 x3 x4 x5 x6 x7
  have X3 := Lib.hid (kept_below X1.out (balloc w1 (.cells #[.int .i64 p.no, .int .u64 (V : Int), .int .u64 (p.g 0 : Int), .int .u64 (p.g 1 : Int), .int .u64 (p.g 2 : Int), .int .u64 (p.g 3 : Int), .int .u64 (p.g 4 : Int), .int .u64 (p.g 5 : Int)] 25)))
  have Y3 := Lib.hid (heap_alloc_new w1 (.cells #[.int .i64 p.no, .int .u64 (V : Int), .int .u64 (p.g 0 : Int), .int .u64 (p.g 1 : Int), .int .u64 (p.g 2 : Int), .int .u64 (p.g 3 : Int), .int .u64 (p.g 4 : Int), .int .u64 (p.g 5 : Int)] 25))
  have Ba : Hid (Below w.heap.size w (w1.alloc (.cells #[.int .i64 p.no, .int .u64 (V : Int), .int .u64 (p.g 0 : Int), .int .u64 (p.g 1 : Int), .int .u64 (p.g 2 : Int), .int .u64 (p.g 3 : Int), .int .u64 (p.g 4 : Int), .int .u64 (p.g 5 : Int)] 25))) := bthen B1.out (balloc _ _)
  refine (rgput_ok p _ HP.out).mono ?_; rintro e w2 ⟨v2, rfl, o2, b2⟩
  obtain ⟨A2, c2, rfl, l2, s2⟩ := o2.form (sect_length p)
  have X4 := Lib.hid (kept_below X3.out b2)
  have Y4 := Lib.hid (kept_below Y3.out b2)
  have S2 := Lib.hid s2
  have B2 : Hid (Below w.heap.size w w2) := bthen Ba.out b2
  clear b2 s2 o2 X2 X3 Y3
  go_wp2_with ((with_reducible apply L_loadGp); exact rfl; exact Y4.out; exact rfl)
  refine (rgput_ok ⟨p.no, V, p.g⟩ _ HQ.out).mono ?_; rintro e w3 ⟨v3, rfl, o3, b3⟩
  obtain ⟨A3, c3, rfl, l3, s3⟩ := o3.form (sect_length _)
  have X5 := Lib.hid (kept_below X4.out b3)
  have Y5 := Lib.hid (kept_below Y4.out b3)
  have S3 := Lib.hid s3
  have T3 := Lib.hid (S2.out.below b3)
  have B3 : Hid (Below w.heap.size w w3) := bthen B2.out b3
  clear b3 s3 o3
  have X6 := Lib.hid (kept_below X5.out (balloc w3 (.cells #[.int .i64 p.no, .int .u64 (V : Int), .int .u64 (p.g 0 : Int), .int .u64 (p.g 1 : Int), .int .u64 (p.g 2 : Int), .int .u64 (p.g 3 : Int), .int .u64 (p.g 4 : Int), .int .u64 (p.g 5 : Int)] 25)))
  have Y6 := Lib.hid (kept_below Y5.out (balloc w3 (.cells #[.int .i64 p.no, .int .u64 (V : Int), .int .u64 (p.g 0 : Int), .int .u64 (p.g 1 : Int), .int .u64 (p.g 2 : Int), .int .u64 (p.g 3 : Int), .int .u64 (p.g 4 : Int), .int .u64 (p.g 5 : Int)] 25)))
  obtain ⟨x0, x1, x2, x3, x4, x5, x6, x7⟩ := gp_cells X6.out
  obtain ⟨y0, y1, y2, y3, y4, y5, y6, y7⟩ := gp_cells (p := ⟨p.no, V, p.g⟩) Y6.out
  go_wp2_with (first
    | ((with_reducible apply L_loadGp); exact rfl; exact X6.out; exact rfl)
    | ((with_reducible apply L_loadGp); exact rfl; exact Y6.out; exact rfl)
    | ((with_reducible apply L_loadGp); exact rfl; exact Y5.out; exact rfl))
  have Bb : Hid (Below w.heap.size w (w3.alloc (.cells #[.int .i64 p.no, .int .u64 (p.v : Int), .int .u64 (p.g 0 : Int), .int .u64 (p.g 1 : Int), .int .u64 (p.g 2 : Int), .int .u64 (p.g 3 : Int), .int .u64 (p.g 4 : Int), .int .u64 (p.g 5 : Int)] 25))) := bthen B3.out (balloc _ _)
  have X7 := Lib.hid (kept_below X5.out (balloc w3 (.cells #[.int .i64 p.no, .int .u64 (p.v : Int), .int .u64 (p.g 0 : Int), .int .u64 (p.g 1 : Int), .int .u64 (p.g 2 : Int), .int .u64 (p.g 3 : Int), .int .u64 (p.g 4 : Int), .int .u64 (p.g 5 : Int)] 25)))
  have Y7 := Lib.hid (kept_below Y5.out (balloc w3 (.cells #[.int .i64 p.no, .int .u64 (p.v : Int), .int .u64 (p.g 0 : Int), .int .u64 (p.g 1 : Int), .int .u64 (p.g 2 : Int), .int .u64 (p.g 3 : Int), .int .u64 (p.g 4 : Int), .int .u64 (p.g 5 : Int)] 25)))
  have Z7 := Lib.hid (heap_alloc_new w3 (.cells #[.int .i64 p.no, .int .u64 (p.v : Int), .int .u64 (p.g 0 : Int), .int .u64 (p.g 1 : Int), .int .u64 (p.g 2 : Int), .int .u64 (p.g 3 : Int), .int .u64 (p.g 4 : Int), .int .u64 (p.g 5 : Int)] 25))
  refine (rturn_any _ 64 _ ss _ T _ (by omega) (by rw [← HS.out]; exact (T3.out.alloc _)) HT.out).mono ?_; rintro e w4 ⟨v4, rfl, o4, b4⟩
  rw [HC.out] at o4
  obtain ⟨A4, c4, rfl, l4, s4⟩ := o4.form HCL.out
  have X8 := Lib.hid (kept_below X7.out b4)
  have Y8 := Lib.hid (kept_below Y7.out b4)
  have Z8 := Lib.hid (kept_below Z7.out b4)
  have SC := Lib.hid s4
  have SO : Hid (Oct w4 A2 64 ss) := by show Oct _ _ _ _; rw [← HS.out]; exact (T3.out.alloc _).below b4
  have SX : Hid (Oct w4 A3 64 xs) := by show Oct _ _ _ _; rw [← HX.out]; exact (S3.out.alloc _).below b4
  have B4 : Hid (Below w.heap.size w w4) := bthen Bb.out b4
  clear b4 s4 o4 x0 x1 x2 x3 x4 x5 x6 x7 y0 y1 y2 y3 y4 y5 y6 y7 X6 Y6 X7 Y7 Z7
  have cv1 := SC.out.conv bt Tryd.underlying9 c4
  have cv2 := SO.out.conv bt Tryd.underlying9 c2
  have hws : w.heap.size < w3.heap.size := by have := (Array.getElem?_eq_some_iff.1 X5.out).1; omega
  have hws1 : w1.heap.size < w3.heap.size := by have := (Array.getElem?_eq_some_iff.1 Y5.out).1; omega
  obtain ⟨w5, hw5⟩ : ∃ w5, w5 = w4 := ⟨_, rfl⟩
  have X9 : Hid (w5.heap[w.heap.size]? = some (.cells #[.int .i64 p.no, .int .u64 (p.v : Int), .int .u64 (p.g 0 : Int), .int .u64 (p.g 1 : Int), .int .u64 (p.g 2 : Int), .int .u64 (p.g 3 : Int), .int .u64 (p.g 4 : Int), .int .u64 (p.g 5 : Int)] 25 (0, 0))) := by rw [hw5]; exact X8
  have Z9 : Hid (w5.heap[w3.heap.size]? = some (.cells #[.int .i64 p.no, .int .u64 (p.v : Int), .int .u64 (p.g 0 : Int), .int .u64 (p.g 1 : Int), .int .u64 (p.g 2 : Int), .int .u64 (p.g 3 : Int), .int .u64 (p.g 4 : Int), .int .u64 (p.g 5 : Int)] 25 (0, 0))) := by rw [hw5]; exact Z8
  have SC9 : Hid (Oct w5 A4 64 cs) := by rw [hw5]; exact SC
  have SX9 : Hid (Oct w5 A3 64 xs) := by rw [hw5]; exact SX
  have B9 : Hid (Below w.heap.size w w5) := by rw [hw5]; exact B4
  rw [← hw5] at cv1 cv2
  rw [← hw5]
  clear hw5
  obtain ⟨x0, x1, x2, x3, x4, x5, x6, x7⟩ := gp_cells X9.out
  go_wp2_with fail
  refine (newer_any _ _ 64 _ 64 _ cs xs _ p ⟨p.no, V, p.g⟩ 0 0 p 0 true _ (by omega) l4 (by omega) l3 SC9.out SX9.out (HE.out.below B9.out) WC.out W2.out (.inr (.inl ⟨rfl, rfl, HP.out.2.1, Nat.le_of_eq HV.out, rfl, rfl, rfl⟩))).mono ?_; rintro e w6 ⟨rfl, b6⟩
  have Z10 := Lib.hid (kept_below Z9.out b6)
  have B10 : Hid (Below w.heap.size w w6) := bthen B9.out b6
  clear b6 x0 x1 x2 x3 x4 x5 x6 x7
  rw [show (.agg #[.int .i64 (Gp.no p), .int .u64 ((Gp.v p : Nat) : Int), .int .u64 ((Gp.g p 0 : Nat) : Int), .int .u64 ((Gp.g p 1 : Nat) : Int), .int .u64 ((Gp.g p 2 : Nat) : Int), .int .u64 ((Gp.g p 3 : Nat) : Int), .int .u64 ((Gp.g p 4 : Nat) : Int), .int .u64 ((Gp.g p 5 : Nat) : Int)] : Value) = .agg #[.int .i64 p.no, .int .u64 (p.v : Int), .int .u64 (p.g 0 : Int), .int .u64 (p.g 1 : Int), .int .u64 (p.g 2 : Int), .int .u64 (p.g 3 : Int), .int .u64 (p.g 4 : Int), .int .u64 (p.g 5 : Int)] from rfl]
  have Z11 := kept_below Z10.out (balloc w6 (.cells #[.int .i64 p.no, .int .u64 (p.v : Int), .int .u64 (p.g 0 : Int), .int .u64 (p.g 1 : Int), .int .u64 (p.g 2 : Int), .int .u64 (p.g 3 : Int), .int .u64 (p.g 4 : Int), .int .u64 (p.g 5 : Int)] 25))
  have B11 : Hid (Below w.heap.size w (w6.alloc (.cells #[.int .i64 p.no, .int .u64 (p.v : Int), .int .u64 (p.g 0 : Int), .int .u64 (p.g 1 : Int), .int .u64 (p.g 2 : Int), .int .u64 (p.g 3 : Int), .int .u64 (p.g 4 : Int), .int .u64 (p.g 5 : Int)] 25))) := bthen B10.out (balloc _ _)
  obtain ⟨z0, z1, z2, z3, z4, z5, z6, z7⟩ := gp_cells (p := p) Z11
  go_wp2_with fail
  refine (awake_any _ (HE.out.below B11.out)).mono ?_; rintro e w7 ⟨rfl, b7⟩
  have B12 : Hid (Below w.heap.size w w7) := bthen B11.out b7
  clear b7
  go_wp2
  go_ret
  exact ⟨rfl, B12.out⟩

set_option maxRecDepth 100000 in
set_option maxHeartbeats 8000000 in
theorem rots_lbt (p : Gp) (M V at_ T : Nat) (w : World) (he : Env w) (h : MayBe p) (hM : M < 256) (ha : at_ < 65536) (hT : T < 4294967296) (hV : V = min (p.v + M) 4611686018427387904) (hv : p.v < V) (ss cs : List UInt8) (hss : sect ⟨p.no, V, p.g⟩ = ss) (hcs : turned ss (at_ : Int) T 32 = cs) (hd : ¬ ss = cs) :
    Calls Tryd.prog 5 #[(.agg #[.int .i64 p.no, .int .u64 (p.v : Int), .int .u64 (p.g 0 : Int), .int .u64 (p.g 1 : Int), .int .u64 (p.g 2 : Int), .int .u64 (p.g 3 : Int), .int .u64 (p.g 4 : Int), .int .u64 (p.g 5 : Int)]), .int .u8 (M : Int), .bool true, .int .u16 (at_ : Int), .int .u32 (T : Int)] w fun e w' => e = .returned (.bool true) ∧ Below w.heap.size w w' := by
  have HE := Lib.hid he
  have HP := Lib.hid h
  have hpv := h.2.1
  have hq : MayBe (⟨p.no, V, p.g⟩ : Gp) := ⟨h.1, by have := hpv.1; have := hpv.2; show isG V; exact ⟨by omega, by omega⟩, h.2.2⟩
  have HQ := Lib.hid hq
  have hvm : (if (4611686018427387904 : Int) < (p.v : Int) + (M : Int) then (4611686018427387904 : Int) else (p.v : Int) + (M : Int)) = (V : Int) := by
    split <;> omega
  have hp1 := hpv.1
  have hp2 := hpv.2
  have hVb : V ≤ 4611686018427387904 := by omega
  have hve : ((V : Int) == (p.v : Int)) = false := by simp; omega
  have hbe : ((bstr cs).toList == (bstr ss).toList) = false := bstr_eq cs ss false (by simp; exact fun e => hd e.symm)
  have hw1 : GWay (sect p) p.no p 0 := way_own h
  have hw2 : GWay (sect ⟨p.no, V, p.g⟩) p.no ⟨p.no, V, p.g⟩ 0 := way_own hq
  have hwc : GWay cs p.no zp 40 := by
    rw [← hcs, ← hss]; exact way_rot _ at_ T (by rw [hss, hcs]; exact hd) _
  obtain ⟨xs, hxs⟩ : ∃ xs, sect p = xs := ⟨_, rfl⟩
  have hsl : ss.length = 64 := by rw [← hss]; exact sect_length _
  have hxl : xs.length = 64 := by rw [← hxs]; exact sect_length _
  have hcl : cs.length = 64 := by rw [← hcs, turned_length, hsl]
  rw [hxs] at hw1
  rw [hss] at hw2
  have HS := Lib.hid hss
  have HX := Lib.hid hxs
  have HSL := Lib.hid hsl
  have HXL := Lib.hid hxl
  have HCL := Lib.hid hcl
  have HC := Lib.hid hcs
  have W1 := Lib.hid hw1
  have W2 := Lib.hid hw2
  have WC := Lib.hid hwc
  have HT := Lib.hid hT
  have HV := Lib.hid hv
  clear he h hq hpv hss hxs hsl hxl hcl hcs hw1 hw2 hwc hT hd hV hv
  go_enter Tryd.func5, Tryd.ntmps5
  go_wp2_with fail
  refine (rmay_any p true _ ⟨fun _ => HP.out, fun _ => rfl⟩).mono ?_; rintro e w1 ⟨rfl, b1⟩
  have X1 := Lib.hid (kept_below (heap_alloc_new w (.cells #[.int .i64 p.no, .int .u64 (p.v : Int), .int .u64 (p.g 0 : Int), .int .u64 (p.g 1 : Int), .int .u64 (p.g 2 : Int), .int .u64 (p.g 3 : Int), .int .u64 (p.g 4 : Int), .int .u64 (p.g 5 : Int)] 25)) b1)
  have B1 : Hid (Below w.heap.size w w1) := bthen (balloc _ _) b1
  clear b1
  have X2 := Lib.hid (kept_below X1.out (balloc w1 (.cells #[.int .i64 p.no, .int .u64 (p.v : Int), .int .u64 (p.g 0 : Int), .int .u64 (p.g 1 : Int), .int .u64 (p.g 2 : Int), .int .u64 (p.g 3 : Int), .int .u64 (p.g 4 : Int), .int .u64 (p.g 5 : Int)] 25)))
  obtain ⟨x0, x1, x2, x3, x4, x5, x6, x7⟩ := gp_cells X2.out
  go_wp2_with (first
    | ((with_reducible apply L_loadGp); exact rfl; exact X1.out; exact rfl)
    | ((with_reducible apply L_loadGp); exact rfl; exact (kept_below X1.out (balloc w1 _)); exact rfl))
  clear x0 x1 x2 x3 x4 x5 x6 x7
  have X3 := Lib.hid (kept_below X1.out (balloc w1 (.cells #[.int .i64 p.no, .int .u64 (V : Int), .int .u64 (p.g 0 : Int), .int .u64 (p.g 1 : Int), .int .u64 (p.g 2 : Int), .int .u64 (p.g 3 : Int), .int .u64 (p.g 4 : Int), .int .u64 (p.g 5 : Int)] 25)))
  have Y3 := Lib.hid (heap_alloc_new w1 (.cells #[.int .i64 p.no, .int .u64 (V : Int), .int .u64 (p.g 0 : Int), .int .u64 (p.g 1 : Int), .int .u64 (p.g 2 : Int), .int .u64 (p.g 3 : Int), .int .u64 (p.g 4 : Int), .int .u64 (p.g 5 : Int)] 25))
  have Ba : Hid (Below w.heap.size w (w1.alloc (.cells #[.int .i64 p.no, .int .u64 (V : Int), .int .u64 (p.g 0 : Int), .int .u64 (p.g 1 : Int), .int .u64 (p.g 2 : Int), .int .u64 (p.g 3 : Int), .int .u64 (p.g 4 : Int), .int .u64 (p.g 5 : Int)] 25))) := bthen B1.out (balloc _ _)
  refine (rgput_ok p _ HP.out).mono ?_; rintro e w2 ⟨v2, rfl, o2, b2⟩
  obtain ⟨A2, c2, rfl, l2, s2⟩ := o2.form (sect_length p)
  have X4 := Lib.hid (kept_below X3.out b2)
  have Y4 := Lib.hid (kept_below Y3.out b2)
  have S2 := Lib.hid s2
  have B2 : Hid (Below w.heap.size w w2) := bthen Ba.out b2
  clear b2 s2 o2 X2 X3 Y3
  go_wp2_with ((with_reducible apply L_loadGp); exact rfl; exact Y4.out; exact rfl)
  refine (rgput_ok ⟨p.no, V, p.g⟩ _ HQ.out).mono ?_; rintro e w3 ⟨v3, rfl, o3, b3⟩
  obtain ⟨A3, c3, rfl, l3, s3⟩ := o3.form (sect_length _)
  have X5 := Lib.hid (kept_below X4.out b3)
  have Y5 := Lib.hid (kept_below Y4.out b3)
  have S3 := Lib.hid s3
  have T3 := Lib.hid (S2.out.below b3)
  have B3 : Hid (Below w.heap.size w w3) := bthen B2.out b3
  clear b3 s3 o3
  have X6 := Lib.hid (kept_below X5.out (balloc w3 (.cells #[.int .i64 p.no, .int .u64 (V : Int), .int .u64 (p.g 0 : Int), .int .u64 (p.g 1 : Int), .int .u64 (p.g 2 : Int), .int .u64 (p.g 3 : Int), .int .u64 (p.g 4 : Int), .int .u64 (p.g 5 : Int)] 25)))
  have Y6 := Lib.hid (kept_below Y5.out (balloc w3 (.cells #[.int .i64 p.no, .int .u64 (V : Int), .int .u64 (p.g 0 : Int), .int .u64 (p.g 1 : Int), .int .u64 (p.g 2 : Int), .int .u64 (p.g 3 : Int), .int .u64 (p.g 4 : Int), .int .u64 (p.g 5 : Int)] 25)))
  obtain ⟨x0, x1, x2, x3, x4, x5, x6, x7⟩ := gp_cells X6.out
  obtain ⟨y0, y1, y2, y3, y4, y5, y6, y7⟩ := gp_cells (p := ⟨p.no, V, p.g⟩) Y6.out
  go_wp2_with (first
    | ((with_reducible apply L_loadGp); exact rfl; exact X6.out; exact rfl)
    | ((with_reducible apply L_loadGp); exact rfl; exact Y6.out; exact rfl)
    | ((with_reducible apply L_loadGp); exact rfl; exact Y5.out; exact rfl))
  have Bb : Hid (Below w.heap.size w (w3.alloc (.cells #[.int .i64 p.no, .int .u64 (V : Int), .int .u64 (p.g 0 : Int), .int .u64 (p.g 1 : Int), .int .u64 (p.g 2 : Int), .int .u64 (p.g 3 : Int), .int .u64 (p.g 4 : Int), .int .u64 (p.g 5 : Int)] 25))) := bthen B3.out (balloc _ _)
  have X7 := Lib.hid (kept_below X5.out (balloc w3 (.cells #[.int .i64 p.no, .int .u64 (V : Int), .int .u64 (p.g 0 : Int), .int .u64 (p.g 1 : Int), .int .u64 (p.g 2 : Int), .int .u64 (p.g 3 : Int), .int .u64 (p.g 4 : Int), .int .u64 (p.g 5 : Int)] 25)))
  have Y7 := Lib.hid (kept_below Y5.out (balloc w3 (.cells #[.int .i64 p.no, .int .u64 (V : Int), .int .u64 (p.g 0 : Int), .int .u64 (p.g 1 : Int), .int .u64 (p.g 2 : Int), .int .u64 (p.g 3 : Int), .int .u64 (p.g 4 : Int), .int .u64 (p.g 5 : Int)] 25)))
  have Z7 := Lib.hid (heap_alloc_new w3 (.cells #[.int .i64 p.no, .int .u64 (V : Int), .int .u64 (p.g 0 : Int), .int .u64 (p.g 1 : Int), .int .u64 (p.g 2 : Int), .int .u64 (p.g 3 : Int), .int .u64 (p.g 4 : Int), .int .u64 (p.g 5 : Int)] 25))
  refine (rturn_any _ 64 _ ss _ T _ (by omega) (by rw [← HS.out]; exact (S3.out.alloc _)) HT.out).mono ?_; rintro e w4 ⟨v4, rfl, o4, b4⟩
  rw [HC.out] at o4
  obtain ⟨A4, c4, rfl, l4, s4⟩ := o4.form HCL.out
  have X8 := Lib.hid (kept_below X7.out b4)
  have Y8 := Lib.hid (kept_below Y7.out b4)
  have Z8 := Lib.hid (kept_below Z7.out b4)
  have SC := Lib.hid s4
  have SO : Hid (Oct w4 A3 64 ss) := by show Oct _ _ _ _; rw [← HS.out]; exact (S3.out.alloc _).below b4
  have SX : Hid (Oct w4 A2 64 xs) := by show Oct _ _ _ _; rw [← HX.out]; exact (T3.out.alloc _).below b4
  have B4 : Hid (Below w.heap.size w w4) := bthen Bb.out b4
  clear b4 s4 o4 x0 x1 x2 x3 x4 x5 x6 x7 y0 y1 y2 y3 y4 y5 y6 y7 X6 Y6 X7 Y7 Z7
  have cv1 := SC.out.conv bt Tryd.underlying9 c4
  have cv2 := SO.out.conv bt Tryd.underlying9 c3
  have hws : w.heap.size < w3.heap.size := by have := (Array.getElem?_eq_some_iff.1 X5.out).1; omega
  have hws1 : w1.heap.size < w3.heap.size := by have := (Array.getElem?_eq_some_iff.1 Y5.out).1; omega
  have n0 := gp_cells X8.out
  obtain ⟨x0, x1, x2, x3, x4, x5, x6, x7⟩ := n0
  go_upto_region 19 with (first
    | ((with_reducible apply L_loadGp); exact rfl; exact X8.out; exact rfl)
    | ((with_reducible apply L_storeRow (N := 8) info_gp); exact rfl; exact rfl; exact Z8.out; exact rfl; exact rfl; (simp [Value.oneCell']); intro w5 h5 g5; have Z9 := Lib.hid h5; have G5 := Lib.hid g5; clear h5 g5))
  have X9 := Lib.hid (kept_by X8.out G5.out (by omega))
  have SC9 := Lib.hid (oct_gc5 SC.out Z8.out G5.out)
  have SX9 := Lib.hid (oct_gc5 SX.out Z8.out G5.out)
  have B9 : Hid (Below w.heap.size w w5) := below_up B4.out G5.out (by omega)
  clear x0 x1 x2 x3 x4 x5 x6 x7
  obtain ⟨x0, x1, x2, x3, x4, x5, x6, x7⟩ := gp_cells X9.out
  go_wp2_with fail
  refine (newer_any _ _ 64 _ 64 _ xs cs _ p zp 0 40 p 0 true _ (by omega) l2 (by omega) l4 SX9.out SC9.out (HE.out.below B9.out) W1.out WC.out (.inl ⟨rfl, by decide, rfl, HP.out.2.1, rfl, rfl, rfl⟩)).mono ?_; rintro e w6 ⟨rfl, b6⟩
  have Z10 := Lib.hid (kept_below Z9.out b6)
  have B10 : Hid (Below w.heap.size w w6) := bthen B9.out b6
  clear b6 x0 x1 x2 x3 x4 x5 x6 x7
  rw [show (.agg #[.int .i64 (Gp.no p), .int .u64 ((Gp.v p : Nat) : Int), .int .u64 ((Gp.g p 0 : Nat) : Int), .int .u64 ((Gp.g p 1 : Nat) : Int), .int .u64 ((Gp.g p 2 : Nat) : Int), .int .u64 ((Gp.g p 3 : Nat) : Int), .int .u64 ((Gp.g p 4 : Nat) : Int), .int .u64 ((Gp.g p 5 : Nat) : Int)] : Value) = .agg #[.int .i64 p.no, .int .u64 (p.v : Int), .int .u64 (p.g 0 : Int), .int .u64 (p.g 1 : Int), .int .u64 (p.g 2 : Int), .int .u64 (p.g 3 : Int), .int .u64 (p.g 4 : Int), .int .u64 (p.g 5 : Int)] from rfl]
  have Z11 := kept_below Z10.out (balloc w6 (.cells #[.int .i64 p.no, .int .u64 (p.v : Int), .int .u64 (p.g 0 : Int), .int .u64 (p.g 1 : Int), .int .u64 (p.g 2 : Int), .int .u64 (p.g 3 : Int), .int .u64 (p.g 4 : Int), .int .u64 (p.g 5 : Int)] 25))
  have B11 : Hid (Below w.heap.size w (w6.alloc (.cells #[.int .i64 p.no, .int .u64 (p.v : Int), .int .u64 (p.g 0 : Int), .int .u64 (p.g 1 : Int), .int .u64 (p.g 2 : Int), .int .u64 (p.g 3 : Int), .int .u64 (p.g 4 : Int), .int .u64 (p.g 5 : Int)] 25))) := bthen B10.out (balloc _ _)
  obtain ⟨z0, z1, z2, z3, z4, z5, z6, z7⟩ := gp_cells (p := p) Z11
  go_wp2_with fail
  refine (awake_any _ (HE.out.below B11.out)).mono ?_; rintro e w7 ⟨rfl, b7⟩
  have B12 : Hid (Below w.heap.size w w7) := bthen B11.out b7
  clear b7
  go_wp2
  go_ret
  exact ⟨rfl, B12.out⟩

set_option maxRecDepth 100000 in
set_option maxHeartbeats 8000000 in
theorem rots_lbk (p : Gp) (M V at_ T : Nat) (w : World) (he : Env w) (h : MayBe p) (hM : M < 256) (ha : at_ < 65536) (hT : T < 4294967296) (hV : V = min (p.v + M) 4611686018427387904) (hv : p.v < V) (ss cs : List UInt8) (hss : sect ⟨p.no, V, p.g⟩ = ss) (hcs : turned ss (at_ : Int) T 32 = cs) (hd : ss = cs) :
    Calls Tryd.prog 5 #[(.agg #[.int .i64 p.no, .int .u64 (p.v : Int), .int .u64 (p.g 0 : Int), .int .u64 (p.g 1 : Int), .int .u64 (p.g 2 : Int), .int .u64 (p.g 3 : Int), .int .u64 (p.g 4 : Int), .int .u64 (p.g 5 : Int)]), .int .u8 (M : Int), .bool true, .int .u16 (at_ : Int), .int .u32 (T : Int)] w fun e w' => e = .returned (.bool true) ∧ Below w.heap.size w w' := by
  have HE := Lib.hid he
  have HP := Lib.hid h
  have hpv := h.2.1
  have hq : MayBe (⟨p.no, V, p.g⟩ : Gp) := ⟨h.1, by have := hpv.1; have := hpv.2; show isG V; exact ⟨by omega, by omega⟩, h.2.2⟩
  have HQ := Lib.hid hq
  have hvm : (if (4611686018427387904 : Int) < (p.v : Int) + (M : Int) then (4611686018427387904 : Int) else (p.v : Int) + (M : Int)) = (V : Int) := by
    split <;> omega
  have hp1 := hpv.1
  have hp2 := hpv.2
  have hVb : V ≤ 4611686018427387904 := by omega
  have hve : ((V : Int) == (p.v : Int)) = false := by simp; omega
  have hbe : ((bstr cs).toList == (bstr ss).toList) = true := bstr_eq cs ss true (by rw [hd]; simp)
  have hw1 : GWay (sect p) p.no p 0 := way_own h
  have hw2 : GWay (sect ⟨p.no, V, p.g⟩) p.no ⟨p.no, V, p.g⟩ 0 := way_own hq
  have hwc : GWay cs p.no ⟨p.no, V, p.g⟩ 0 := by
    rw [← hd, ← hss]; exact hw2
  obtain ⟨xs, hxs⟩ : ∃ xs, sect p = xs := ⟨_, rfl⟩
  have hsl : ss.length = 64 := by rw [← hss]; exact sect_length _
  have hxl : xs.length = 64 := by rw [← hxs]; exact sect_length _
  have hcl : cs.length = 64 := by rw [← hcs, turned_length, hsl]
  rw [hxs] at hw1
  rw [hss] at hw2
  have HS := Lib.hid hss
  have HX := Lib.hid hxs
  have HSL := Lib.hid hsl
  have HXL := Lib.hid hxl
  have HCL := Lib.hid hcl
  have HC := Lib.hid hcs
  have W1 := Lib.hid hw1
  have W2 := Lib.hid hw2
  have WC := Lib.hid hwc
  have HT := Lib.hid hT
  have HV := Lib.hid hv
  clear he h hq hpv hss hxs hsl hxl hcl hcs hw1 hw2 hwc hT hd hV hv
  go_enter Tryd.func5, Tryd.ntmps5
  go_wp2_with fail
  refine (rmay_any p true _ ⟨fun _ => HP.out, fun _ => rfl⟩).mono ?_; rintro e w1 ⟨rfl, b1⟩
  have X1 := Lib.hid (kept_below (heap_alloc_new w (.cells #[.int .i64 p.no, .int .u64 (p.v : Int), .int .u64 (p.g 0 : Int), .int .u64 (p.g 1 : Int), .int .u64 (p.g 2 : Int), .int .u64 (p.g 3 : Int), .int .u64 (p.g 4 : Int), .int .u64 (p.g 5 : Int)] 25)) b1)
  have B1 : Hid (Below w.heap.size w w1) := bthen (balloc _ _) b1
  clear b1
  have X2 := Lib.hid (kept_below X1.out (balloc w1 (.cells #[.int .i64 p.no, .int .u64 (p.v : Int), .int .u64 (p.g 0 : Int), .int .u64 (p.g 1 : Int), .int .u64 (p.g 2 : Int), .int .u64 (p.g 3 : Int), .int .u64 (p.g 4 : Int), .int .u64 (p.g 5 : Int)] 25)))
  obtain ⟨x0, x1, x2, x3, x4, x5, x6, x7⟩ := gp_cells X2.out
  go_wp2_with (first
    | ((with_reducible apply L_loadGp); exact rfl; exact X1.out; exact rfl)
    | ((with_reducible apply L_loadGp); exact rfl; exact (kept_below X1.out (balloc w1 _)); exact rfl))
  clear x0 x1 x2 x3 x4 x5 x6 x7
  have X3 := Lib.hid (kept_below X1.out (balloc w1 (.cells #[.int .i64 p.no, .int .u64 (V : Int), .int .u64 (p.g 0 : Int), .int .u64 (p.g 1 : Int), .int .u64 (p.g 2 : Int), .int .u64 (p.g 3 : Int), .int .u64 (p.g 4 : Int), .int .u64 (p.g 5 : Int)] 25)))
  have Y3 := Lib.hid (heap_alloc_new w1 (.cells #[.int .i64 p.no, .int .u64 (V : Int), .int .u64 (p.g 0 : Int), .int .u64 (p.g 1 : Int), .int .u64 (p.g 2 : Int), .int .u64 (p.g 3 : Int), .int .u64 (p.g 4 : Int), .int .u64 (p.g 5 : Int)] 25))
  have Ba : Hid (Below w.heap.size w (w1.alloc (.cells #[.int .i64 p.no, .int .u64 (V : Int), .int .u64 (p.g 0 : Int), .int .u64 (p.g 1 : Int), .int .u64 (p.g 2 : Int), .int .u64 (p.g 3 : Int), .int .u64 (p.g 4 : Int), .int .u64 (p.g 5 : Int)] 25))) := bthen B1.out (balloc _ _)
  refine (rgput_ok p _ HP.out).mono ?_; rintro e w2 ⟨v2, rfl, o2, b2⟩
  obtain ⟨A2, c2, rfl, l2, s2⟩ := o2.form (sect_length p)
  have X4 := Lib.hid (kept_below X3.out b2)
  have Y4 := Lib.hid (kept_below Y3.out b2)
  have S2 := Lib.hid s2
  have B2 : Hid (Below w.heap.size w w2) := bthen Ba.out b2
  clear b2 s2 o2 X2 X3 Y3
  go_wp2_with ((with_reducible apply L_loadGp); exact rfl; exact Y4.out; exact rfl)
  refine (rgput_ok ⟨p.no, V, p.g⟩ _ HQ.out).mono ?_; rintro e w3 ⟨v3, rfl, o3, b3⟩
  obtain ⟨A3, c3, rfl, l3, s3⟩ := o3.form (sect_length _)
  have X5 := Lib.hid (kept_below X4.out b3)
  have Y5 := Lib.hid (kept_below Y4.out b3)
  have S3 := Lib.hid s3
  have T3 := Lib.hid (S2.out.below b3)
  have B3 : Hid (Below w.heap.size w w3) := bthen B2.out b3
  clear b3 s3 o3
  have X6 := Lib.hid (kept_below X5.out (balloc w3 (.cells #[.int .i64 p.no, .int .u64 (V : Int), .int .u64 (p.g 0 : Int), .int .u64 (p.g 1 : Int), .int .u64 (p.g 2 : Int), .int .u64 (p.g 3 : Int), .int .u64 (p.g 4 : Int), .int .u64 (p.g 5 : Int)] 25)))
  have Y6 := Lib.hid (kept_below Y5.out (balloc w3 (.cells #[.int .i64 p.no, .int .u64 (V : Int), .int .u64 (p.g 0 : Int), .int .u64 (p.g 1 : Int), .int .u64 (p.g 2 : Int), .int .u64 (p.g 3 : Int), .int .u64 (p.g 4 : Int), .int .u64 (p.g 5 : Int)] 25)))
  obtain ⟨x0, x1, x2, x3, x4, x5, x6, x7⟩ := gp_cells X6.out
  obtain ⟨y0, y1, y2, y3, y4, y5, y6, y7⟩ := gp_cells (p := ⟨p.no, V, p.g⟩) Y6.out
  go_wp2_with (first
    | ((with_reducible apply L_loadGp); exact rfl; exact X6.out; exact rfl)
    | ((with_reducible apply L_loadGp); exact rfl; exact Y6.out; exact rfl)
    | ((with_reducible apply L_loadGp); exact rfl; exact Y5.out; exact rfl))
  have Bb : Hid (Below w.heap.size w (w3.alloc (.cells #[.int .i64 p.no, .int .u64 (V : Int), .int .u64 (p.g 0 : Int), .int .u64 (p.g 1 : Int), .int .u64 (p.g 2 : Int), .int .u64 (p.g 3 : Int), .int .u64 (p.g 4 : Int), .int .u64 (p.g 5 : Int)] 25))) := bthen B3.out (balloc _ _)
  have X7 := Lib.hid (kept_below X5.out (balloc w3 (.cells #[.int .i64 p.no, .int .u64 (V : Int), .int .u64 (p.g 0 : Int), .int .u64 (p.g 1 : Int), .int .u64 (p.g 2 : Int), .int .u64 (p.g 3 : Int), .int .u64 (p.g 4 : Int), .int .u64 (p.g 5 : Int)] 25)))
  have Y7 := Lib.hid (kept_below Y5.out (balloc w3 (.cells #[.int .i64 p.no, .int .u64 (V : Int), .int .u64 (p.g 0 : Int), .int .u64 (p.g 1 : Int), .int .u64 (p.g 2 : Int), .int .u64 (p.g 3 : Int), .int .u64 (p.g 4 : Int), .int .u64 (p.g 5 : Int)] 25)))
  have Z7 := Lib.hid (heap_alloc_new w3 (.cells #[.int .i64 p.no, .int .u64 (V : Int), .int .u64 (p.g 0 : Int), .int .u64 (p.g 1 : Int), .int .u64 (p.g 2 : Int), .int .u64 (p.g 3 : Int), .int .u64 (p.g 4 : Int), .int .u64 (p.g 5 : Int)] 25))
  refine (rturn_any _ 64 _ ss _ T _ (by omega) (by rw [← HS.out]; exact (S3.out.alloc _)) HT.out).mono ?_; rintro e w4 ⟨v4, rfl, o4, b4⟩
  rw [HC.out] at o4
  obtain ⟨A4, c4, rfl, l4, s4⟩ := o4.form HCL.out
  have X8 := Lib.hid (kept_below X7.out b4)
  have Y8 := Lib.hid (kept_below Y7.out b4)
  have Z8 := Lib.hid (kept_below Z7.out b4)
  have SC := Lib.hid s4
  have SO : Hid (Oct w4 A3 64 ss) := by show Oct _ _ _ _; rw [← HS.out]; exact (S3.out.alloc _).below b4
  have SX : Hid (Oct w4 A2 64 xs) := by show Oct _ _ _ _; rw [← HX.out]; exact (T3.out.alloc _).below b4
  have B4 : Hid (Below w.heap.size w w4) := bthen Bb.out b4
  clear b4 s4 o4 x0 x1 x2 x3 x4 x5 x6 x7 y0 y1 y2 y3 y4 y5 y6 y7 X6 Y6 X7 Y7 Z7
  have cv1 := SC.out.conv bt Tryd.underlying9 c4
  have cv2 := SO.out.conv bt Tryd.underlying9 c3
  have hws : w.heap.size < w3.heap.size := by have := (Array.getElem?_eq_some_iff.1 X5.out).1; omega
  have hws1 : w1.heap.size < w3.heap.size := by have := (Array.getElem?_eq_some_iff.1 Y5.out).1; omega
  obtain ⟨w5, hw5⟩ : ∃ w5, w5 = w4 := ⟨_, rfl⟩
  have X9 : Hid (w5.heap[w.heap.size]? = some (.cells #[.int .i64 p.no, .int .u64 (p.v : Int), .int .u64 (p.g 0 : Int), .int .u64 (p.g 1 : Int), .int .u64 (p.g 2 : Int), .int .u64 (p.g 3 : Int), .int .u64 (p.g 4 : Int), .int .u64 (p.g 5 : Int)] 25 (0, 0))) := by rw [hw5]; exact X8
  have Z9 : Hid (w5.heap[w3.heap.size]? = some (.cells #[.int .i64 p.no, .int .u64 (V : Int), .int .u64 (p.g 0 : Int), .int .u64 (p.g 1 : Int), .int .u64 (p.g 2 : Int), .int .u64 (p.g 3 : Int), .int .u64 (p.g 4 : Int), .int .u64 (p.g 5 : Int)] 25 (0, 0))) := by rw [hw5]; exact Z8
  have SC9 : Hid (Oct w5 A4 64 cs) := by rw [hw5]; exact SC
  have SX9 : Hid (Oct w5 A2 64 xs) := by rw [hw5]; exact SX
  have B9 : Hid (Below w.heap.size w w5) := by rw [hw5]; exact B4
  rw [← hw5] at cv1 cv2
  rw [← hw5]
  clear hw5
  obtain ⟨x0, x1, x2, x3, x4, x5, x6, x7⟩ := gp_cells X9.out
  go_wp2_with fail
  refine (newer_any _ _ 64 _ 64 _ xs cs _ p ⟨p.no, V, p.g⟩ 0 0 ⟨p.no, V, p.g⟩ 1 true _ (by omega) l2 (by omega) l4 SX9.out SC9.out (HE.out.below B9.out) W1.out WC.out (.inr (.inr (.inl ⟨rfl, rfl, HV.out, rfl, rfl, rfl⟩)))).mono ?_; rintro e w6 ⟨rfl, b6⟩
  have Z10 := Lib.hid (kept_below Z9.out b6)
  have B10 : Hid (Below w.heap.size w w6) := bthen B9.out b6
  clear b6 x0 x1 x2 x3 x4 x5 x6 x7
  rw [show (.agg #[.int .i64 (Gp.no ⟨p.no, V, p.g⟩), .int .u64 ((Gp.v ⟨p.no, V, p.g⟩ : Nat) : Int), .int .u64 ((Gp.g ⟨p.no, V, p.g⟩ 0 : Nat) : Int), .int .u64 ((Gp.g ⟨p.no, V, p.g⟩ 1 : Nat) : Int), .int .u64 ((Gp.g ⟨p.no, V, p.g⟩ 2 : Nat) : Int), .int .u64 ((Gp.g ⟨p.no, V, p.g⟩ 3 : Nat) : Int), .int .u64 ((Gp.g ⟨p.no, V, p.g⟩ 4 : Nat) : Int), .int .u64 ((Gp.g ⟨p.no, V, p.g⟩ 5 : Nat) : Int)] : Value) = .agg #[.int .i64 p.no, .int .u64 (V : Int), .int .u64 (p.g 0 : Int), .int .u64 (p.g 1 : Int), .int .u64 (p.g 2 : Int), .int .u64 (p.g 3 : Int), .int .u64 (p.g 4 : Int), .int .u64 (p.g 5 : Int)] from rfl]
  have Z11 := kept_below Z10.out (balloc w6 (.cells #[.int .i64 p.no, .int .u64 (V : Int), .int .u64 (p.g 0 : Int), .int .u64 (p.g 1 : Int), .int .u64 (p.g 2 : Int), .int .u64 (p.g 3 : Int), .int .u64 (p.g 4 : Int), .int .u64 (p.g 5 : Int)] 25))
  have B11 : Hid (Below w.heap.size w (w6.alloc (.cells #[.int .i64 p.no, .int .u64 (V : Int), .int .u64 (p.g 0 : Int), .int .u64 (p.g 1 : Int), .int .u64 (p.g 2 : Int), .int .u64 (p.g 3 : Int), .int .u64 (p.g 4 : Int), .int .u64 (p.g 5 : Int)] 25))) := bthen B10.out (balloc _ _)
  obtain ⟨z0, z1, z2, z3, z4, z5, z6, z7⟩ := gp_cells (p := ⟨p.no, V, p.g⟩) Z11
  go_wp2_with fail
  refine (awake_any _ (HE.out.below B11.out)).mono ?_; rintro e w7 ⟨rfl, b7⟩
  have B12 : Hid (Below w.heap.size w w7) := bthen B11.out b7
  clear b7
  go_wp2
  go_ret
  exact ⟨rfl, B12.out⟩

set_option maxRecDepth 100000 in
set_option maxHeartbeats 8000000 in
theorem rots_lat (p : Gp) (M V at_ T : Nat) (w : World) (he : Env w) (h : MayBe p) (hM : M < 256) (ha : at_ < 65536) (hT : T < 4294967296) (hV : V = min (p.v + M) 4611686018427387904) (hv : p.v < V) (ss cs : List UInt8) (hss : sect p = ss) (hcs : turned ss (at_ : Int) T 32 = cs) (hd : ¬ ss = cs) :
    Calls Tryd.prog 5 #[(.agg #[.int .i64 p.no, .int .u64 (p.v : Int), .int .u64 (p.g 0 : Int), .int .u64 (p.g 1 : Int), .int .u64 (p.g 2 : Int), .int .u64 (p.g 3 : Int), .int .u64 (p.g 4 : Int), .int .u64 (p.g 5 : Int)]), .int .u8 (M : Int), .bool false, .int .u16 (at_ : Int), .int .u32 (T : Int)] w fun e w' => e = .returned (.bool true) ∧ Below w.heap.size w w' := by
  have HE := Lib.hid he
  have HP := Lib.hid h
  have hpv := h.2.1
  have hq : MayBe (⟨p.no, V, p.g⟩ : Gp) := ⟨h.1, by have := hpv.1; have := hpv.2; show isG V; exact ⟨by omega, by omega⟩, h.2.2⟩
  have HQ := Lib.hid hq
  have hvm : (if (4611686018427387904 : Int) < (p.v : Int) + (M : Int) then (4611686018427387904 : Int) else (p.v : Int) + (M : Int)) = (V : Int) := by
    split <;> omega
  have hp1 := hpv.1
  have hp2 := hpv.2
  have hVb : V ≤ 4611686018427387904 := by omega
  have hve : ((V : Int) == (p.v : Int)) = false := by simp; omega
  have hbe : ((bstr cs).toList == (bstr ss).toList) = false := bstr_eq cs ss false (by simp; exact fun e => hd e.symm)
  have hw1 : GWay (sect p) p.no p 0 := way_own h
  have hw2 : GWay (sect ⟨p.no, V, p.g⟩) p.no ⟨p.no, V, p.g⟩ 0 := way_own hq
  have hwc : GWay cs p.no zp 40 := by
    rw [← hcs, ← hss]; exact way_rot _ at_ T (by rw [hss, hcs]; exact hd) _
  obtain ⟨xs, hxs⟩ : ∃ xs, sect ⟨p.no, V, p.g⟩ = xs := ⟨_, rfl⟩
  have hsl : ss.length = 64 := by rw [← hss]; exact sect_length _
  have hxl : xs.length = 64 := by rw [← hxs]; exact sect_length _
  have hcl : cs.length = 64 := by rw [← hcs, turned_length, hsl]
  rw [hss] at hw1
  rw [hxs] at hw2
  have HS := Lib.hid hss
  have HX := Lib.hid hxs
  have HSL := Lib.hid hsl
  have HXL := Lib.hid hxl
  have HCL := Lib.hid hcl
  have HC := Lib.hid hcs
  have W1 := Lib.hid hw1
  have W2 := Lib.hid hw2
  have WC := Lib.hid hwc
  have HT := Lib.hid hT
  have HV := Lib.hid hv
  clear he h hq hpv hss hxs hsl hxl hcl hcs hw1 hw2 hwc hT hd hV hv
  go_enter Tryd.func5, Tryd.ntmps5
  go_wp2_with fail
  refine (rmay_any p true _ ⟨fun _ => HP.out, fun _ => rfl⟩).mono ?_; rintro e w1 ⟨rfl, b1⟩
  have X1 := Lib.hid (kept_below (heap_alloc_new w (.cells #[.int .i64 p.no, .int .u64 (p.v : Int), .int .u64 (p.g 0 : Int), .int .u64 (p.g 1 : Int), .int .u64 (p.g 2 : Int), .int .u64 (p.g 3 : Int), .int .u64 (p.g 4 : Int), .int .u64 (p.g 5 : Int)] 25)) b1)
  have B1 : Hid (Below w.heap.size w w1) := bthen (balloc _ _) b1
  clear b1
  have X2 := Lib.hid (kept_below X1.out (balloc w1 (.cells #[.int .i64 p.no, .int .u64 (p.v : Int), .int .u64 (p.g 0 : Int), .int .u64 (p.g 1 : Int), .int .u64 (p.g 2 : Int), .int .u64 (p.g 3 : Int), .int .u64 (p.g 4 : Int), .int .u64 (p.g 5 : Int)] 25)))
  obtain ⟨x0, x1, x2, x3, x4, x5, x6, x7⟩ := gp_cells X2.out
  go_wp2_with (first
    | ((with_reducible apply L_loadGp); exact rfl; exact X1.out; exact rfl)
    | ((with_reducible apply L_loadGp); exact rfl; exact (kept_below X1.out (balloc w1 _)); exact rfl))
  clear x0 x1 x2 x3 x4 x5 x6 x7
  have X3 := Lib.hid (kept_below X1.out (balloc w1 (.cells #[.int .i64 p.no, .int .u64 (V : Int), .int .u64 (p.g 0 : Int), .int .u64 (p.g 1 : Int), .int .u64 (p.g 2 : Int), .int .u64 (p.g 3 : Int), .int .u64 (p.g 4 : Int), .int .u64 (p.g 5 : Int)] 25)))
  have Y3 := Lib.hid (heap_alloc_new w1 (.cells #[.int .i64 p.no, .int .u64 (V : Int), .int .u64 (p.g 0 : Int), .int .u64 (p.g 1 : Int), .int .u64 (p.g 2 : Int), .int .u64 (p.g 3 : Int), .int .u64 (p.g 4 : Int), .int .u64 (p.g 5 : Int)] 25))
  have Ba : Hid (Below w.heap.size w (w1.alloc (.cells #[.int .i64 p.no, .int .u64 (V : Int), .int .u64 (p.g 0 : Int), .int .u64 (p.g 1 : Int), .int .u64 (p.g 2 : Int), .int .u64 (p.g 3 : Int), .int .u64 (p.g 4 : Int), .int .u64 (p.g 5 : Int)] 25))) := bthen B1.out (balloc _ _)
  refine (rgput_ok p _ HP.out).mono ?_; rintro e w2 ⟨v2, rfl, o2, b2⟩
  obtain ⟨A2, c2, rfl, l2, s2⟩ := o2.form (sect_length p)
  have X4 := Lib.hid (kept_below X3.out b2)
  have Y4 := Lib.hid (kept_below Y3.out b2)
  have S2 := Lib.hid s2
  have B2 : Hid (Below w.heap.size w w2) := bthen Ba.out b2
  clear b2 s2 o2 X2 X3 Y3
  go_wp2_with ((with_reducible apply L_loadGp); exact rfl; exact Y4.out; exact rfl)
  refine (rgput_ok ⟨p.no, V, p.g⟩ _ HQ.out).mono ?_; rintro e w3 ⟨v3, rfl, o3, b3⟩
  obtain ⟨A3, c3, rfl, l3, s3⟩ := o3.form (sect_length _)
  have X5 := Lib.hid (kept_below X4.out b3)
  have Y5 := Lib.hid (kept_below Y4.out b3)
  have S3 := Lib.hid s3
  have T3 := Lib.hid (S2.out.below b3)
  have B3 : Hid (Below w.heap.size w w3) := bthen B2.out b3
  clear b3 s3 o3
  have X6 := Lib.hid (kept_below X5.out (balloc w3 (.cells #[.int .i64 p.no, .int .u64 (V : Int), .int .u64 (p.g 0 : Int), .int .u64 (p.g 1 : Int), .int .u64 (p.g 2 : Int), .int .u64 (p.g 3 : Int), .int .u64 (p.g 4 : Int), .int .u64 (p.g 5 : Int)] 25)))
  have Y6 := Lib.hid (kept_below Y5.out (balloc w3 (.cells #[.int .i64 p.no, .int .u64 (V : Int), .int .u64 (p.g 0 : Int), .int .u64 (p.g 1 : Int), .int .u64 (p.g 2 : Int), .int .u64 (p.g 3 : Int), .int .u64 (p.g 4 : Int), .int .u64 (p.g 5 : Int)] 25)))
  obtain ⟨x0, x1, x2, x3, x4, x5, x6, x7⟩ := gp_cells X6.out
  obtain ⟨y0, y1, y2, y3, y4, y5, y6, y7⟩ := gp_cells (p := ⟨p.no, V, p.g⟩) Y6.out
  go_wp2_with (first
    | ((with_reducible apply L_loadGp); exact rfl; exact X6.out; exact rfl)
    | ((with_reducible apply L_loadGp); exact rfl; exact Y6.out; exact rfl)
    | ((with_reducible apply L_loadGp); exact rfl; exact Y5.out; exact rfl))
  have Bb : Hid (Below w.heap.size w (w3.alloc (.cells #[.int .i64 p.no, .int .u64 (V : Int), .int .u64 (p.g 0 : Int), .int .u64 (p.g 1 : Int), .int .u64 (p.g 2 : Int), .int .u64 (p.g 3 : Int), .int .u64 (p.g 4 : Int), .int .u64 (p.g 5 : Int)] 25))) := bthen B3.out (balloc _ _)
  have X7 := Lib.hid (kept_below X5.out (balloc w3 (.cells #[.int .i64 p.no, .int .u64 (V : Int), .int .u64 (p.g 0 : Int), .int .u64 (p.g 1 : Int), .int .u64 (p.g 2 : Int), .int .u64 (p.g 3 : Int), .int .u64 (p.g 4 : Int), .int .u64 (p.g 5 : Int)] 25)))
  have Y7 := Lib.hid (kept_below Y5.out (balloc w3 (.cells #[.int .i64 p.no, .int .u64 (V : Int), .int .u64 (p.g 0 : Int), .int .u64 (p.g 1 : Int), .int .u64 (p.g 2 : Int), .int .u64 (p.g 3 : Int), .int .u64 (p.g 4 : Int), .int .u64 (p.g 5 : Int)] 25)))
  have Z7 := Lib.hid (heap_alloc_new w3 (.cells #[.int .i64 p.no, .int .u64 (V : Int), .int .u64 (p.g 0 : Int), .int .u64 (p.g 1 : Int), .int .u64 (p.g 2 : Int), .int .u64 (p.g 3 : Int), .int .u64 (p.g 4 : Int), .int .u64 (p.g 5 : Int)] 25))
  refine (rturn_any _ 64 _ ss _ T _ (by omega) (by rw [← HS.out]; exact (T3.out.alloc _)) HT.out).mono ?_; rintro e w4 ⟨v4, rfl, o4, b4⟩
  rw [HC.out] at o4
  obtain ⟨A4, c4, rfl, l4, s4⟩ := o4.form HCL.out
  have X8 := Lib.hid (kept_below X7.out b4)
  have Y8 := Lib.hid (kept_below Y7.out b4)
  have Z8 := Lib.hid (kept_below Z7.out b4)
  have SC := Lib.hid s4
  have SO : Hid (Oct w4 A2 64 ss) := by show Oct _ _ _ _; rw [← HS.out]; exact (T3.out.alloc _).below b4
  have SX : Hid (Oct w4 A3 64 xs) := by show Oct _ _ _ _; rw [← HX.out]; exact (S3.out.alloc _).below b4
  have B4 : Hid (Below w.heap.size w w4) := bthen Bb.out b4
  clear b4 s4 o4 x0 x1 x2 x3 x4 x5 x6 x7 y0 y1 y2 y3 y4 y5 y6 y7 X6 Y6 X7 Y7 Z7
  have cv1 := SC.out.conv bt Tryd.underlying9 c4
  have cv2 := SO.out.conv bt Tryd.underlying9 c2
  have hws : w.heap.size < w3.heap.size := by have := (Array.getElem?_eq_some_iff.1 X5.out).1; omega
  have hws1 : w1.heap.size < w3.heap.size := by have := (Array.getElem?_eq_some_iff.1 Y5.out).1; omega
  have n0 := gp_cells X8.out
  obtain ⟨x0, x1, x2, x3, x4, x5, x6, x7⟩ := n0
  go_upto_region 19 with (first
    | ((with_reducible apply L_loadGp); exact rfl; exact Y8.out; exact rfl)
    | ((with_reducible apply L_storeRow (N := 8) info_gp); exact rfl; exact rfl; exact Z8.out; exact rfl; exact rfl; (simp [Value.oneCell']); intro w5 h5 g5; have Z9 := Lib.hid h5; have G5 := Lib.hid g5; clear h5 g5))
  have X9 := Lib.hid (kept_by X8.out G5.out (by omega))
  have SC9 := Lib.hid (oct_gc5 SC.out Z8.out G5.out)
  have SX9 := Lib.hid (oct_gc5 SX.out Z8.out G5.out)
  have B9 : Hid (Below w.heap.size w w5) := below_up B4.out G5.out (by omega)
  clear x0 x1 x2 x3 x4 x5 x6 x7
  obtain ⟨x0, x1, x2, x3, x4, x5, x6, x7⟩ := gp_cells X9.out
  go_wp2_with fail
  refine (newer_any _ _ 64 _ 64 _ cs xs _ zp ⟨p.no, V, p.g⟩ 40 0 ⟨p.no, V, p.g⟩ 1 true _ (by omega) l4 (by omega) l3 SC9.out SX9.out (HE.out.below B9.out) WC.out W2.out (.inr (.inr (.inr (.inl ⟨by decide, rfl, rfl, HQ.out.2.1, rfl, rfl, rfl⟩))))).mono ?_; rintro e w6 ⟨rfl, b6⟩
  have Z10 := Lib.hid (kept_below Z9.out b6)
  have B10 : Hid (Below w.heap.size w w6) := bthen B9.out b6
  clear b6 x0 x1 x2 x3 x4 x5 x6 x7
  rw [show (.agg #[.int .i64 (Gp.no ⟨p.no, V, p.g⟩), .int .u64 ((Gp.v ⟨p.no, V, p.g⟩ : Nat) : Int), .int .u64 ((Gp.g ⟨p.no, V, p.g⟩ 0 : Nat) : Int), .int .u64 ((Gp.g ⟨p.no, V, p.g⟩ 1 : Nat) : Int), .int .u64 ((Gp.g ⟨p.no, V, p.g⟩ 2 : Nat) : Int), .int .u64 ((Gp.g ⟨p.no, V, p.g⟩ 3 : Nat) : Int), .int .u64 ((Gp.g ⟨p.no, V, p.g⟩ 4 : Nat) : Int), .int .u64 ((Gp.g ⟨p.no, V, p.g⟩ 5 : Nat) : Int)] : Value) = .agg #[.int .i64 p.no, .int .u64 (V : Int), .int .u64 (p.g 0 : Int), .int .u64 (p.g 1 : Int), .int .u64 (p.g 2 : Int), .int .u64 (p.g 3 : Int), .int .u64 (p.g 4 : Int), .int .u64 (p.g 5 : Int)] from rfl]
  have Z11 := kept_below Z10.out (balloc w6 (.cells #[.int .i64 p.no, .int .u64 (V : Int), .int .u64 (p.g 0 : Int), .int .u64 (p.g 1 : Int), .int .u64 (p.g 2 : Int), .int .u64 (p.g 3 : Int), .int .u64 (p.g 4 : Int), .int .u64 (p.g 5 : Int)] 25))
  have B11 : Hid (Below w.heap.size w (w6.alloc (.cells #[.int .i64 p.no, .int .u64 (V : Int), .int .u64 (p.g 0 : Int), .int .u64 (p.g 1 : Int), .int .u64 (p.g 2 : Int), .int .u64 (p.g 3 : Int), .int .u64 (p.g 4 : Int), .int .u64 (p.g 5 : Int)] 25))) := bthen B10.out (balloc _ _)
  obtain ⟨z0, z1, z2, z3, z4, z5, z6, z7⟩ := gp_cells (p := ⟨p.no, V, p.g⟩) Z11
  go_wp2_with fail
  refine (awake_any _ (HE.out.below B11.out)).mono ?_; rintro e w7 ⟨rfl, b7⟩
  have B12 : Hid (Below w.heap.size w w7) := bthen B11.out b7
  clear b7
  go_wp2
  go_ret
  exact ⟨rfl, B12.out⟩

set_option maxRecDepth 100000 in
set_option maxHeartbeats 8000000 in
theorem rots_lak (p : Gp) (M V at_ T : Nat) (w : World) (he : Env w) (h : MayBe p) (hM : M < 256) (ha : at_ < 65536) (hT : T < 4294967296) (hV : V = min (p.v + M) 4611686018427387904) (hv : p.v < V) (ss cs : List UInt8) (hss : sect p = ss) (hcs : turned ss (at_ : Int) T 32 = cs) (hd : ss = cs) :
    Calls Tryd.prog 5 #[(.agg #[.int .i64 p.no, .int .u64 (p.v : Int), .int .u64 (p.g 0 : Int), .int .u64 (p.g 1 : Int), .int .u64 (p.g 2 : Int), .int .u64 (p.g 3 : Int), .int .u64 (p.g 4 : Int), .int .u64 (p.g 5 : Int)]), .int .u8 (M : Int), .bool false, .int .u16 (at_ : Int), .int .u32 (T : Int)] w fun e w' => e = .returned (.bool true) ∧ Below w.heap.size w w' := by
  have HE := Lib.hid he
  have HP := Lib.hid h
  have hpv := h.2.1
  have hq : MayBe (⟨p.no, V, p.g⟩ : Gp) := ⟨h.1, by have := hpv.1; have := hpv.2; show isG V; exact ⟨by omega, by omega⟩, h.2.2⟩
  have HQ := Lib.hid hq
  have hvm : (if (4611686018427387904 : Int) < (p.v : Int) + (M : Int) then (4611686018427387904 : Int) else (p.v : Int) + (M : Int)) = (V : Int) := by
    split <;> omega
  have hp1 := hpv.1
  have hp2 := hpv.2
  have hVb : V ≤ 4611686018427387904 := by omega
  have hve : ((V : Int) == (p.v : Int)) = false := by simp; omega
  have hbe : ((bstr cs).toList == (bstr ss).toList) = true := bstr_eq cs ss true (by rw [hd]; simp)
  have hw1 : GWay (sect p) p.no p 0 := way_own h
  have hw2 : GWay (sect ⟨p.no, V, p.g⟩) p.no ⟨p.no, V, p.g⟩ 0 := way_own hq
  have hwc : GWay cs p.no p 0 := by
    rw [← hd, ← hss]; exact hw1
  obtain ⟨xs, hxs⟩ : ∃ xs, sect ⟨p.no, V, p.g⟩ = xs := ⟨_, rfl⟩
  have hsl : ss.length = 64 := by rw [← hss]; exact sect_length _
  have hxl : xs.length = 64 := by rw [← hxs]; exact sect_length _
  have hcl : cs.length = 64 := by rw [← hcs, turned_length, hsl]
  rw [hss] at hw1
  rw [hxs] at hw2
  have HS := Lib.hid hss
  have HX := Lib.hid hxs
  have HSL := Lib.hid hsl
  have HXL := Lib.hid hxl
  have HCL := Lib.hid hcl
  have HC := Lib.hid hcs
  have W1 := Lib.hid hw1
  have W2 := Lib.hid hw2
  have WC := Lib.hid hwc
  have HT := Lib.hid hT
  have HV := Lib.hid hv
  clear he h hq hpv hss hxs hsl hxl hcl hcs hw1 hw2 hwc hT hd hV hv
  go_enter Tryd.func5, Tryd.ntmps5
  go_wp2_with fail
  refine (rmay_any p true _ ⟨fun _ => HP.out, fun _ => rfl⟩).mono ?_; rintro e w1 ⟨rfl, b1⟩
  have X1 := Lib.hid (kept_below (heap_alloc_new w (.cells #[.int .i64 p.no, .int .u64 (p.v : Int), .int .u64 (p.g 0 : Int), .int .u64 (p.g 1 : Int), .int .u64 (p.g 2 : Int), .int .u64 (p.g 3 : Int), .int .u64 (p.g 4 : Int), .int .u64 (p.g 5 : Int)] 25)) b1)
  have B1 : Hid (Below w.heap.size w w1) := bthen (balloc _ _) b1
  clear b1
  have X2 := Lib.hid (kept_below X1.out (balloc w1 (.cells #[.int .i64 p.no, .int .u64 (p.v : Int), .int .u64 (p.g 0 : Int), .int .u64 (p.g 1 : Int), .int .u64 (p.g 2 : Int), .int .u64 (p.g 3 : Int), .int .u64 (p.g 4 : Int), .int .u64 (p.g 5 : Int)] 25)))
  obtain ⟨x0, x1, x2, x3, x4, x5, x6, x7⟩ := gp_cells X2.out
  go_wp2_with (first
    | ((with_reducible apply L_loadGp); exact rfl; exact X1.out; exact rfl)
    | ((with_reducible apply L_loadGp); exact rfl; exact (kept_below X1.out (balloc w1 _)); exact rfl))
  clear x0 x1 x2 x3 x4 x5 x6 x7
  have X3 := Lib.hid (kept_below X1.out (balloc w1 (.cells #[.int .i64 p.no, .int .u64 (V : Int), .int .u64 (p.g 0 : Int), .int .u64 (p.g 1 : Int), .int .u64 (p.g 2 : Int), .int .u64 (p.g 3 : Int), .int .u64 (p.g 4 : Int), .int .u64 (p.g 5 : Int)] 25)))
  have Y3 := Lib.hid (heap_alloc_new w1 (.cells #[.int .i64 p.no, .int .u64 (V : Int), .int .u64 (p.g 0 : Int), .int .u64 (p.g 1 : Int), .int .u64 (p.g 2 : Int), .int .u64 (p.g 3 : Int), .int .u64 (p.g 4 : Int), .int .u64 (p.g 5 : Int)] 25))
  have Ba : Hid (Below w.heap.size w (w1.alloc (.cells #[.int .i64 p.no, .int .u64 (V : Int), .int .u64 (p.g 0 : Int), .int .u64 (p.g 1 : Int), .int .u64 (p.g 2 : Int), .int .u64 (p.g 3 : Int), .int .u64 (p.g 4 : Int), .int .u64 (p.g 5 : Int)] 25))) := bthen B1.out (balloc _ _)
  refine (rgput_ok p _ HP.out).mono ?_; rintro e w2 ⟨v2, rfl, o2, b2⟩
  obtain ⟨A2, c2, rfl, l2, s2⟩ := o2.form (sect_length p)
  have X4 := Lib.hid (kept_below X3.out b2)
  have Y4 := Lib.hid (kept_below Y3.out b2)
  have S2 := Lib.hid s2
  have B2 : Hid (Below w.heap.size w w2) := bthen Ba.out b2
  clear b2 s2 o2 X2 X3 Y3
  go_wp2_with ((with_reducible apply L_loadGp); exact rfl; exact Y4.out; exact rfl)
  refine (rgput_ok ⟨p.no, V, p.g⟩ _ HQ.out).mono ?_; rintro e w3 ⟨v3, rfl, o3, b3⟩
  obtain ⟨A3, c3, rfl, l3, s3⟩ := o3.form (sect_length _)
  have X5 := Lib.hid (kept_below X4.out b3)
  have Y5 := Lib.hid (kept_below Y4.out b3)
  have S3 := Lib.hid s3
  have T3 := Lib.hid (S2.out.below b3)
  have B3 : Hid (Below w.heap.size w w3) := bthen B2.out b3
  clear b3 s3 o3
  have X6 := Lib.hid (kept_below X5.out (balloc w3 (.cells #[.int .i64 p.no, .int .u64 (V : Int), .int .u64 (p.g 0 : Int), .int .u64 (p.g 1 : Int), .int .u64 (p.g 2 : Int), .int .u64 (p.g 3 : Int), .int .u64 (p.g 4 : Int), .int .u64 (p.g 5 : Int)] 25)))
  have Y6 := Lib.hid (kept_below Y5.out (balloc w3 (.cells #[.int .i64 p.no, .int .u64 (V : Int), .int .u64 (p.g 0 : Int), .int .u64 (p.g 1 : Int), .int .u64 (p.g 2 : Int), .int .u64 (p.g 3 : Int), .int .u64 (p.g 4 : Int), .int .u64 (p.g 5 : Int)] 25)))
  obtain ⟨x0, x1, x2, x3, x4, x5, x6, x7⟩ := gp_cells X6.out
  obtain ⟨y0, y1, y2, y3, y4, y5, y6, y7⟩ := gp_cells (p := ⟨p.no, V, p.g⟩) Y6.out
  go_wp2_with (first
    | ((with_reducible apply L_loadGp); exact rfl; exact X6.out; exact rfl)
    | ((with_reducible apply L_loadGp); exact rfl; exact Y6.out; exact rfl)
    | ((with_reducible apply L_loadGp); exact rfl; exact Y5.out; exact rfl))
  have Bb : Hid (Below w.heap.size w (w3.alloc (.cells #[.int .i64 p.no, .int .u64 (V : Int), .int .u64 (p.g 0 : Int), .int .u64 (p.g 1 : Int), .int .u64 (p.g 2 : Int), .int .u64 (p.g 3 : Int), .int .u64 (p.g 4 : Int), .int .u64 (p.g 5 : Int)] 25))) := bthen B3.out (balloc _ _)
  have X7 := Lib.hid (kept_below X5.out (balloc w3 (.cells #[.int .i64 p.no, .int .u64 (V : Int), .int .u64 (p.g 0 : Int), .int .u64 (p.g 1 : Int), .int .u64 (p.g 2 : Int), .int .u64 (p.g 3 : Int), .int .u64 (p.g 4 : Int), .int .u64 (p.g 5 : Int)] 25)))
  have Y7 := Lib.hid (kept_below Y5.out (balloc w3 (.cells #[.int .i64 p.no, .int .u64 (V : Int), .int .u64 (p.g 0 : Int), .int .u64 (p.g 1 : Int), .int .u64 (p.g 2 : Int), .int .u64 (p.g 3 : Int), .int .u64 (p.g 4 : Int), .int .u64 (p.g 5 : Int)] 25)))
  have Z7 := Lib.hid (heap_alloc_new w3 (.cells #[.int .i64 p.no, .int .u64 (V : Int), .int .u64 (p.g 0 : Int), .int .u64 (p.g 1 : Int), .int .u64 (p.g 2 : Int), .int .u64 (p.g 3 : Int), .int .u64 (p.g 4 : Int), .int .u64 (p.g 5 : Int)] 25))
  refine (rturn_any _ 64 _ ss _ T _ (by omega) (by rw [← HS.out]; exact (T3.out.alloc _)) HT.out).mono ?_; rintro e w4 ⟨v4, rfl, o4, b4⟩
  rw [HC.out] at o4
  obtain ⟨A4, c4, rfl, l4, s4⟩ := o4.form HCL.out
  have X8 := Lib.hid (kept_below X7.out b4)
  have Y8 := Lib.hid (kept_below Y7.out b4)
  have Z8 := Lib.hid (kept_below Z7.out b4)
  have SC := Lib.hid s4
  have SO : Hid (Oct w4 A2 64 ss) := by show Oct _ _ _ _; rw [← HS.out]; exact (T3.out.alloc _).below b4
  have SX : Hid (Oct w4 A3 64 xs) := by show Oct _ _ _ _; rw [← HX.out]; exact (S3.out.alloc _).below b4
  have B4 : Hid (Below w.heap.size w w4) := bthen Bb.out b4
  clear b4 s4 o4 x0 x1 x2 x3 x4 x5 x6 x7 y0 y1 y2 y3 y4 y5 y6 y7 X6 Y6 X7 Y7 Z7
  have cv1 := SC.out.conv bt Tryd.underlying9 c4
  have cv2 := SO.out.conv bt Tryd.underlying9 c2
  have hws : w.heap.size < w3.heap.size := by have := (Array.getElem?_eq_some_iff.1 X5.out).1; omega
  have hws1 : w1.heap.size < w3.heap.size := by have := (Array.getElem?_eq_some_iff.1 Y5.out).1; omega
  obtain ⟨w5, hw5⟩ : ∃ w5, w5 = w4 := ⟨_, rfl⟩
  have X9 : Hid (w5.heap[w.heap.size]? = some (.cells #[.int .i64 p.no, .int .u64 (p.v : Int), .int .u64 (p.g 0 : Int), .int .u64 (p.g 1 : Int), .int .u64 (p.g 2 : Int), .int .u64 (p.g 3 : Int), .int .u64 (p.g 4 : Int), .int .u64 (p.g 5 : Int)] 25 (0, 0))) := by rw [hw5]; exact X8
  have Z9 : Hid (w5.heap[w3.heap.size]? = some (.cells #[.int .i64 p.no, .int .u64 (V : Int), .int .u64 (p.g 0 : Int), .int .u64 (p.g 1 : Int), .int .u64 (p.g 2 : Int), .int .u64 (p.g 3 : Int), .int .u64 (p.g 4 : Int), .int .u64 (p.g 5 : Int)] 25 (0, 0))) := by rw [hw5]; exact Z8
  have SC9 : Hid (Oct w5 A4 64 cs) := by rw [hw5]; exact SC
  have SX9 : Hid (Oct w5 A3 64 xs) := by rw [hw5]; exact SX
  have B9 : Hid (Below w.heap.size w w5) := by rw [hw5]; exact B4
  rw [← hw5] at cv1 cv2
  rw [← hw5]
  clear hw5
  obtain ⟨x0, x1, x2, x3, x4, x5, x6, x7⟩ := gp_cells X9.out
  go_wp2_with fail
  refine (newer_any _ _ 64 _ 64 _ cs xs _ p ⟨p.no, V, p.g⟩ 0 0 ⟨p.no, V, p.g⟩ 1 true _ (by omega) l4 (by omega) l3 SC9.out SX9.out (HE.out.below B9.out) WC.out W2.out (.inr (.inr (.inl ⟨rfl, rfl, HV.out, rfl, rfl, rfl⟩)))).mono ?_; rintro e w6 ⟨rfl, b6⟩
  have Z10 := Lib.hid (kept_below Z9.out b6)
  have B10 : Hid (Below w.heap.size w w6) := bthen B9.out b6
  clear b6 x0 x1 x2 x3 x4 x5 x6 x7
  rw [show (.agg #[.int .i64 (Gp.no ⟨p.no, V, p.g⟩), .int .u64 ((Gp.v ⟨p.no, V, p.g⟩ : Nat) : Int), .int .u64 ((Gp.g ⟨p.no, V, p.g⟩ 0 : Nat) : Int), .int .u64 ((Gp.g ⟨p.no, V, p.g⟩ 1 : Nat) : Int), .int .u64 ((Gp.g ⟨p.no, V, p.g⟩ 2 : Nat) : Int), .int .u64 ((Gp.g ⟨p.no, V, p.g⟩ 3 : Nat) : Int), .int .u64 ((Gp.g ⟨p.no, V, p.g⟩ 4 : Nat) : Int), .int .u64 ((Gp.g ⟨p.no, V, p.g⟩ 5 : Nat) : Int)] : Value) = .agg #[.int .i64 p.no, .int .u64 (V : Int), .int .u64 (p.g 0 : Int), .int .u64 (p.g 1 : Int), .int .u64 (p.g 2 : Int), .int .u64 (p.g 3 : Int), .int .u64 (p.g 4 : Int), .int .u64 (p.g 5 : Int)] from rfl]
  have Z11 := kept_below Z10.out (balloc w6 (.cells #[.int .i64 p.no, .int .u64 (V : Int), .int .u64 (p.g 0 : Int), .int .u64 (p.g 1 : Int), .int .u64 (p.g 2 : Int), .int .u64 (p.g 3 : Int), .int .u64 (p.g 4 : Int), .int .u64 (p.g 5 : Int)] 25))
  have B11 : Hid (Below w.heap.size w (w6.alloc (.cells #[.int .i64 p.no, .int .u64 (V : Int), .int .u64 (p.g 0 : Int), .int .u64 (p.g 1 : Int), .int .u64 (p.g 2 : Int), .int .u64 (p.g 3 : Int), .int .u64 (p.g 4 : Int), .int .u64 (p.g 5 : Int)] 25))) := bthen B10.out (balloc _ _)
  obtain ⟨z0, z1, z2, z3, z4, z5, z6, z7⟩ := gp_cells (p := ⟨p.no, V, p.g⟩) Z11
  go_wp2_with fail
  refine (awake_any _ (HE.out.below B11.out)).mono ?_; rintro e w7 ⟨rfl, b7⟩
  have B12 : Hid (Below w.heap.size w w7) := bthen B11.out b7
  clear b7
  go_wp2
  go_ret
  exact ⟨rfl, B12.out⟩
theorem rots_law (w : World) (p : Gp) (a : Int) (ha : (Lit.int .u8 a).wf = true) (sec : Bool) (a2 : Int) (ha2 : (Lit.int .u16 a2).wf = true) (a3 : Int) (ha3 : (Lit.int .u32 a3).wf = true) (he : Env w) :
    Calls Tryd.prog 5 #[(.agg #[.int .i64 p.no, .int .u64 (p.v : Int), .int .u64 (p.g 0 : Int), .int .u64 (p.g 1 : Int), .int .u64 (p.g 2 : Int), .int .u64 (p.g 3 : Int), .int .u64 (p.g 4 : Int), .int .u64 (p.g 5 : Int)]), .int .u8 a, .bool sec, .int .u16 a2, .int .u32 a3] w fun e w' => e = .returned (.bool true) ∧ Below w.heap.size w w' := by
  obtain ⟨M, rfl, hM⟩ := nat_u8 ha
  obtain ⟨N, rfl, hN⟩ := nat_u16 ha2
  obtain ⟨T, rfl, hT⟩ := nat_u32 ha3
  by_cases h : MayBe p
  · obtain ⟨V, hV⟩ : ∃ V, V = min (p.v + M) 4611686018427387904 := ⟨_, rfl⟩
    have hp := h.2.1
    have hvv : V = p.v ∨ p.v < V := by have := hp.1; have := hp.2; omega
    cases sec
    · by_cases hd : sect p = turned (sect p) (N : Int) T 32
      · rcases hvv with hv | hv
        · exact rots_eak p M V N T w he h hM hN hT hV hv _ _ rfl rfl hd
        · exact rots_lak p M V N T w he h hM hN hT hV hv _ _ rfl rfl hd
      · rcases hvv with hv | hv
        · exact rots_eat p M V N T w he h hM hN hT hV hv _ _ rfl rfl hd
        · exact rots_lat p M V N T w he h hM hN hT hV hv _ _ rfl rfl hd
    · by_cases hd : sect ⟨p.no, V, p.g⟩ = turned (sect ⟨p.no, V, p.g⟩) (N : Int) T 32
      · rcases hvv with hv | hv
        · exact rots_ebk p M V N T w he h hM hN hT hV hv _ _ rfl rfl hd
        · exact rots_lbk p M V N T w he h hM hN hT hV hv _ _ rfl rfl hd
      · rcases hvv with hv | hv
        · exact rots_ebt p M V N T w he h hM hN hT hV hv _ _ rfl rfl hd
        · exact rots_lbt p M V N T w he h hM hN hT hV hv _ _ rfl rfl hd
  · exact rots_no p _ sec _ _ w he h
end Go.Proofs.YthclgehifomkhaaDoor.W
