/-
  The walk of the statement on Get. No conditions.
-/
import Derived.Test.YtheflapmjopemaaDoorHdPuts
namespace Go.Proofs.YtheflapmjopemaaDoor.W.Hd
open Go.RowKit Oc Gt
set_option linter.unusedVariables false
attribute [local go_sem ↓] Go.wp_at_zero Go.wp_at_succ

theorem first70 {w : World} {A : Option Addr} {n : Nat} {xs : List UInt8} (ho : Oct w A n xs) : ∃ m ys, m = min n 70 ∧ m ≤ 70 ∧ m ≤ n ∧ Oct w A m ys := ⟨min n 70, xs.take (min n 70), rfl, by omega, by omega, ho.take (by omega)⟩

set_option maxRecDepth 100000 in
set_option maxHeartbeats 4000000 in
theorem gets_no (A : Option Addr) (n c m at_ T : Nat) (ys : List UInt8) (w : World) (hm : m = min n 70) (hc : n ≤ c) (ho : Oct w A m ys) (he : EnvH w) (E : Int) (hW : GWay ys zr E) (hE : ¬ E = 0) :
    Calls Tryd.prog 4 #[.slice A n c, .int .u16 (at_ : Int), .int .u32 (T : Int)] w fun e w' => e = .returned (.bool true) ∧ Below w.heap.size w w' := by
  have HE := Lib.hid he
  have HM := Lib.hid hm
  have hm7 : m ≤ 70 := by omega
  have hmc : m ≤ c := by omega
  have HO := Lib.hid ho
  have HW := Lib.hid hW
  clear he hm ho hW
  go_enter Tryd.func4, Tryd.ntmps4
  go_wp2_with fail
  refine (few_any _ _ _ m _ HM.out hc).mono ?_; rintro e w' ⟨rfl, rfl⟩
  go_wp2_with fail
  refine (hget_any _ _ _ ys zr E _ (by omega) hmc HO.out HE.out HW.out).mono ?_; rintro e w1 ⟨rfl, b1⟩
  have X1 := Lib.hid (heap_alloc_new w1 (.cells #[.bool zr.u, .int .i64 zr.l, .int .u64 (zr.g : Int), .int .u32 (zr.s.toNat : Int), .int .u32 (zr.r.toNat : Int)] 25))
  have B1 : Hid (Below w.heap.size w (w1.alloc (.cells #[.bool zr.u, .int .i64 zr.l, .int .u64 (zr.g : Int), .int .u32 (zr.s.toNat : Int), .int .u32 (zr.r.toNat : Int)] 25))) := bthen b1 (balloc _ _)
  clear b1
  go_wp2_with fail
  refine (rhget_any _ _ _ ys zr E _ (by omega) hmc (HO.out.below B1.out) HW.out).mono ?_; rintro e w2 ⟨rfl, b2⟩
  have X2 := Lib.hid (kept_below (kept_below X1.out b2) (balloc w2 (.cells #[.bool zr.u, .int .i64 zr.l, .int .u64 (zr.g : Int), .int .u32 (zr.s.toNat : Int), .int .u32 (zr.r.toNat : Int)] 25)))
  have Y2 := Lib.hid (heap_alloc_new w2 (.cells #[.bool zr.u, .int .i64 zr.l, .int .u64 (zr.g : Int), .int .u32 (zr.s.toNat : Int), .int .u32 (zr.r.toNat : Int)] 25))
  have B2 : Hid (Below w.heap.size w (w2.alloc (.cells #[.bool zr.u, .int .i64 zr.l, .int .u64 (zr.g : Int), .int .u32 (zr.s.toNat : Int), .int .u32 (zr.r.toNat : Int)] 25))) := bthen (bthen B1.out b2) (balloc _ _)
  clear b2
  obtain ⟨x0, x1, x2, x3, x4⟩ := hd_cells X2.out
  obtain ⟨y0, y1, y2, y3, y4⟩ := hd_cells Y2.out
  go_wp2_with fail
  refine (awake_any _ (HE.out.below B2.out)).mono ?_; rintro e w3 ⟨rfl, b3⟩
  have X3 := Lib.hid (kept_below X2.out b3)
  have B3 : Hid (Below w.heap.size w w3) := bthen B2.out b3
  clear b3 x0 x1 x2 x3 x4 y0 y1 y2 y3 y4
  obtain ⟨x0, x1, x2, x3, x4⟩ := hd_cells X3.out
  change _ = some (Value.bool false) at x0
  change _ = some (Value.int .i64 0) at x1
  change _ = some (Value.int .u64 0) at x2
  change _ = some (Value.int .u32 0) at x3 x4
  go_wp2
  go_ret
  exact ⟨rfl, B3.out⟩

set_option maxRecDepth 100000 in
set_option maxHeartbeats 4000000 in
theorem gets_ok (A : Option Addr) (n c m at_ T : Nat) (ys : List UInt8) (w : World) (hm : m = min n 70) (hc : n ≤ c) (ho : Oct w A m ys) (he : EnvH w) (hat : at_ < 65536) (hT : T < 4294967296)
    (p q : Hd) (hW : GWay ys p 0) (hp : MayBe p) (hs : sect p = ys) (F : Int) (zs : List UInt8) (hz : turned ys at_ T 32 = zs) (hV : GWay zs q F) (hF : (F == 0) = ((bstr zs).toList == (bstr ys).toList)) :
    Calls Tryd.prog 4 #[.slice A n c, .int .u16 (at_ : Int), .int .u32 (T : Int)] w fun e w' => e = .returned (.bool true) ∧ Below w.heap.size w w' := by
  have HE := Lib.hid he
  have HM := Lib.hid hm
  have hm7 : m ≤ 70 := by omega
  have hmc : m ≤ c := by omega
  have HO := Lib.hid ho
  have HW := Lib.hid hW
  have HP := Lib.hid hp
  have HS := Lib.hid hs
  have HZ := Lib.hid hz
  have HV := Lib.hid hV
  have HLy : Hid (ys.length = 64) := by show _ = _; rw [← hs]; exact sect_length p
  have HLz : Hid (zs.length = 64) := by show _ = _; rw [← hz, turned_length]; exact HLy.out
  have hb := bstr_eq ys ys true (by simp)
  have m64 : m = 64 := by rw [← ho.len]; exact HLy.out
  have hwr : IntKind.i64.wrap (at_ : Int) = (at_ : Int) := wrap_le (by omega)
  clear he hm ho hW hp hs hz hV
  subst m64
  go_enter Tryd.func4, Tryd.ntmps4
  go_wp2_with fail
  refine (few_any _ _ _ 64 _ HM.out hc).mono ?_; rintro e w' ⟨rfl, rfl⟩
  go_wp2_with fail
  refine (hget_any _ 64 _ ys p 0 _ (by omega) hmc HO.out HE.out HW.out).mono ?_; rintro e w1 ⟨rfl, b1⟩
  have X1 := Lib.hid (heap_alloc_new w1 (.cells #[.bool p.u, .int .i64 p.l, .int .u64 (p.g : Int), .int .u32 (p.s.toNat : Int), .int .u32 (p.r.toNat : Int)] 25))
  have B1 : Hid (Below w.heap.size w (w1.alloc (.cells #[.bool p.u, .int .i64 p.l, .int .u64 (p.g : Int), .int .u32 (p.s.toNat : Int), .int .u32 (p.r.toNat : Int)] 25))) := bthen b1 (balloc _ _)
  clear b1
  go_wp2_with fail
  refine (rhget_any _ 64 _ ys p 0 _ (by omega) hmc (HO.out.below B1.out) HW.out).mono ?_; rintro e w2 ⟨rfl, b2⟩
  have X2 := Lib.hid (kept_below (kept_below X1.out b2) (balloc w2 (.cells #[.bool p.u, .int .i64 p.l, .int .u64 (p.g : Int), .int .u32 (p.s.toNat : Int), .int .u32 (p.r.toNat : Int)] 25)))
  have Y2 := Lib.hid (heap_alloc_new w2 (.cells #[.bool p.u, .int .i64 p.l, .int .u64 (p.g : Int), .int .u32 (p.s.toNat : Int), .int .u32 (p.r.toNat : Int)] 25))
  have B2 : Hid (Below w.heap.size w (w2.alloc (.cells #[.bool p.u, .int .i64 p.l, .int .u64 (p.g : Int), .int .u32 (p.s.toNat : Int), .int .u32 (p.r.toNat : Int)] 25))) := bthen (bthen B1.out b2) (balloc _ _)
  clear b2
  obtain ⟨x0, x1, x2, x3, x4⟩ := hd_cells X2.out
  obtain ⟨y0, y1, y2, y3, y4⟩ := hd_cells Y2.out
  go_wp2_with fail
  refine (awake_any _ (HE.out.below B2.out)).mono ?_; rintro e w3 ⟨rfl, b3⟩
  have X3 := Lib.hid (kept_below X2.out b3)
  have B3 : Hid (Below w.heap.size w w3) := bthen B2.out b3
  clear b3 x0 x1 x2 x3 x4 y0 y1 y2 y3 y4
  go_wp2_with ((with_reducible apply L_loadHd); exact rfl; exact X3.out; exact rfl)
  refine (hdput_ok p _ HP.out (HE.out.below B3.out)).mono ?_; rintro e w4 ⟨v4, rfl, o4, b4⟩
  rw [HS.out] at o4
  obtain ⟨A4, c4, rfl, l4, s4⟩ := o4.form HLy.out
  have S4 := Lib.hid s4
  have B4 : Hid (Below w.heap.size w w4) := bthen B3.out b4
  clear b4 o4 s4
  go_wp2_with fail
  refine (rturn_any _ 64 _ ys (at_ : Int) T _ (by omega) (HO.out.below B4.out) hT).mono ?_; rintro e w5 ⟨v5, rfl, o5, b5⟩
  rw [HZ.out] at o5
  obtain ⟨A5, c5, rfl, l5, s5⟩ := o5.form HLz.out
  have S5 := Lib.hid s5
  have R5 := Lib.hid (S4.out.below b5)
  have B5 : Hid (Below w.heap.size w w5) := bthen B4.out b5
  clear b5 o5 s5
  go_wp2_with fail
  refine (hget_any _ 64 _ zs q F _ (by omega) l5 S5.out (HE.out.below B5.out) HV.out).mono ?_; rintro e w6 ⟨rfl, b6⟩
  have B6 : Hid (Below w.heap.size w (w6.alloc (.cells #[.bool q.u, .int .i64 q.l, .int .u64 (q.g : Int), .int .u32 (q.s.toNat : Int), .int .u32 (q.r.toNat : Int)] 25))) := bthen (bthen B5.out b6) (balloc _ _)
  have cv1 := ((R5.out.below b6).alloc (.cells #[.bool q.u, .int .i64 q.l, .int .u64 (q.g : Int), .int .u32 (q.s.toNat : Int), .int .u32 (q.r.toNat : Int)] 25)).conv bt Tryd.underlying9 c4
  have cv2 := ((S5.out.below b6).alloc (.cells #[.bool q.u, .int .i64 q.l, .int .u64 (q.g : Int), .int .u32 (q.s.toNat : Int), .int .u32 (q.r.toNat : Int)] 25)).conv bt Tryd.underlying9 c5
  have cv3 := (HO.out.below B6.out).conv bt Tryd.underlying9 c
  clear b6
  go_wp2
  go_ret
  exact ⟨rfl, B6.out⟩
theorem gets_law (w : World) (A : Option Addr) (n c : Nat) (xs : List UInt8) (hc : n ≤ c) (hm : c ≤ maxLen) (ho : Oct w A n xs) (at_ T : Nat) (hat : at_ < 65536) (hT : T < 4294967296) (he : EnvH w) :
    Calls Tryd.prog 4 #[.slice A n c, .int .u16 (at_ : Int), .int .u32 (T : Int)] w fun e w' => e = .returned (.bool true) ∧ Below w.heap.size w w' := by
  obtain ⟨m, ys, hm1, _, _, hy⟩ := first70 ho
  obtain ⟨p, E, h1⟩ := gway_some ys
  rcases gway_facts h1 with ⟨h2, rfl⟩ | ⟨rfl, h2, h3⟩
  · exact gets_no A n c m at_ T ys w hm1 hc hy he E h1 h2
  · by_cases hq : ys = turned ys at_ T 32
    · exact gets_ok A n c m at_ T ys w hm1 hc hy he hat hT p p h1 h2 h3 0 ys hq.symm h1 (by rw [bstr_eq ys ys true (by simp)]; rfl)
    · refine gets_ok A n c m at_ T ys w hm1 hc hy he hat hT p zr h1 h2 h3 40 _ rfl ?_ ?_
      · have h4 := way_rot p at_ T (by rw [h3]; exact hq)
        rw [h3] at h4
        exact h4
      · rw [bstr_eq _ ys false (by simp; exact fun h => hq h.symm)]; rfl
theorem gets_law2 (w : World) (A : Option Addr) (n c : Nat) (xs : List UInt8) (hc : n ≤ c) (hm : c ≤ maxLen) (ho : Oct w A n xs) (a : Int) (ha : (Lit.int .u16 a).wf = true) (t : Int) (ht : (Lit.int .u32 t).wf = true) (he : EnvH w) :
    Calls Tryd.prog 4 #[.slice A n c, .int .u16 a, .int .u32 t] w fun e w' => e = .returned (.bool true) ∧ Below w.heap.size w w' := by
  obtain ⟨M, rfl⟩ : ∃ N : Nat, a = (N : Int) := ⟨a.toNat, by
    simp [Lit.wf, IntKind.min, IntKind.max, IntKind.signed, IntKind.bits] at ha
    omega⟩
  obtain ⟨N, rfl⟩ : ∃ N : Nat, t = (N : Int) := ⟨t.toNat, by
    simp [Lit.wf, IntKind.min, IntKind.max, IntKind.signed, IntKind.bits] at ht
    omega⟩
  simp [Lit.wf, IntKind.min, IntKind.max, IntKind.signed, IntKind.bits] at ha ht
  exact gets_law w A n c xs hc hm ho M N (by omega) (by omega) he
end Go.Proofs.YtheflapmjopemaaDoor.W.Hd
