/-
  The walk of the statement on Get and Newer. No conditions.
-/
import Derived.Test.YthclgehifomkhaaDoorGpPuts
namespace Go.Proofs.YthclgehifomkhaaDoor.W
open Go.RowKit Oc
set_option linter.unusedVariables false
attribute [local go_sem] eq6
attribute [local go_sem ↓] Go.wp_at_zero Go.wp_at_succ

theorem first70 {w : World} {A : Option Addr} {n : Nat} {xs : List UInt8} (ho : Oct w A n xs) : ∃ m ys, m = min n 70 ∧ m ≤ 70 ∧ m ≤ n ∧ Oct w A m ys := ⟨min n 70, xs.take (min n 70), rfl, by omega, by omega, ho.take (by omega)⟩

set_option maxRecDepth 100000 in
set_option maxHeartbeats 4000000 in
theorem gets_walk (A1 A2 : Option Addr) (n1 c1 n2 c2 m1 m2 : Nat) (ys zs : List UInt8) (no : Int) (w : World) (hm1 : m1 = min n1 70) (hm2 : m2 = min n2 70) (hc1 : n1 ≤ c1) (hc2 : n2 ≤ c2) (ho1 : Oct w A1 m1 ys) (ho2 : Oct w A2 m2 zs) (he : Env w)
    (p q x : Gp) (E F k : Int) (ok : Bool) (h1 : GWay ys no p E) (h2 : GWay zs no q F) (hN : NWay p E q F x k ok) :
    Calls Tryd.prog 4 #[.slice A1 n1 c1, .slice A2 n2 c2, .int .i64 no] w fun e w' => e = .returned (.bool true) ∧ Below w.heap.size w w' := by
  have HE := Lib.hid he
  have M1 := Lib.hid hm1
  have M2 := Lib.hid hm2
  have l1 : m1 ≤ 70 := by omega
  have l2 : m2 ≤ 70 := by omega
  have k1 : m1 ≤ c1 := by omega
  have k2 : m2 ≤ c2 := by omega
  have O1 := Lib.hid ho1
  have O2 := Lib.hid ho2
  have W1 := Lib.hid h1
  have W2 := Lib.hid h2
  have WN := Lib.hid hN
  clear he hm1 hm2 ho1 ho2 h1 h2 hN
  go_enter Tryd.func4, Tryd.ntmps4
  go_wp2_with fail
  refine (few_any _ _ _ m1 _ M1.out hc1).mono ?_; rintro e w' ⟨rfl, rfl⟩
  go_wp2_with fail
  refine (few_any _ _ _ m2 _ M2.out hc2).mono ?_; rintro e w' ⟨rfl, rfl⟩
  go_wp2_with fail
  refine (gget_any _ _ _ ys _ p E _ (by omega) k1 O1.out HE.out W1.out).mono ?_; rintro e w1 ⟨rfl, b1⟩
  have B1 := Lib.hid b1
  clear b1
  go_wp2_with fail
  have Ba : Hid (Below w.heap.size w (w1.alloc (.cells #[.int .i64 p.no, .int .u64 (p.v : Int), .int .u64 (p.g 0 : Int), .int .u64 (p.g 1 : Int), .int .u64 (p.g 2 : Int), .int .u64 (p.g 3 : Int), .int .u64 (p.g 4 : Int), .int .u64 (p.g 5 : Int)] 25))) := bthen B1.out (balloc _ _)
  refine (rgget_any _ _ _ ys _ p E _ (by omega) k1 (O1.out.below Ba.out) W1.out).mono ?_; rintro e w2 ⟨rfl, b2⟩
  have X2 := Lib.hid (kept_below (heap_alloc_new w1 (.cells #[.int .i64 p.no, .int .u64 (p.v : Int), .int .u64 (p.g 0 : Int), .int .u64 (p.g 1 : Int), .int .u64 (p.g 2 : Int), .int .u64 (p.g 3 : Int), .int .u64 (p.g 4 : Int), .int .u64 (p.g 5 : Int)] 25)) b2)
  have B2 : Hid (Below w.heap.size w w2) := bthen Ba.out b2
  clear b2 Ba
  go_wp2_with fail
  have Ba : Hid (Below w.heap.size w (w2.alloc (.cells #[.int .i64 p.no, .int .u64 (p.v : Int), .int .u64 (p.g 0 : Int), .int .u64 (p.g 1 : Int), .int .u64 (p.g 2 : Int), .int .u64 (p.g 3 : Int), .int .u64 (p.g 4 : Int), .int .u64 (p.g 5 : Int)] 25))) := bthen B2.out (balloc _ _)
  refine (newer_any _ _ _ _ _ _ ys zs _ p q E F x k ok _ (by omega) k1 (by omega) k2 (O1.out.below Ba.out) (O2.out.below Ba.out) (HE.out.below Ba.out) W1.out W2.out WN.out).mono ?_; rintro e w3 ⟨rfl, b3⟩
  have X3 := Lib.hid (kept_below (kept_below X2.out (balloc w2 (.cells #[.int .i64 p.no, .int .u64 (p.v : Int), .int .u64 (p.g 0 : Int), .int .u64 (p.g 1 : Int), .int .u64 (p.g 2 : Int), .int .u64 (p.g 3 : Int), .int .u64 (p.g 4 : Int), .int .u64 (p.g 5 : Int)] 25))) b3)
  have Y3 := Lib.hid (kept_below (heap_alloc_new w2 (.cells #[.int .i64 p.no, .int .u64 (p.v : Int), .int .u64 (p.g 0 : Int), .int .u64 (p.g 1 : Int), .int .u64 (p.g 2 : Int), .int .u64 (p.g 3 : Int), .int .u64 (p.g 4 : Int), .int .u64 (p.g 5 : Int)] 25)) b3)
  have B3 : Hid (Below w.heap.size w w3) := bthen Ba.out b3
  clear b3 Ba
  go_wp2_with fail
  have Ba : Hid (Below w.heap.size w (w3.alloc (.cells #[.int .i64 x.no, .int .u64 (x.v : Int), .int .u64 (x.g 0 : Int), .int .u64 (x.g 1 : Int), .int .u64 (x.g 2 : Int), .int .u64 (x.g 3 : Int), .int .u64 (x.g 4 : Int), .int .u64 (x.g 5 : Int)] 25))) := bthen B3.out (balloc _ _)
  refine (rnewer_any _ _ _ _ _ _ ys zs _ p q E F x k ok _ (by omega) k1 (by omega) k2 (O1.out.below Ba.out) (O2.out.below Ba.out) W1.out W2.out WN.out).mono ?_; rintro e w4 ⟨rfl, b4⟩
  have X4 := Lib.hid (kept_below (kept_below X3.out (balloc w3 (.cells #[.int .i64 x.no, .int .u64 (x.v : Int), .int .u64 (x.g 0 : Int), .int .u64 (x.g 1 : Int), .int .u64 (x.g 2 : Int), .int .u64 (x.g 3 : Int), .int .u64 (x.g 4 : Int), .int .u64 (x.g 5 : Int)] 25))) b4)
  have Y4 := Lib.hid (kept_below (kept_below Y3.out (balloc w3 (.cells #[.int .i64 x.no, .int .u64 (x.v : Int), .int .u64 (x.g 0 : Int), .int .u64 (x.g 1 : Int), .int .u64 (x.g 2 : Int), .int .u64 (x.g 3 : Int), .int .u64 (x.g 4 : Int), .int .u64 (x.g 5 : Int)] 25))) b4)
  have Z4 := Lib.hid (kept_below (heap_alloc_new w3 (.cells #[.int .i64 x.no, .int .u64 (x.v : Int), .int .u64 (x.g 0 : Int), .int .u64 (x.g 1 : Int), .int .u64 (x.g 2 : Int), .int .u64 (x.g 3 : Int), .int .u64 (x.g 4 : Int), .int .u64 (x.g 5 : Int)] 25)) b4)
  have B4 : Hid (Below w.heap.size w w4) := bthen Ba.out b4
  clear b4 Ba
  have X5 := kept_below X4.out (balloc w4 (.cells #[.int .i64 x.no, .int .u64 (x.v : Int), .int .u64 (x.g 0 : Int), .int .u64 (x.g 1 : Int), .int .u64 (x.g 2 : Int), .int .u64 (x.g 3 : Int), .int .u64 (x.g 4 : Int), .int .u64 (x.g 5 : Int)] 25))
  have Y5 := kept_below Y4.out (balloc w4 (.cells #[.int .i64 x.no, .int .u64 (x.v : Int), .int .u64 (x.g 0 : Int), .int .u64 (x.g 1 : Int), .int .u64 (x.g 2 : Int), .int .u64 (x.g 3 : Int), .int .u64 (x.g 4 : Int), .int .u64 (x.g 5 : Int)] 25))
  have Z5 := kept_below Z4.out (balloc w4 (.cells #[.int .i64 x.no, .int .u64 (x.v : Int), .int .u64 (x.g 0 : Int), .int .u64 (x.g 1 : Int), .int .u64 (x.g 2 : Int), .int .u64 (x.g 3 : Int), .int .u64 (x.g 4 : Int), .int .u64 (x.g 5 : Int)] 25))
  have B5 : Hid (Below w.heap.size w (w4.alloc (.cells #[.int .i64 x.no, .int .u64 (x.v : Int), .int .u64 (x.g 0 : Int), .int .u64 (x.g 1 : Int), .int .u64 (x.g 2 : Int), .int .u64 (x.g 3 : Int), .int .u64 (x.g 4 : Int), .int .u64 (x.g 5 : Int)] 25))) := bthen B4.out (balloc _ _)
  obtain ⟨x0, x1, x2, x3, x4, x5, x6, x7⟩ := gp_cells X5
  obtain ⟨y0, y1, y2, y3, y4, y5, y6, y7⟩ := gp_cells Y5
  obtain ⟨z0, z1, z2, z3, z4, z5, z6, z7⟩ := gp_cells Z5
  go_wp2_with fail
  refine (fresh_any _ _).mono ?_; rintro e w6 ⟨rfl, b6⟩
  have B6 : Hid (Below w.heap.size w w6) := bthen B5.out b6
  clear b6
  go_wp2_with fail
  refine (awake_any _ (HE.out.below B6.out)).mono ?_; rintro e w7 ⟨rfl, b7⟩
  have B7 : Hid (Below w.heap.size w w7) := bthen B6.out b7
  clear b7
  go_wp2
  go_ret
  exact ⟨rfl, B7.out⟩
theorem gets_law (w : World) (A : Option Addr) (n c : Nat) (xs : List UInt8) (hc : n ≤ c) (hm : c ≤ maxLen) (ho : Oct w A n xs) (A2 : Option Addr) (n2 c2 : Nat) (xs2 : List UInt8) (hc2 : n2 ≤ c2) (hm2 : c2 ≤ maxLen) (ho2 : Oct w A2 n2 xs2) (k : Int) (hk : (Lit.int .i64 k).wf = true) (he : Env w) :
    Calls Tryd.prog 4 #[.slice A n c, .slice A2 n2 c2, .int .i64 k] w fun e w' => e = .returned (.bool true) ∧ Below w.heap.size w w' := by
  obtain ⟨m, ys, hm1, _, _, hy⟩ := first70 ho
  obtain ⟨m2, zs, hm3, _, _, hz⟩ := first70 ho2
  obtain ⟨p, E, h1⟩ := gway_some ys k
  obtain ⟨q, F, h2⟩ := gway_some zs k
  obtain ⟨x, i, ok, hN⟩ := nway_some (gway_facts h1) (gway_facts h2)
  exact gets_walk A A2 n c n2 c2 m m2 ys zs k w hm1 hm3 hc hc2 hy hz he p q x E F i ok h1 h2 hN
end Go.Proofs.YthclgehifomkhaaDoor.W
