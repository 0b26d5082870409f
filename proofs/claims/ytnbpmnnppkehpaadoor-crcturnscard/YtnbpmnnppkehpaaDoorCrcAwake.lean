/-
  The page's examples hold; the first 200 octets. No conditions.
-/
import Derived.Test.YtnbpmnnppkehpaaDoorCrcTurn
import Derived.Lib.SlBytesConst
namespace Go.Proofs.YtnbpmnnppkehpaaDoor.W
open Go.RowKit Oc
set_option linter.unusedVariables false

theorem few_any (A : Option Addr) (n c m : Nat) (w : World) (hm : m = min n 200) (hc : n ≤ c) :
    Calls Tryd.prog 7 #[.slice A n c] w fun e w' => e = .returned (.slice A m c) ∧ w = w' := by
  by_cases h : n ≤ 200
  · have : m = n := by omega
    subst this
    clear hm
    go_enter Tryd.func7, Tryd.ntmps7
    go_wp2
    go_ret
    exact ⟨rfl, rfl⟩
  · have : m = 200 := by omega
    subst this
    clear hm
    go_enter Tryd.func7, Tryd.ntmps7
    go_wp2
    go_ret
    exact ⟨rfl, rfl⟩

/-- octets of a text that stands in the program: marked behind their last cell -/
theorem oct_marked (w : World) (e : TypeId) (fr : Nat × Nat) (xs : List UInt8) (cs : Array Value) (hc : cs = (xs.map ov).toArray) : Oct (w.alloc (.cells cs e fr)) (some ⟨w.heap.size, 0, none⟩) xs.length xs := by
  subst hc
  refine ⟨rfl, fun _ => ⟨_, _, rfl, fun j y hy => ?_⟩⟩
  rw [cell_of_row _ _ _ _ _ _ (heap_alloc_new w _)]
  simp [hy]

/-- the sum of one part, the row that holds it lying at b -/
theorem sum_here (A : Option Addr) (n c b : Nat) (xs : List UInt8) (r : Nat) (w : World) (hb : b = w.heap.size) (hn : n ≤ 1000000000) (ho : Oct w A n xs) (he : Env w) (hr : sum xs = r) :
    Calls Tryd.prog 9 #[.slice (some ⟨b, 0, none⟩) 1 1] (w.alloc (.cells #[.slice A n c] 22)) fun e w' => e = .returned (.int .u32 (r : Int)) ∧ w.alloc (.cells #[.slice A n c] 22) = w' := by
  subst hb
  exact sum_new A n c xs r w hn ho he hr
theorem sum_here2 (A A2 : Option Addr) (n n2 c c2 b : Nat) (xs ys : List UInt8) (r : Nat) (w : World) (hb : b = w.heap.size) (hn : n ≤ 1000000000) (hn2 : n2 ≤ 1000000000) (ho : Oct w A n xs) (ho2 : Oct w A2 n2 ys) (he : Env w) (hr : sum (xs ++ ys) = r) :
    Calls Tryd.prog 9 #[.slice (some ⟨b, 0, none⟩) 2 2] (w.alloc (.cells #[.slice A n c, .slice A2 n2 c2] 22)) fun e w' => e = .returned (.int .u32 (r : Int)) ∧ w.alloc (.cells #[.slice A n c, .slice A2 n2 c2] 22) = w' := by
  subst hb
  exact sum_new2 A A2 n n2 c c2 xs ys r w hn hn2 ho ho2 he hr
theorem nine : sum [49, 50, 51, 52, 53, 54, 55, 56, 57] = 3421780262 := by decide +kernel
set_option maxHeartbeats 400000 in
theorem awake_any (w : World) (he : Env w) : Calls Tryd.prog 13 #[] w fun e w' => e = .returned (.bool true) ∧ Below w.heap.size w w' := by
  have HE := Lib.hid he
  clear he
  have hs : (bstr (sealed [])).toList = [0, 0, 0, 0] := by decide +kernel
  obtain ⟨r, hr⟩ : ∃ r, sum [49, 50, 51, 52, 53, 54, 55, 56, 57] = r := ⟨_, rfl⟩
  have hz : (r : Int) = 3421780262 := by have := nine; omega
  have HQ := Lib.hid hr
  clear hr
  go_enter Tryd.func13, Tryd.ntmps13
  have hcv := Lib.run_convert_bytes_const (P := Tryd.prog) w 22 5 #[.int .u8 49, .int .u8 50, .int .u8 51, .int .u8 52, .int .u8 53, .int .u8 54, .int .u8 55, .int .u8 56, .int .u8 57] 9 9 bt.sl bt.u8
  go_wp2_with fail
  refine (sum_here _ 9 _ _ [49, 50, 51, 52, 53, 54, 55, 56, 57] r _ (by simp) (by omega) (oct_marked w _ _ [49, 50, 51, 52, 53, 54, 55, 56, 57] _ rfl) (HE.out.alloc _) HQ.out).mono ?_; rintro e w1 ⟨rfl, rfl⟩
  go_wp2_with fail
  refine (seal_any none 0 0 [] _ (by omega) (Oct.nil _ _) ((HE.out.alloc _).alloc _)).mono ?_; rintro e w2 ⟨v, rfl, o, b⟩
  obtain ⟨A3, c3, rfl, l3, s3⟩ := o.form (n := 4) (seal_length [])
  have cv := s3.conv bt Tryd.underlying9 c3
  have B := Lib.hid b
  clear o b s3 l3
  go_wp2
  go_ret
  exact ⟨rfl, bthen (bthen (balloc _ _) (balloc _ _)) B.out⟩
end Go.Proofs.YtnbpmnnppkehpaaDoor.W
