/-
  Contracts of the small functions of octet: fits, few, Bad, Left, Done, spoil. No conditions.
-/
import Derived.Test.YthclgehifomkhaaDoorOctMem
import Derived.Test.YthclgehifomkhaaDoorProg
import Derived.IntWalk
namespace Go.Proofs.YthclgehifomkhaaDoor.W
open Go.RowKit Oc

theorem bt : ByteTy Tryd.prog 26 5 := ⟨Tryd.underlying26, Tryd.underlying5, by kernel_rfl⟩

theorem fits_yes (k : Int) (w : World) (h1 : 1 ≤ k) (h2 : k ≤ 8) : Calls Tryd.prog 29 #[.int .i64 k] w fun e w' => e = .returned (.bool true) ∧ w = w' := by
  go_enter Tryd.func29, Tryd.ntmps29
  go_wp2
  go_ret
  exact ⟨rfl, rfl⟩
theorem fits_no (k : Int) (w : World) (h : ¬ (1 ≤ k ∧ k ≤ 8)) : Calls Tryd.prog 29 #[.int .i64 k] w fun e w' => e = .returned (.bool false) ∧ w = w' := by
  by_cases h1 : 1 ≤ k
  · have h2 : ¬ k ≤ 8 := fun h2 => h ⟨h1, h2⟩
    clear h
    go_enter Tryd.func29, Tryd.ntmps29
    go_wp2
    go_ret
    exact ⟨rfl, rfl⟩
  · clear h
    go_enter Tryd.func29, Tryd.ntmps29
    go_wp2
    go_ret
    exact ⟨rfl, rfl⟩

theorem bad_nil (w : World) : Calls Tryd.prog 42 #[.pointer none] w fun e w' => e = .returned (.bool true) ∧ w = w' := by
  go_enter Tryd.func42, Tryd.ntmps42
  go_wp2
  go_ret
  exact ⟨rfl, rfl⟩
theorem bad_any (R : Nat) (u : Value) (g : Bool) (w : World) (h : w.heap[R]? = some (.cells #[u, .bool g] 62 (0, 0))) :
    Calls Tryd.prog 42 #[.pointer (some ⟨R, 0, none⟩)] w fun e w' => e = .returned (.bool (!g)) ∧ w = w' := by
  obtain ⟨c0, c1, f0, f1⟩ := pair_cell h
  have H := Lib.hid h
  clear h f0 f1 c0
  go_enter Tryd.func42, Tryd.ntmps42
  go_wp2
  go_ret
  exact ⟨rfl, rfl⟩
end Go.Proofs.YthclgehifomkhaaDoor.W
