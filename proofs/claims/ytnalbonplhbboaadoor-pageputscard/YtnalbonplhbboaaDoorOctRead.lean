/-
  Contracts of the small functions of octet: fits, few, Bad, Left, Done, spoil. No conditions.
-/
import Derived.Test.YtnalbonplhbboaaDoorOctMem
import Derived.Test.YtnalbonplhbboaaDoorProg
import Derived.IntWalk
namespace Go.Proofs.YtnalbonplhbboaaDoor.W
open Go.RowKit Oc

theorem bt : ByteTy Tryd.prog 22 5 := ⟨Tryd.underlying22, Tryd.underlying5, by kernel_rfl⟩

theorem fits_yes (k : Int) (w : World) (h1 : 1 ≤ k) (h2 : k ≤ 8) : Calls Tryd.prog 31 #[.int .i64 k] w fun e w' => e = .returned (.bool true) ∧ w = w' := by
  go_enter Tryd.func31, Tryd.ntmps31
  go_wp2
  go_ret
  exact ⟨rfl, rfl⟩
theorem fits_no (k : Int) (w : World) (h : ¬ (1 ≤ k ∧ k ≤ 8)) : Calls Tryd.prog 31 #[.int .i64 k] w fun e w' => e = .returned (.bool false) ∧ w = w' := by
  by_cases h1 : 1 ≤ k
  · have h2 : ¬ k ≤ 8 := fun h2 => h ⟨h1, h2⟩
    clear h
    go_enter Tryd.func31, Tryd.ntmps31
    go_wp2
    go_ret
    exact ⟨rfl, rfl⟩
  · clear h
    go_enter Tryd.func31, Tryd.ntmps31
    go_wp2
    go_ret
    exact ⟨rfl, rfl⟩

end Go.Proofs.YtnalbonplhbboaaDoor.W
