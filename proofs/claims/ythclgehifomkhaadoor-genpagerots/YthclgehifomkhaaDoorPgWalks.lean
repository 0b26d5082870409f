/-
  Contracts of the calls of page, and of the reference's. No conditions.
-/
import Derived.Test.YthclgehifomkhaaDoorPgNum
import Derived.Deep.RegionHeld
import Derived.Deep.DrawnRows
import Derived.RegionTactic
import Derived.BigRegion
namespace Go.Proofs.YthclgehifomkhaaDoor.W
open Go.RowKit Oc
set_option linter.unusedVariables false


theorem kind_yes (k : Int) (w : World) (h : Right k) : Calls Tryd.prog 30 #[.int .i64 k] w fun e w' => e = .returned (.bool true) ∧ w = w' := by
  obtain ⟨h1, h2⟩ := h
  go_enter Tryd.func30, Tryd.ntmps30
  go_wp2
  go_ret
  exact ⟨rfl, rfl⟩
theorem kind_no (k : Int) (w : World) (h : ¬ Right k) : Calls Tryd.prog 30 #[.int .i64 k] w fun e w' => e = .returned (.bool false) ∧ w = w' := by
  unfold Right at h
  by_cases h1 : 1 ≤ k
  · have h2 : ¬ k ≤ 7 := fun h2 => h ⟨h1, h2⟩
    clear h
    go_enter Tryd.func30, Tryd.ntmps30
    go_wp2
    go_ret
    exact ⟨rfl, rfl⟩
  · clear h
    go_enter Tryd.func30, Tryd.ntmps30
    go_wp2
    go_ret
    exact ⟨rfl, rfl⟩
theorem rright_yes (k : Int) (w : World) (h : Right k) : Calls Tryd.prog 32 #[.int .i64 k] w fun e w' => e = .returned (.bool true) ∧ w = w' := by
  obtain ⟨h1, h2⟩ := h
  go_enter Tryd.func32, Tryd.ntmps32
  go_wp2
  go_ret
  exact ⟨rfl, rfl⟩
theorem rright_no (k : Int) (w : World) (h : ¬ Right k) : Calls Tryd.prog 32 #[.int .i64 k] w fun e w' => e = .returned (.bool false) ∧ w = w' := by
  unfold Right at h
  by_cases h1 : 1 ≤ k
  · have h2 : ¬ k ≤ 7 := fun h2 => h ⟨h1, h2⟩
    clear h
    go_enter Tryd.func32, Tryd.ntmps32
    go_wp2
    go_ret
    exact ⟨rfl, rfl⟩
  · clear h
    go_enter Tryd.func32, Tryd.ntmps32
    go_wp2
    go_ret
    exact ⟨rfl, rfl⟩

/-- what a call leaves that puts a page -/
def PTold (w : World) (k : Int) (ps : List UInt8) (e : Ending) (w' : World) : Prop := ∃ v, e = .returned (.tuple #[v, .int .i64 (putE k ps.length)]) ∧ Own w' 5 w.heap.size v (putL k ps) ∧ Below w.heap.size w w'
theorem ptold_no {w w' : World} {k : Int} {ps : List UInt8} {z : Int} (h : putE k ps.length = z) (hz : z ≠ 0) (hb : Below w.heap.size w w') : PTold w k ps (.returned (.tuple #[.slice none 0 0, .int .i64 z])) w' := by
  subst h
  refine ⟨_, rfl, ?_, hb⟩
  rw [putL_no hz]
  exact Own.nil _ _ _
theorem ptold_ok {w w' : World} {k : Nat} {ps xs : List UInt8} {v : Value} (hk : Right (k : Int)) (hn : ps.length ≤ 58) (hx : xs = body k ps) (ho : Own w' 5 w.heap.size v (sealed xs)) (hb : Below w.heap.size w w') : PTold w k ps (.returned (.tuple #[v, .int .i64 0])) w' := by
  refine ⟨v, by rw [putE_ok hk hn], ?_, hb⟩
  rw [putL_ok hk hn, ← hx]
  exact ho

theorem body_made (k : Nat) (ps : List UInt8) (hn : ps.length ≤ 58) : (((List.replicate 60 (0 : UInt8)).set 0 213).set 1 (UInt8.ofNat k)).take 2 ++ (ps ++ (((List.replicate 60 (0 : UInt8)).set 0 213).set 1 (UInt8.ofNat k)).drop (2 + ps.length)) = body k ps := by
  have e : ((List.replicate 60 (0 : UInt8)).set 0 213).set 1 (UInt8.ofNat k) = 213 :: UInt8.ofNat k :: List.replicate 58 0 := rfl
  rw [e, Nat.add_comm 2]
  show 213 :: UInt8.ofNat k :: (ps ++ (List.replicate 58 (0 : UInt8)).drop ps.length) = body k ps
  rw [List.drop_replicate]
  rfl

theorem below_two {w w1 : World} (h : Below w.heap.size w w1) {i j : Nat} {u v : Value} : Below w.heap.size w ((w1.setCell ⟨w.heap.size, i, none⟩ u).setCell ⟨w.heap.size, j, none⟩ v) :=
  (h.grown (grown_set w1 w.heap.size i u) h.size fun g e => by injection e with e; omega).grown (grown_set _ w.heap.size j v) (by rw [World.size_setCell]; exact h.size) fun g e => by injection e with e; omega
theorem oct_two {w w1 : World} {A : Option Addr} {n : Nat} {xs : List UInt8} (h : Oct w A n xs) (hb : Below w.heap.size w w1) {i j : Nat} {u v : Value} : Oct ((w1.setCell ⟨w.heap.size, i, none⟩ u).setCell ⟨w.heap.size, j, none⟩ v) A n xs := h.below (below_two hb)

set_option maxHeartbeats 1000000 in
theorem pput_any (A : Option Addr) (n c : Nat) (ps : List UInt8) (k : Int) (w : World) (hn : n ≤ 1000000) (ho : Oct w A n ps) (he : Env w) :
    Calls Tryd.prog 19 #[.int .i64 k, .slice A n c] w (PTold w k ps) := by
  have HO := Lib.hid ho
  have HE := Lib.hid he
  have hl := ho.len
  by_cases hk : Right k
  · by_cases h58 : 58 < n
    · have hq := Lib.hid (putE_long hk (n := ps.length) (by omega))
      have HK := Lib.hid hk
      clear ho he hl hk
      go_enter Tryd.func19, Tryd.ntmps19
      go_wp2_with fail
      refine (kind_yes k _ HK.out).mono ?_; rintro e w' ⟨rfl, rfl⟩
      go_wp2
      go_ret2
      exact ptold_no hq.out (by decide) (Below.refl _ _)
    · obtain ⟨κ, rfl⟩ : ∃ κ : Nat, k = (κ : Int) := ⟨k.toNat, by unfold Right at hk; omega⟩
      have hκ : κ ≤ 7 := by unfold Right at hk; omega
      have HK := Lib.hid hk
      have HL := Lib.hid hl
      have HN : Hid (ps.length ≤ 58) := by show _ ≤ _; omega
      have HB := Lib.hid (body_made κ ps HN.out)
      clear ho he hl hk
      go_enter Tryd.func19, Tryd.ntmps19
      go_wp2_with fail
      refine (kind_yes _ _ HK.out).mono ?_; rintro e w' ⟨rfl, rfl⟩
      have hκb : (κ : Int) = ((UInt8.ofNat κ).toNat : Int) := by simp; omega
      have HKB := Lib.hid hκb
      clear hκb
      go_wp2_with (first
        | (at_make; refine wpList_make_zero rfl _ _ 26 rfl bt 60 60 60 rfl rfl rfl rfl (by omega) ?_; intro w1 o1 b1; have c0 := own_at (j := 0) o1 (by rw [List.length_replicate]) (by omega); have c1 := own_at (j := 1) o1 (by rw [List.length_replicate]) (by omega); obtain ⟨⟨z0, d0⟩, f0⟩ := c0; obtain ⟨⟨z1, d1⟩, f1⟩ := c1; have O1 := Lib.hid o1; have B1 := Lib.hid b1; clear o1 b1)
        | ((with_reducible apply wpList_copy_at w bt); (case hd => rfl); (case hs => rfl); (case hdl => rfl); (case hown => exact (own_set (own_set O1.out (by rw [List.length_replicate]) 0 213 rfl).1 (by rw [List.length_set, List.length_replicate]) 1 (UInt8.ofNat κ) HKB.out).1); (case hxl => rw [List.length_set, List.length_set, List.length_replicate]); (case hb => exact below_two B1.out); (case hr => exact oct_two HO.out B1.out); (case hle => omega); intro w2 o2 b2; rw [← HL.out, HB.out] at o2; obtain ⟨A3, c3, hv3, l3, s3⟩ := o2.form (n := 60) (body_length κ ps HN.out); injection hv3 with hv3 hv4 hv5; have S2 := Lib.hid s3; have B2 := Lib.hid b2; have HA := Lib.hid hv3; clear o2 b2 s3 l3 hv3 hv4 hv5))
      refine (seal_any _ _ _ (body κ ps) _ (by omega) (by rw [HA.out]; exact S2.out) (HE.out.below B2.out)).mono ?_; rintro e w3 ⟨v3, rfl, o3, b3⟩
      have O3 := Lib.hid (o3.more B2.out.size)
      have B3 := Lib.hid (bthen B2.out b3)
      clear o3 b3
      go_wp2
      go_ret2
      exact ptold_ok HK.out HN.out rfl O3.out B3.out
  · have hq := Lib.hid (putE_arg hk ps.length)
    have HK := Lib.hid hk
    clear ho he hl hk
    go_enter Tryd.func19, Tryd.ntmps19
    go_wp2_with fail
    refine (kind_no k _ HK.out).mono ?_; rintro e w' ⟨rfl, rfl⟩
    go_wp2
    go_ret2
    exact ptold_no hq.out (by decide) (Below.refl _ _)
end Go.Proofs.YthclgehifomkhaaDoor.W
