/-
  Fates made to fit. No conditions.
-/
import Derived.Test.YtdkniholeaiemaaDvRloose
namespace Go.Proofs.Ytdkniholeaiemaa.W
open Go.RowKit Oc Dm Gt
set_option linter.unusedVariables false
set_option maxRecDepth 100000
theorem itt : Rw.ElTy Try.prog 29 3 (.int .i64 0) 8 := ⟨Try.underlying29, by kernel_rfl, rfl, by decide⟩
/-- one fate that fits -/
def fit1 (f : Int) (m : Nat) : Int := ((f.tmod ((m : Int) + 1)).natAbs : Int)
theorem fit1_le (f : Int) (m : Nat) : 0 ≤ fit1 f m ∧ fit1 f m ≤ (m : Int) := by
  unfold fit1
  refine ⟨Int.natCast_nonneg _, ?_⟩
  have h1 : (f.tmod ((m : Int) + 1)).natAbs = f.natAbs % (m + 1) := by
    have := Int.natAbs_tmod f ((m : Int) + 1)
    rw [this]
    congr 1
  have h2 : f.natAbs % (m + 1) < m + 1 := Nat.mod_lt _ (by omega)
  omega
def fitOf (ps : List (Nat × Nat)) (fs : List Int) (k : Nat) : List Int := ((List.range k).map fun j => fit1 (fs.getD j 0) (ps.getD j (0, 0)).2)
theorem fitOf_len (ps : List (Nat × Nat)) (fs : List Int) (k : Nat) : (fitOf ps fs k).length = k := by simp [fitOf]
theorem fitOf_step (ps : List (Nat × Nat)) (fs : List Int) (k : Nat) : fitOf ps fs (k + 1) = fitOf ps fs k ++ [fit1 (fs.getD k 0) (ps.getD k (0, 0)).2] := by simp [fitOf, List.range_succ]
theorem fitOf_good (ps : List (Nat × Nat)) (fs : List Int) (k j : Nat) : Good ps (fitOf ps fs k) j := by
  intro f x hf hx
  unfold fitOf at hf
  rw [List.getElem?_map] at hf
  obtain ⟨i, hi, rfl⟩ := Option.map_eq_some_iff.1 hf
  have : i = j := by
    have := List.getElem?_eq_some_iff.1 hi
    obtain ⟨h1, h2⟩ := this
    simpa using h2.symm
  subst this
  have e : ps.getD i (0, 0) = x := by simp [List.getD, hx]
  rw [e]
  exact fit1_le _ _
/-- what Fit tells -/
def Fitted (w : World) (fs : List Int) (e : Ending) (w' : World) : Prop := ∃ A c, e = .returned (.slice A fs.length c) ∧ Fi w' A fs.length fs ∧ Below w.heap.size w w'
theorem fit_any (w : World) (A B : Option Addr) (k c l c2 : Nat) (ps : List (Nat × Nat)) (fs : List Int) (hp : Lo w A k ps) (hf : Fi w B l fs) (hk : k ≤ 4096) (hm : ∀ x ∈ ps, x.2 ≤ 1000000000) (hl9 : l ≤ 9223372036854775807) :
    Calls Try.prog 13 #[.slice A k c, .slice B l c2] w (Fitted w (fitOf ps fs (min l k))) := by
  have HP := Lib.hid hp
  have HF := Lib.hid hf
  have HM := Lib.hid hm
  have hk2 := hp.1
  clear hp hf hm
  go_enter Try.func13, Try.ntmps13
  go_wp2
  go_loopw [5, 6] (fun v p wr => ∃ j : Nat, j ≤ l ∧ j ≤ k ∧ p = .int .i64 (j : Int) ∧ Hid (Rw.OwnV wr 3 w.heap.size v ((fitOf ps fs j).map (Value.int .i64))) ∧ Hid (Below w.heap.size w wr)) (fun _ p _ => k - (intOf p).toNat)
  case atStart => exact ⟨0, Nat.zero_le _, Nat.zero_le _, rfl, Rw.OwnV.nil _ _ _, Below.refl _ _⟩
  case round =>
    obtain ⟨j, hj, hj2, rfl, OJ, BJ⟩ := hrel
    have hcase : (j < l ∧ j < k) ∨ (l ≤ j) ∨ (j < l ∧ k ≤ j) := by omega
    rcases hcase with ⟨h1, h2⟩ | hend
    · have hfl := HF.out.len
      obtain ⟨f, hf⟩ : ∃ f, fs[j]? = some f := ⟨_, List.getElem?_eq_getElem (by omega)⟩
      obtain ⟨x, hx⟩ : ∃ x, ps[j]? = some x := ⟨_, List.getElem?_eq_getElem (by omega)⟩
      obtain ⟨b1, o1, rfl, cf⟩ := (HF.out.below BJ.out).at_ hf
      obtain ⟨b2, rfl, _, cx⟩ := (HP.out.below BJ.out).at_ hx
      have hx9 := HM.out x (List.mem_of_getElem? hx)
      have ST := Lib.hid (fitOf_step ps fs j)
      rw [show fs.getD j 0 = f by simp [List.getD, hf], show (ps.getD j (0, 0)).2 = x.2 by simp [List.getD, hx]] at ST
      have hj3 : (j : Int) < (l : Int) := by omega
      have hj4 : (j : Int) < (k : Int) := by omega
      have LEN := Lib.hid (fitOf_len ps fs j)
      clear hf hx hfl
      obtain ⟨x1, m⟩ := x
      dsimp only at cx hx9 ST
      have hm1 : ¬ ((m : Int) + 1 = 0) := by omega
      obtain ⟨t, ht⟩ : ∃ t, f.tmod ((m : Int) + 1) = t := ⟨_, rfl⟩
      have hb := fit1_le f m
      have ef : fit1 f m = (t.natAbs : Int) := by rw [fit1, ht]
      rw [ef] at hb ST
      by_cases htn : t < 0
      · have hneg : 0 - t = (t.natAbs : Int) := by omega
        have hlow : -9223372036854775808 ≤ t := by omega
        generalize (t.natAbs : Int) = y at hneg ST hb
        clear ef
        go_wp2_with fail
        go_region
        go_wp2_with (at_builtin; refine Rw.wpList_append_one rfl _ _ 29 rfl itt rfl OJ.out BJ.out.drew _ rfl rfl (by rw [List.length_map, LEN.out]; omega) ?_; intro v2 w2 o2 b2; have O2 := Lib.hid o2; have B2 := Lib.hid b2; clear o2 b2)
        go_roundw
        case rel => exact ⟨j + 1, by omega, by omega, by go_num, by rw [ST.out, List.map_append]; exact O2, B2⟩
        case measure => simp [intOf]; omega
      · have hneg : (t.natAbs : Int) = t := by omega
        rw [hneg] at ST hb
        clear ef hneg
        go_wp2_with fail
        go_region
        go_wp2_with (at_builtin; refine Rw.wpList_append_one rfl _ _ 29 rfl itt rfl OJ.out BJ.out.drew _ rfl rfl (by rw [List.length_map, LEN.out]; omega) ?_; intro v2 w2 o2 b2; have O2 := Lib.hid o2; have B2 := Lib.hid b2; clear o2 b2)
        go_roundw
        case rel => exact ⟨j + 1, by omega, by omega, by go_num, by rw [ST.out, List.map_append]; exact O2, B2⟩
        case measure => simp [intOf]; omega
    · have HJM : Hid (min l k = j) := Lib.hid (by omega)
      have LEN : ((fitOf ps fs j).map (Value.int .i64)).length = (fitOf ps fs j).length := by simp
      obtain ⟨A2, c3, rfl, _, _, sl⟩ := OJ.out.form LEN
      have SL := Lib.hid sl
      clear sl LEN
      rcases hend with hend | ⟨hend, hend2⟩
      all_goals
        go_wp2
        go_ret
        rw [HJM.out]
        exact ⟨A2, c3, rfl, SL.out, BJ.out⟩
end Go.Proofs.Ytdkniholeaiemaa.W
