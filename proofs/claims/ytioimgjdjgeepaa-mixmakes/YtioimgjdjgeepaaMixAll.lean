/-
  Contracts of mix.Pick and mix.All, and of the reference's. No conditions.
-/
import Derived.Test.YtioimgjdjgeepaaMixWalks
import Derived.Test.YtioimgjdjgeepaaRowMem
import Derived.RegionTactic
import Derived.Deep.QuietTactic
namespace Go.Proofs.Ytioimgjdjgeepaa.W
open Go.RowKit Mx Rw
set_option linter.unusedVariables false

theorem seed_at (s : Nat) (k : Int) : IntKind.u64.wrap ((s : Int) + IntKind.u64.wrap k) = ((seedAt s k : Nat) : Int) := by
  rw [IntKind.wrap_u64, IntKind.wrap_u64]
  unfold seedAt
  omega
theorem rest_at {r m : Nat} (h1 : 1 ≤ m) (h2 : m ≤ 9223372036854775807) : wrap64 ((r : Int) % (m : Int)) = ((r % m : Nat) : Int) := by
  have h3 := Nat.mod_lt r (by omega : m > 0)
  rw [← Int.natCast_emod]
  generalize r % m = q at h3
  unfold wrap64
  omega
theorem pick_in {s n a r m : Nat} {k p : Int} (h1 : 1 ≤ m) (ha : seedAt s k = a) (hr : of a n = r) (hp : pick s n k (m : Int) = p) : ((r % m : Nat) : Int) = p := by
  rw [← hp, pick, if_neg (by omega), ha, hr, Int.toNat_natCast]
theorem pick_any (s n : Nat) (k most p : Int) (w : World) (h2 : most ≤ 9223372036854775807) (hp : pick s n k most = p) :
    Calls Try.prog 10 #[.int .u64 (s : Int), .int .u64 (n : Int), .int .i64 k, .int .i64 most] w fun e w' => e = .returned (.int .i64 p) ∧ w = w' := by
  by_cases h1 : most < 1
  · rw [pick, if_pos h1] at hp
    subst hp
    go_enter Try.func10, Try.ntmps10
    go_wp2
    go_ret
    exact ⟨rfl, rfl⟩
  · obtain ⟨m, rfl⟩ := Int.eq_ofNat_of_zero_le (show 0 ≤ most by omega)
    have m1 : 1 ≤ m := by omega
    have m2 : m ≤ 9223372036854775807 := by omega
    clear h1 h2
    obtain ⟨a, ha⟩ : ∃ a, seedAt s k = a := ⟨_, rfl⟩
    obtain ⟨r, hr⟩ : ∃ r, of a n = r := ⟨_, rfl⟩
    have e1 := seed_at s k
    rw [ha] at e1
    have e2 := rest_at (r := r) m1 m2
    rw [pick_in m1 ha hr hp] at e2
    have HR := Lib.hid hr
    have E2 := Lib.hid e2
    clear ha hr hp e2
    go_enter Try.func10, Try.ntmps10
    go_wp2_with fail
    refine (of_any a n r _ HR.out).mono ?_; rintro e w' ⟨rfl, rfl⟩
    go_wp2
    go_ret
    exact ⟨ret_int E2.out, rfl⟩
theorem rpick_any (s n : Nat) (k most p : Int) (w : World) (h2 : most ≤ 9223372036854775807) (hp : pick s n k most = p) :
    Calls Try.prog 11 #[.int .u64 (s : Int), .int .u64 (n : Int), .int .i64 k, .int .i64 most] w fun e w' => e = .returned (.int .i64 p) ∧ w = w' := by
  by_cases h1 : most < 1
  · rw [pick, if_pos h1] at hp
    subst hp
    go_enter Try.func11, Try.ntmps11
    go_wp2
    go_ret
    exact ⟨rfl, rfl⟩
  · obtain ⟨m, rfl⟩ := Int.eq_ofNat_of_zero_le (show 0 ≤ most by omega)
    have m1 : 1 ≤ m := by omega
    have m2 : m ≤ 9223372036854775807 := by omega
    clear h1 h2
    obtain ⟨a, ha⟩ : ∃ a, seedAt s k = a := ⟨_, rfl⟩
    obtain ⟨r, hr⟩ : ∃ r, of a n = r := ⟨_, rfl⟩
    have e1 := seed_at s k
    rw [ha] at e1
    have e2 := rest_at (r := r) m1 m2
    rw [pick_in m1 ha hr hp] at e2
    have HR := Lib.hid hr
    have E2 := Lib.hid e2
    clear ha hr hp e2
    go_enter Try.func11, Try.ntmps11
    go_wp2_with fail
    refine (rof_any a n r _ HR.out).mono ?_; rintro e w' ⟨rfl, rfl⟩
    go_wp2
    go_ret
    exact ⟨ret_int E2.out, rfl⟩

/-- the first picks -/
def picks (s n : Nat) (most : Int) (c : Nat) : List Value := (List.range c).map fun k : Nat => Value.int .i64 (pick s n (k : Int) most)
theorem picks_len (s n : Nat) (most : Int) (c : Nat) : (picks s n most c).length = c := by simp [picks]
theorem picks_succ (s n : Nat) (most : Int) (c : Nat) : picks s n most (c + 1) = picks s n most c ++ [Value.int .i64 (pick s n (c : Int) most)] := by
  unfold picks; rw [List.range_succ, List.map_append]; rfl
theorem picks_set (s n : Nat) (most : Int) (c j : Nat) (z : Value) (h : j < c) : (picks s n most j ++ List.replicate (c - j) z).set j (Value.int .i64 (pick s n (j : Int) most)) = picks s n most (j + 1) ++ List.replicate (c - (j + 1)) z := by
  have e : c - j = (c - (j + 1)) + 1 := by omega
  rw [e, List.replicate_succ, List.set_append_right _ _ (by rw [picks_len]; exact Nat.le_refl _), picks_len, Nat.sub_self, List.set_cons_zero, picks_succ, List.append_assoc]
  rfl
theorem picks_at (s n : Nat) (most : Int) (c j : Nat) (z : Value) (h : j < c) : ∃ u, (picks s n most j ++ List.replicate (c - j) z)[j]? = some u := by
  refine ⟨z, ?_⟩
  rw [List.getElem?_append_right (by rw [picks_len]; exact Nat.le_refl _), picks_len, Nat.sub_self, List.getElem?_replicate, if_pos (by omega)]
/-- how many -/
def count (many : Int) : Nat := (min (max many 0) 64).toNat

theorem it : ElTy Try.prog 29 3 (.int .i64 0) 8 := ⟨Try.underlying29, by kernel_rfl, rfl, by decide⟩
/-- what a call leaves that hands back numbers in new memory -/
def MadeV (w : World) (vs : List Value) (e : Ending) (w' : World) : Prop := ∃ v, e = .returned v ∧ OwnV w' 3 w.heap.size v vs ∧ Below w.heap.size w w'

set_option maxHeartbeats 2000000 in
theorem all_any (s n : Nat) (many most : Int) (c : Nat) (w : World) (h2 : most ≤ 9223372036854775807) (hc : count many = c) :
    Calls Try.prog 13 #[.int .u64 (s : Int), .int .u64 (n : Int), .int .i64 many, .int .i64 most] w (MadeV w (picks s n most c)) := by
  have HM := Lib.hid h2
  clear h2
  unfold count at hc
  by_cases k1 : many < 0
  · obtain rfl : c = 0 := by omega
    clear hc
    go_enter Try.func13, Try.ntmps13
    go_wp2_with (at_make; refine wpList_make_row rfl _ _ 29 rfl it _ _ 0 rfl rfl (by omega) (by omega) (by omega) ?_; intro w1 o1 b1; have O1 := Lib.hid o1; have B1 := Lib.hid b1; clear o1 b1)
    go_loopw [17] (fun q wr => ∃ j : Nat, j ≤ 0 ∧ q = .int .i64 (j : Int) ∧ Hid (OwnV wr 3 w.heap.size (.slice (some ⟨w.heap.size, 0, none⟩) 0 0) (picks s n most j ++ List.replicate (0 - j) (.int .i64 0))) ∧ Hid (Below w.heap.size w wr)) (fun q _ => 0 - (intOf q).toNat)
    case atStart => exact ⟨0, by omega, rfl, O1, B1⟩
    case round =>
      obtain ⟨j, hj, rfl, OJ, BJ⟩ := hrel
      by_cases hlt : j < 0
      · omega
      · have : j = 0 := by omega
        subst this
        go_wp2
        go_ret
        refine ⟨_, rfl, ?_, BJ.out⟩
        have := OJ.out
        rwa [Nat.sub_self, List.replicate_zero, List.append_nil] at this
  · by_cases k2 : 64 < many
    · obtain rfl : c = 64 := by omega
      clear hc
      go_enter Try.func13, Try.ntmps13
      go_wp2_with (at_make; refine wpList_make_row rfl _ _ 29 rfl it _ _ 64 rfl rfl (by omega) (by omega) (by omega) ?_; intro w1 o1 b1; have O1 := Lib.hid o1; have B1 := Lib.hid b1; clear o1 b1)
      go_loopw [17] (fun q wr => ∃ j : Nat, j ≤ 64 ∧ q = .int .i64 (j : Int) ∧ Hid (OwnV wr 3 w.heap.size (.slice (some ⟨w.heap.size, 0, none⟩) 64 64) (picks s n most j ++ List.replicate (64 - j) (.int .i64 0))) ∧ Hid (Below w.heap.size w wr)) (fun q _ => 64 - (intOf q).toNat)
      case atStart => exact ⟨0, by omega, rfl, O1, B1⟩
      case round =>
        obtain ⟨j, hj, rfl, OJ, BJ⟩ := hrel
        by_cases hlt : j < 64
        · have hl : (picks s n most j ++ List.replicate (64 - j) (Value.int .i64 0)).length = 64 := by rw [List.length_append, picks_len, List.length_replicate]; omega
          obtain ⟨u, hu⟩ := picks_at s n most 64 j (Value.int .i64 0) hlt
          obtain ⟨hcell, hfr⟩ := OJ.out.cell hl hu
          have HL := Lib.hid hl
          clear hl hu
          obtain ⟨p, hp⟩ : ∃ p, pick s n (j : Int) most = p := ⟨_, rfl⟩
          have HP := Lib.hid hp
          clear hp
          go_wp2_with fail
          refine (pick_any s n _ most p _ HM.out HP.out).mono ?_; rintro e w' ⟨rfl, rfl⟩
          go_wp2
          go_roundw
          case rel =>
            obtain ⟨o2, g2⟩ := OJ.out.set (j := j) HL.out (.int .i64 p)
            refine ⟨j + 1, by omega, rfl, ?_, BJ.out.grown g2 BJ.out.size fun g' e => by injection e with e; omega⟩
            show OwnV _ _ _ _ _
            rw [← HP.out, picks_set _ _ _ _ _ _ hlt] at o2
            rw [← HP.out]
            exact o2
          case measure => simp [intOf]; omega
        · have : j = 64 := by omega
          subst this
          go_wp2
          go_ret
          refine ⟨_, rfl, ?_, BJ.out⟩
          have := OJ.out
          rwa [Nat.sub_self, List.replicate_zero, List.append_nil] at this
    · obtain rfl : many = (c : Int) := by omega
      clear hc k1
      go_enter Try.func13, Try.ntmps13
      go_wp2_with (at_make; refine wpList_make_row rfl _ _ 29 rfl it _ _ c rfl rfl (by omega) (by omega) (by omega) ?_; intro w1 o1 b1; have O1 := Lib.hid o1; have B1 := Lib.hid b1; clear o1 b1)
      go_loopw [17] (fun q wr => ∃ j : Nat, j ≤ c ∧ q = .int .i64 (j : Int) ∧ Hid (OwnV wr 3 w.heap.size (.slice (some ⟨w.heap.size, 0, none⟩) c c) (picks s n most j ++ List.replicate (c - j) (.int .i64 0))) ∧ Hid (Below w.heap.size w wr)) (fun q _ => c - (intOf q).toNat)
      case atStart => exact ⟨0, by omega, rfl, O1, B1⟩
      case round =>
        obtain ⟨j, hj, rfl, OJ, BJ⟩ := hrel
        by_cases hlt : j < c
        · have hl : (picks s n most j ++ List.replicate (c - j) (Value.int .i64 0)).length = c := by rw [List.length_append, picks_len, List.length_replicate]; omega
          obtain ⟨u, hu⟩ := picks_at s n most c j (Value.int .i64 0) hlt
          obtain ⟨hcell, hfr⟩ := OJ.out.cell hl hu
          have HL := Lib.hid hl
          clear hl hu
          obtain ⟨p, hp⟩ : ∃ p, pick s n (j : Int) most = p := ⟨_, rfl⟩
          have HP := Lib.hid hp
          clear hp
          go_wp2_with fail
          refine (pick_any s n _ most p _ HM.out HP.out).mono ?_; rintro e w' ⟨rfl, rfl⟩
          go_wp2
          go_roundw
          case rel =>
            obtain ⟨o2, g2⟩ := OJ.out.set (j := j) HL.out (.int .i64 p)
            refine ⟨j + 1, by omega, rfl, ?_, BJ.out.grown g2 BJ.out.size fun g' e => by injection e with e; omega⟩
            show OwnV _ _ _ _ _
            rw [← HP.out, picks_set _ _ _ _ _ _ hlt] at o2
            rw [← HP.out]
            exact o2
          case measure => simp [intOf]; omega
        · have : j = c := by omega
          subst this
          go_wp2
          go_ret
          refine ⟨_, rfl, ?_, BJ.out⟩
          have := OJ.out
          rwa [Nat.sub_self, List.replicate_zero, List.append_nil] at this

set_option maxHeartbeats 2000000 in
theorem rall_any (s n : Nat) (many most : Int) (c : Nat) (w : World) (h2 : most ≤ 9223372036854775807) (hc : count many = c) :
    Calls Try.prog 14 #[.int .u64 (s : Int), .int .u64 (n : Int), .int .i64 many, .int .i64 most] w (MadeV w (picks s n most c)) := by
  have HM := Lib.hid h2
  have HC := Lib.hid hc
  clear h2 hc
  go_enter Try.func14, Try.ntmps14
  go_wp2
  go_loopw [9, 10] (fun v q wr => ∃ j : Nat, j ≤ c ∧ q = .int .i64 (j : Int) ∧ Hid (OwnV wr 3 w.heap.size v (picks s n most j)) ∧ Hid (Below w.heap.size w wr)) (fun _ q _ => c - (intOf q).toNat)
  case atStart => exact ⟨0, by omega, rfl, OwnV.nil _ _ _, Below.refl _ _⟩
  case round =>
    obtain ⟨j, hj, rfl, OJ, BJ⟩ := hrel
    by_cases hlt : j < c
    · have h1 : (j : Int) < many := by have := HC.out; unfold count at this; omega
      have h64 : j < 64 := by have := HC.out; unfold count at this; omega
      obtain ⟨p, hp⟩ : ∃ p, pick s n (j : Int) most = p := ⟨_, rfl⟩
      have HP := Lib.hid hp
      have HL := Lib.hid (picks_len s n most j)
      clear hp
      go_wp2_with fail
      refine (rpick_any s n _ most p _ HM.out HP.out).mono ?_; rintro e w' ⟨rfl, rfl⟩
      go_wp2_with (at_builtin; refine wpList_append_one rfl _ _ 29 rfl it rfl OJ.out BJ.out _ rfl rfl (by rw [HL.out]; omega) ?_; intro v2 w2 o2 b2; have O2 := Lib.hid o2; have B2 := Lib.hid b2; clear o2 b2)
      go_roundw
      case rel => exact ⟨j + 1, by omega, rfl, by show OwnV _ _ _ _ _; rw [picks_succ, HP.out]; exact O2.out, B2⟩
      case measure => simp [intOf]; omega
    · have : j = c := by omega
      subst this
      by_cases h1 : (j : Int) < many
      · have h64 : j = 64 := by have := HC.out; unfold count at this; omega
        subst h64
        go_wp2
        go_ret
        exact ⟨_, rfl, OJ.out, BJ.out⟩
      · go_wp2
        go_ret
        exact ⟨_, rfl, OJ.out, BJ.out⟩

theorem below_drewN {B : Nat} {a w : World} (h : Below B a w) (n : Nat) : Below B a (w.drewN n) := ⟨h.os, h.tape, h.output, h.size, h.block⟩
/-- rows that are alike are told so -/
theorem same_yes (A A2 : Option Addr) (n c c2 : Nat) (zs : List Int) (w : World) (hn : n ≤ 1000000000) (h1 : Sl w A n (zs.map (Value.int .i64))) (h2 : Sl w A2 n (zs.map (Value.int .i64))) :
    Calls Try.prog 12 #[.slice A n c, .slice A2 n c2] w fun e w' => e = .returned (.bool true) ∧ ∀ B, Below B w w' := by
  have H1 := Lib.hid h1
  have H2 := Lib.hid h2
  clear h1 h2
  go_enter Try.func12, Try.ntmps12
  go_wp2
  go_loopw [5] (fun q wr => ∃ j : Nat, j ≤ n ∧ q = .int .i64 (j : Int) ∧ Hid (∃ m, wr = w.drewN m)) (fun q _ => n - (intOf q).toNat)
  case atStart => exact ⟨0, by omega, rfl, 0, rfl⟩
  case round =>
    obtain ⟨j, hj, rfl, HD⟩ := hrel
    obtain ⟨m, rfl⟩ := HD.out
    by_cases hlt : j < n
    · obtain ⟨z, hz⟩ : ∃ z, zs[j]? = some z := ⟨_, List.getElem?_eq_getElem (by have := H1.out.len; rw [List.length_map] at this; omega)⟩
      have hz2 : (zs.map (Value.int .i64))[j]? = some (Value.int .i64 z) := by rw [List.getElem?_map, hz]; rfl
      obtain ⟨b, off, rfl, hcell⟩ := H1.out.at_ hz2
      obtain ⟨b2, off2, rfl, hcell2⟩ := H2.out.at_ hz2
      clear hz hz2
      go_wp2
      go_quiet (fail)
      go_wp2
      go_roundw
      case rel => exact ⟨j + 1, by omega, rfl, _, rfl⟩
      case measure => simp [intOf]; omega
    · have : j = n := by omega
      subst this
      go_wp2
      go_ret
      exact ⟨rfl, fun B => below_drewN (Below.refl B _) _⟩
end Go.Proofs.Ytioimgjdjgeepaa.W
