/-
  Contracts of octet.Put and of the reference's Num and Join: what each call returns, in new memory; nothing old turns. No conditions.
-/
import Derived.Test.YthclgehifomkhaaDoorOctAt
namespace Go.Proofs.YthclgehifomkhaaDoor.W
open Go.RowKit Oc
set_option linter.unusedVariables false

/-- what a call leaves that hands back octets in new memory -/
def Made (w : World) (xs : List UInt8) (e : Ending) (w' : World) : Prop := ∃ v, e = .returned v ∧ Own w' 5 w.heap.size v xs ∧ Below w.heap.size w w'

theorem byte_shr (N j : Nat) (h : N < 18446744073709551616) : IntKind.u8.wrap ((N : Int) / 2 ^ (8 * j)) = ((UInt8.ofNat (N / 256 ^ j)).toNat : Int) := by
  have e : (N : Int) / 2 ^ (8 * j) = ((N / 256 ^ j : Nat) : Int) := by rw [pow8, Int.natCast_ediv, Int.natCast_pow]; rfl
  rw [e, IntKind.wrap_u8']
  simp
theorem byte_mod (N : Nat) : (N : Int) % 256 = ((UInt8.ofNat N).toNat : Int) := by simp

set_option maxHeartbeats 1000000 in
theorem put_yes (A : Option Addr) (n c : Nat) (xs : List UInt8) (N k : Nat) (w : World) (hn : n ≤ 1000000000) (ho : Oct w A n xs) (hN : N < 18446744073709551616) (h1 : 1 ≤ k) (h8 : k ≤ 8) :
    Calls Tryd.prog 18 #[.slice A n c, .int .u64 (N : Int), .int .i64 (k : Int)] w (Made w (xs ++ octs N k)) := by
  have HO := Lib.hid ho
  have HN := Lib.hid hN
  have hxl := Lib.hid ho.len
  clear ho hN
  go_enter Tryd.func18, Tryd.ntmps18
  go_wp2_with fail
  refine (fits_yes _ _ (by omega) (by omega)).mono ?_; rintro e w' ⟨rfl, rfl⟩
  go_wp2_with (first
    | (at_make; refine wpList_make_oct rfl _ _ 26 rfl bt _ (n + k) rfl rfl (by omega) (by omega) ?_; intro w1 o1 b1; have O1 := Lib.hid o1; have B1 := Lib.hid b1; clear o1 b1)
    | (at_builtin; refine wpList_append_to rfl _ _ 26 rfl bt rfl O1.out B1.out _ rfl (HO.out.below B1.out) (by simp; omega) ?_; intro v2 w2 o2 b2; have O2 := Lib.hid o2; have B2 := Lib.hid b2; clear o2 b2))
  go_loopw [7, 21] (fun v q wr => ∃ j : Nat, j ≤ k ∧ q = .int .i64 j ∧ Hid (Own wr 5 w.heap.size v (xs ++ octs N j)) ∧ Hid (Below w.heap.size w wr)) (fun _ q _ => k - (intOf q).toNat)
  case atStart => exact ⟨0, by omega, rfl, by simpa [octs, Hid] using O2, B2⟩
  case round =>
    obtain ⟨j, hj, rfl, OJ, BJ⟩ := hrel
    by_cases hlt : j < k
    · go_wp2_with (at_builtin; refine wpList_append_to rfl _ _ 26 rfl bt rfl (OJ.out.alloc _) (BJ.out.alloc BJ.out.size _) _ rfl (Oct.one _ _ (UInt8.ofNat (N / 256 ^ j)) _ (byte_shr N j HN.out)) (by rw [List.length_append, octs_length, hxl.out]; omega) ?_; intro v3 w3 o3 b3; have O3 := Lib.hid o3; have B3 := Lib.hid b3; clear o3 b3)
      go_roundw
      case rel => exact ⟨j + 1, by omega, by go_num, by rw [octs_succ, ← List.append_assoc]; exact O3, B3⟩
      case measure => simp [intOf]; omega
    · have : j = k := by omega
      subst this
      go_wp2
      go_ret
      exact ⟨_, rfl, OJ.out, BJ.out⟩

set_option maxHeartbeats 1000000 in
theorem put_no (A : Option Addr) (n c : Nat) (xs : List UInt8) (N : Nat) (k : Int) (w : World) (hn : n ≤ 1000000000) (ho : Oct w A n xs) (h : ¬ (1 ≤ k ∧ k ≤ 8)) :
    Calls Tryd.prog 18 #[.slice A n c, .int .u64 (N : Int), .int .i64 k] w (Made w xs) := by
  have HO := Lib.hid ho
  have HK := Lib.hid h
  clear ho h
  go_enter Tryd.func18, Tryd.ntmps18
  go_wp2_with fail
  refine (fits_no _ _ HK.out).mono ?_; rintro e w' ⟨rfl, rfl⟩
  go_wp2_with (first
    | (at_make; refine wpList_make_oct rfl _ _ 26 rfl bt _ n rfl rfl (by omega) (by omega) ?_; intro w1 o1 b1; have O1 := Lib.hid o1; have B1 := Lib.hid b1; clear o1 b1)
    | (at_builtin; refine wpList_append_to rfl _ _ 26 rfl bt rfl O1.out B1.out _ rfl (HO.out.below B1.out) (by simp; omega) ?_; intro v2 w2 o2 b2; have O2 := Lib.hid o2; have B2 := Lib.hid b2; clear o2 b2))
  go_loopw [7, 21] (fun v q wr => q = .int .i64 0 ∧ Hid (Own wr 5 w.heap.size v xs) ∧ Hid (Below w.heap.size w wr)) (fun _ _ _ => 0)
  case atStart => exact ⟨rfl, O2, B2⟩
  case round =>
    obtain ⟨rfl, OJ, BJ⟩ := hrel
    go_wp2
    go_ret
    exact ⟨_, rfl, OJ.out, BJ.out⟩

set_option maxHeartbeats 1000000 in
theorem num_yes (N k : Nat) (w : World) (hN : N < 18446744073709551616) (h8 : k ≤ 8) :
    Calls Tryd.prog 20 #[.int .u64 (N : Int), .int .i64 (k : Int)] w (Made w (octs N k)) := by
  have HN := Lib.hid hN
  clear hN
  go_enter Tryd.func20, Tryd.ntmps20
  go_wp2
  go_loopw [0, 5, 6] (fun m v q wr => ∃ j M : Nat, j ≤ k ∧ q = .int .i64 j ∧ m = .int .u64 M ∧ M < 18446744073709551616 ∧ Hid (M = N / 256 ^ j) ∧ Hid (Own wr 5 w.heap.size v (octs N j)) ∧ Hid (Below w.heap.size w wr)) (fun _ _ q _ => k - (intOf q).toNat)
  case atStart => exact ⟨0, N, by omega, rfl, rfl, HN.out, by simp [Hid], Own.nil _ _ _, Below.refl _ _⟩
  case round =>
    obtain ⟨j, M, hj, rfl, rfl, hM, EM, OJ, BJ⟩ := hrel
    by_cases hlt : j < k
    · go_wp2_with (at_builtin; refine wpList_append_to rfl _ _ 26 rfl bt rfl (OJ.out.alloc _) (BJ.out.alloc BJ.out.size _) _ rfl (Oct.one _ _ (UInt8.ofNat M) _ (byte_mod M)) (by rw [octs_length]; omega) ?_; intro v3 w3 o3 b3; have O3 := Lib.hid o3; have B3 := Lib.hid b3; clear o3 b3)
      go_roundw
      case rel => exact ⟨j + 1, M / 256, by omega, by go_num, by go_num, by omega, by show _ = _; rw [EM.out, Nat.div_div_eq_div_mul, Nat.pow_succ], by show Own _ _ _ _ _; rw [octs_succ, ← EM.out]; exact O3.out, B3⟩
      case measure => simp [intOf]; omega
    · have : j = k := by omega
      subst this
      go_wp2
      go_ret
      exact ⟨_, rfl, OJ.out, BJ.out⟩

theorem num_no (N : Nat) (k : Int) (w : World) (h : ¬ (1 ≤ k ∧ k ≤ 8)) :
    Calls Tryd.prog 20 #[.int .u64 (N : Int), .int .i64 k] w (Made w []) := by
  by_cases h1 : 0 < k
  · have h8 : ¬ k ≤ 8 := by omega
    clear h
    go_enter Tryd.func20, Tryd.ntmps20
    go_wp2
    go_loopw [0, 5, 6] (fun m v q wr => q = .int .i64 0 ∧ v = .slice none 0 0 ∧ Hid (wr = w)) (fun _ _ q _ => 0)
    case atStart => exact ⟨rfl, rfl, rfl⟩
    case round =>
      obtain ⟨rfl, rfl, E⟩ := hrel
      go_wp2
      go_ret
      have e := E.out
      subst e
      exact ⟨_, rfl, Own.nil _ _ _, Below.refl _ _⟩
  · clear h
    go_enter Tryd.func20, Tryd.ntmps20
    go_wp2
    go_loopw [0, 5, 6] (fun m v q wr => q = .int .i64 0 ∧ v = .slice none 0 0 ∧ Hid (wr = w)) (fun _ _ q _ => 0)
    case atStart => exact ⟨rfl, rfl, rfl⟩
    case round =>
      obtain ⟨rfl, rfl, E⟩ := hrel
      go_wp2
      go_ret
      have e := E.out
      subst e
      exact ⟨_, rfl, Own.nil _ _ _, Below.refl _ _⟩

set_option maxHeartbeats 1000000 in
theorem join_two (A A2 : Option Addr) (n n2 c c2 : Nat) (xs ys : List UInt8) (b : Nat) (w : World) (hn : n ≤ 1000000000) (hn2 : n2 ≤ 1000000000) (h0 : w.cell? ⟨b, 0, none⟩ = some (.slice A n c)) (h1 : w.cell? ⟨b, 1, none⟩ = some (.slice A2 n2 c2))
    (ho : Oct w A n xs) (ho2 : Oct w A2 n2 ys) :
    Calls Tryd.prog 22 #[.slice (some ⟨b, 0, none⟩) 2 2] w (Made w (xs ++ ys)) := by
  have hb : b < w.heap.size := World.block_lt_of_cell? w _ h0
  have HO := Lib.hid ho
  have HO2 := Lib.hid ho2
  have H1 := Lib.hid h1
  have H0 := Lib.hid h0
  have hxl := Lib.hid ho.len
  clear ho ho2 h1 h0
  go_enter Tryd.func22, Tryd.ntmps22
  go_wp2
  go_loopw [3, 4] (fun v q wr => ∃ j : Nat, j ≤ 2 ∧ q = .int .i64 j ∧ Hid (Own wr 5 w.heap.size v (if j = 0 then [] else if j = 1 then xs else xs ++ ys)) ∧ Hid (Below w.heap.size w wr)) (fun _ q _ => 2 - (intOf q).toNat)
  case atStart => exact ⟨0, by omega, rfl, Own.nil _ _ _, Below.refl _ _⟩
  case round =>
    obtain ⟨j, hj, rfl, OJ, BJ⟩ := hrel
    rcases j with _ | _ | _ | j
    · have hc := (BJ.out.cell (p := ⟨b, 0, none⟩) hb).trans H0.out
      go_wp2_with (at_builtin; refine wpList_append_to rfl _ _ 26 rfl bt rfl OJ.out BJ.out _ rfl (HO.out.below BJ.out) (by simp; omega) ?_; intro v3 w3 o3 b3; have O3 := Lib.hid o3; have B3 := Lib.hid b3; clear o3 b3)
      go_roundw
      case rel => exact ⟨1, by omega, rfl, O3, B3⟩
      case measure => simp [intOf]
    · have hc := (BJ.out.cell (p := ⟨b, 1, none⟩) hb).trans H1.out
      go_wp2_with (at_builtin; refine wpList_append_to rfl _ _ 26 rfl bt rfl OJ.out BJ.out _ rfl (HO2.out.below BJ.out) (by simp [hxl.out]; omega) ?_; intro v3 w3 o3 b3; have O3 := Lib.hid o3; have B3 := Lib.hid b3; clear o3 b3)
      go_roundw
      case rel => exact ⟨2, by omega, rfl, O3, B3⟩
      case measure => simp [intOf]
    · go_wp2
      go_ret
      exact ⟨_, rfl, OJ.out, BJ.out⟩
    · omega
end Go.Proofs.YthclgehifomkhaaDoor.W
