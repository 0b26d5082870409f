/-
  Contracts of crc.More and crc.Sum, and of the reference's. No conditions.
-/
import Derived.Test.YthclgehifomkhaaDoorCrcBit
import Derived.Test.YthclgehifomkhaaDoorOctPut
namespace Go.Proofs.YthclgehifomkhaaDoor.W
open Go.RowKit Oc
set_option linter.unusedVariables false

/-- the sixteen numbers, as cells -/
def tabArr : Array Value := (fours.map (Value.int .u32)).toArray
theorem tab_at {k : Nat} (h : k < 16) : tabArr[k]? = some (.int .u32 ((halves 4 k : Nat) : Int)) := by
  have := fours_at h
  unfold tabArr
  simp [this]
/-- the table holds them -/
def Env (w : World) : Prop := ∃ t fr, w.heap[0]? = some (.cells tabArr t fr)
theorem Env.lt {w : World} (h : Env w) : 0 < w.heap.size := by
  obtain ⟨t, fr, hh⟩ := h
  rcases Nat.lt_or_ge 0 w.heap.size with h1 | h1
  · exact h1
  · rw [Array.getElem?_eq_none h1] at hh; cases hh
theorem Env.cell {w : World} (h : Env w) {k : Nat} (hk : k < 16) : w.cell? ⟨0, k, none⟩ = some (.int .u32 ((halves 4 k : Nat) : Int)) := by
  obtain ⟨t, fr, hh⟩ := h
  rw [cell_of_row w _ k _ _ _ hh]
  exact tab_at hk
theorem Env.below {w w' : World} (h : Env w) (hb : Below w.heap.size w w') : Env w' := by
  have hl := h.lt
  obtain ⟨t, fr, hh⟩ := h
  exact ⟨t, fr, (hb.block _ hl).trans hh⟩
theorem Env.alloc {w : World} (h : Env w) (o : Obj) : Env (w.alloc o) := h.below ((Below.refl _ _).alloc (Nat.le_refl _) _)

theorem xor_oct {a : Nat} {x : UInt8} {y : Nat} (ha : a < 4294967296) (h : a ^^^ x.toNat = y) : bits BinOp.xor IntKind.u32 (a : Int) (x.toNat : Int) = (y : Int) := by
  have hx := x.toNat_lt
  rw [u32_xor_nat _ _ ha (by omega), h]
theorem and15 {y : Nat} (h : y < 4294967296) : bits BinOp.and IntKind.u32 (y : Int) 15 = ((y % 16 : Nat) : Int) := by
  rw [← nat_mask4]
  exact u32_and_nat y 15 h (by decide)

theorem four_step {y z : Nat} (h : y < 4294967296) (hz : halves 4 y = z) : bits BinOp.xor IntKind.u32 ((y : Int) / 16) ((halves 4 (y % 16) : Nat) : Int) = (z : Int) := by
  have e : (y : Int) / 16 = ((y / 16 : Nat) : Int) := by omega
  rw [e, u32_xor_nat _ _ (by omega) (halves_lt 4 (by omega)), ← halves_four, hz]

theorem not_sum {s : Nat} (h : s < 4294967296) : bits BinOp.xor IntKind.u32 IntKind.u32.max (s : Int) = ((full ^^^ s : Nat) : Int) := u32_xor_nat full s full_lt h
theorem xor_full {s : Nat} (h : s < 4294967296) : bits BinOp.xor IntKind.u32 (s : Int) 4294967295 = ((full ^^^ s : Nat) : Int) := by
  rw [Nat.xor_comm]
  exact u32_xor_nat s full h full_lt

set_option maxHeartbeats 1000000 in
theorem more_any (A : Option Addr) (n c : Nat) (xs : List UInt8) (s r : Nat) (w : World) (hn : n ≤ 1000000000) (ho : Oct w A n xs) (he : Env w) (hs : s < 4294967296) (hr : more s xs = r) :
    Calls Tryd.prog 45 #[.int .u32 (s : Int), .slice A n c] w fun e w' => e = .returned (.int .u32 (r : Int)) ∧ w = w' := by
  have HO := Lib.hid ho
  have HR := Lib.hid hr
  have HE := Lib.hid he
  have HS := Lib.hid hs
  clear ho hr he hs
  go_enter Tryd.func45, Tryd.ntmps45
  go_wp2
  go_loop [5, 12] (fun s' q => ∃ j a : Nat, j ≤ n ∧ q = .int .i64 j ∧ s' = .int .u32 a ∧ a < 4294967296 ∧ Hid (runs (full ^^^ s) (xs.take j) = a)) (fun _ q => n - (intOf q).toNat)
  case atStart => exact ⟨0, _, by omega, rfl, by rw [not_sum HS.out], Nat.xor_lt_two_pow (n := 32) full_lt HS.out, rfl⟩
  case round =>
    obtain ⟨j, a, hj, rfl, rfl, ha, E⟩ := hrel
    by_cases hlt : j < n
    · obtain ⟨b, off, x, rfl, hx, hcell⟩ := HO.out.at_ (k := j) (by omega)
      have HX := Lib.hid hx
      clear hx
      obtain ⟨y, ey⟩ : ∃ y, a ^^^ x.toNat = y := ⟨_, rfl⟩
      obtain ⟨z, ez⟩ : ∃ z, halves 4 y = z := ⟨_, rfl⟩
      have hxl := x.toNat_lt
      have hy : y < 4294967296 := by rw [← ey]; exact Nat.xor_lt_two_pow (n := 32) ha (by omega)
      have hz : z < 4294967296 := by rw [← ez]; exact halves_lt 4 hy
      have e1 : bits BinOp.xor IntKind.u32 (a : Int) (x.toNat : Int) = (y : Int) := xor_oct ha ey
      have e2 : bits BinOp.and IntKind.u32 (y : Int) 15 = ((y % 16 : Nat) : Int) := and15 hy
      have c2 := HE.out.cell (k := y % 16) (by omega)
      have e4 : bits BinOp.and IntKind.u32 (z : Int) 15 = ((z % 16 : Nat) : Int) := and15 hz
      have c4 := HE.out.cell (k := z % 16) (by omega)
      have e3 := four_step hy ez
      have e5 := four_step hz (z := _) rfl
      have EZ := Lib.hid ez
      have EY := Lib.hid ey
      clear ey ez
      go_wp2
      go_round
      case rel => exact ⟨j + 1, _, by omega, rfl, rfl, halves_lt 4 hz, by show runs _ _ = _; rw [runs_take _ xs j x HX.out, E.out, upd, EY.out, halves_eight, EZ.out]⟩
      case measure => simp [intOf]; omega
    · have : j = n := by omega
      subst this
      have hl := HO.out.len
      have e : full ^^^ a = r := by rw [← HR.out, ← E.out, ← hl, List.take_length]; rfl
      have e1 : bits BinOp.xor IntKind.u32 IntKind.u32.max (a : Int) = (r : Int) := by rw [not_sum ha, e]
      clear hl e
      go_wp2
      go_ret
      exact ⟨rfl, rfl⟩

theorem odd_step {a : Nat} (h : a < 4294967296) (ho : a % 2 = 1) : bits BinOp.xor IntKind.u32 ((a : Int) / 2) 3988292384 = ((half a : Nat) : Int) := by
  have e : (a : Int) / 2 = ((a / 2 : Nat) : Int) := by omega
  rw [half_odd ho, e]
  exact u32_xor_nat (a / 2) 3988292384 (by omega) (by decide)

set_option maxHeartbeats 2000000 in
theorem rmore_any (A : Option Addr) (n c : Nat) (xs : List UInt8) (s r : Nat) (w : World) (hn : n ≤ 1000000000) (ho : Oct w A n xs) (hs : s < 4294967296) (hr : more s xs = r) :
    Calls Tryd.prog 46 #[.int .u32 (s : Int), .slice A n c] w fun e w' => e = .returned (.int .u32 (r : Int)) ∧ w = w' := by
  have HO := Lib.hid ho
  have HR := Lib.hid hr
  have HS := Lib.hid hs
  clear ho hr hs
  go_enter Tryd.func46, Tryd.ntmps46
  go_wp2
  go_loop [5, 6] (fun s' q => ∃ j a : Nat, j ≤ n ∧ q = .int .i64 j ∧ s' = .int .u32 a ∧ a < 4294967296 ∧ Hid (runs (full ^^^ s) (xs.take j) = a)) (fun _ q => n - (intOf q).toNat)
  case atStart => exact ⟨0, _, by omega, rfl, by rw [xor_full HS.out], Nat.xor_lt_two_pow (n := 32) full_lt HS.out, rfl⟩
  case round =>
    obtain ⟨j, a, hj, rfl, rfl, ha, E⟩ := hrel
    by_cases hlt : j < n
    · obtain ⟨b, off, x, rfl, hx, hcell⟩ := HO.out.at_ (k := j) (by omega)
      have HX := Lib.hid hx
      clear hx
      obtain ⟨y, ey⟩ : ∃ y, a ^^^ x.toNat = y := ⟨_, rfl⟩
      have hxl := x.toNat_lt
      have hy : y < 4294967296 := by rw [← ey]; exact Nat.xor_lt_two_pow (n := 32) ha (by omega)
      have e1 : bits BinOp.xor IntKind.u32 (a : Int) (x.toNat : Int) = (y : Int) := xor_oct ha ey
      have EY := Lib.hid ey
      clear ey
      go_wp2
      clear e1
      go_loop [5, 7] (fun s' q => ∃ k a' : Nat, k ≤ 8 ∧ q = .int .i64 k ∧ s' = .int .u32 a' ∧ a' < 4294967296 ∧ Hid (halves k y = a')) (fun _ q => 8 - (intOf q).toNat)
      case atStart => exact ⟨0, y, by omega, rfl, rfl, hy, rfl⟩
      case round =>
        obtain ⟨k, a', hk, rfl, rfl, ha', E'⟩ := hrel
        by_cases hlt8 : k < 8
        · by_cases hodd : a' % 2 = 1
          · have e2 := odd_step ha' hodd
            go_wp2
            go_round
            case rel => exact ⟨k + 1, _, by omega, rfl, rfl, half_lt ha', by show halves _ _ = _; rw [halves_succ, E'.out]⟩
            case measure => simp [intOf]; omega
          · have hev : a' % 2 = 0 := by omega
            have e2 : half a' = a' / 2 := half_even hev
            have E2 := Lib.hid e2
            clear e2
            go_wp2
            go_round
            case rel => exact ⟨k + 1, a' / 2, by omega, rfl, by go_num, by omega, by show halves _ _ = _; rw [halves_succ, E'.out, E2.out]⟩
            case measure => simp [intOf]; omega
        · have : k = 8 := by omega
          subst this
          go_wp2
          go_round
          case rel => exact ⟨j + 1, a', by omega, rfl, rfl, ha', by show runs _ _ = _; rw [runs_take _ xs j x HX.out, E.out, upd, EY.out, E'.out]⟩
          case measure => simp [intOf]; omega
    · have : j = n := by omega
      subst this
      have hl := HO.out.len
      have e : full ^^^ a = r := by rw [← HR.out, ← E.out, ← hl, List.take_length]; rfl
      have e1 : bits BinOp.xor IntKind.u32 (a : Int) 4294967295 = (r : Int) := by rw [xor_full ha, e]
      clear hl e
      go_wp2
      go_ret
      exact ⟨rfl, rfl⟩

theorem rsum_any (A : Option Addr) (n c : Nat) (xs : List UInt8) (r : Nat) (w : World) (hn : n ≤ 1000000000) (ho : Oct w A n xs) (hr : sum xs = r) :
    Calls Tryd.prog 40 #[.slice A n c] w fun e w' => e = .returned (.int .u32 (r : Int)) ∧ w = w' := by
  have HO := Lib.hid ho
  have HR := Lib.hid hr
  clear ho hr
  go_enter Tryd.func40, Tryd.ntmps40
  go_wp2_with fail
  refine (rmore_any _ _ _ xs 0 r _ hn HO.out (by decide) HR.out).mono ?_; rintro e w' ⟨rfl, rfl⟩
  go_wp2
  go_ret
  exact ⟨rfl, rfl⟩

/-- the sum of one part, and of two -/
theorem sum_one (A : Option Addr) (n c : Nat) (xs : List UInt8) (r b : Nat) (w : World) (hn : n ≤ 1000000000) (h0 : w.cell? ⟨b, 0, none⟩ = some (.slice A n c)) (ho : Oct w A n xs) (he : Env w) (hr : sum xs = r) :
    Calls Tryd.prog 39 #[.slice (some ⟨b, 0, none⟩) 1 1] w fun e w' => e = .returned (.int .u32 (r : Int)) ∧ w = w' := by
  have HO := Lib.hid ho
  have HR := Lib.hid hr
  have HE := Lib.hid he
  clear ho hr he
  go_enter Tryd.func39, Tryd.ntmps39
  go_wp2
  go_loop [3, 8] (fun s' q => ∃ j : Nat, j ≤ 1 ∧ q = .int .i64 j ∧ s' = .int .u32 (if j = 0 then 0 else r : Nat)) (fun _ q => 1 - (intOf q).toNat)
  case atStart => exact ⟨0, by omega, rfl, rfl⟩
  case round =>
    obtain ⟨j, hj, rfl, rfl⟩ := hrel
    rcases j with _ | _ | j
    · go_wp2_with fail
      refine (more_any _ _ _ xs 0 r _ hn HO.out HE.out (by decide) HR.out).mono ?_; rintro e w' ⟨rfl, rfl⟩
      go_wp2
      go_round
      case rel => exact ⟨1, by omega, rfl, rfl⟩
      case measure => simp [intOf]
    · go_wp2
      go_ret
      exact ⟨rfl, rfl⟩
    · omega

theorem sum_two (A A2 : Option Addr) (n n2 c c2 : Nat) (xs ys : List UInt8) (r b : Nat) (w : World) (hn : n ≤ 1000000000) (hn2 : n2 ≤ 1000000000) (h0 : w.cell? ⟨b, 0, none⟩ = some (.slice A n c)) (h1 : w.cell? ⟨b, 1, none⟩ = some (.slice A2 n2 c2)) (ho : Oct w A n xs) (ho2 : Oct w A2 n2 ys) (he : Env w) (hr : sum (xs ++ ys) = r) :
    Calls Tryd.prog 39 #[.slice (some ⟨b, 0, none⟩) 2 2] w fun e w' => e = .returned (.int .u32 (r : Int)) ∧ w = w' := by
  have HO := Lib.hid ho
  have HO2 := Lib.hid ho2
  have HE := Lib.hid he
  rw [sum_append] at hr
  obtain ⟨u, hu⟩ : ∃ u, sum xs = u := ⟨_, rfl⟩
  have hul : u < 4294967296 := by rw [← hu]; exact sum_lt xs
  rw [hu] at hr
  have HR := Lib.hid hr
  have HU := Lib.hid hu
  clear ho ho2 hr he hu
  go_enter Tryd.func39, Tryd.ntmps39
  go_wp2
  go_loop [3, 8] (fun s' q => ∃ j : Nat, j ≤ 2 ∧ q = .int .i64 j ∧ s' = .int .u32 (if j = 0 then 0 else if j = 1 then u else r : Nat)) (fun _ q => 2 - (intOf q).toNat)
  case atStart => exact ⟨0, by omega, rfl, rfl⟩
  case round =>
    obtain ⟨j, hj, rfl, rfl⟩ := hrel
    rcases j with _ | _ | _ | j
    · go_wp2_with fail
      refine (more_any _ _ _ xs 0 u _ hn HO.out HE.out (by decide) HU.out).mono ?_; rintro e w' ⟨rfl, rfl⟩
      go_wp2
      go_round
      case rel => exact ⟨1, by omega, rfl, rfl⟩
      case measure => simp [intOf]
    · go_wp2_with fail
      refine (more_any _ _ _ ys u r _ hn2 HO2.out HE.out hul HR.out).mono ?_; rintro e w' ⟨rfl, rfl⟩
      go_wp2
      go_round
      case rel => exact ⟨2, by omega, rfl, rfl⟩
      case measure => simp [intOf]
    · go_wp2
      go_ret
      exact ⟨rfl, rfl⟩
    · omega
end Go.Proofs.YthclgehifomkhaaDoor.W
