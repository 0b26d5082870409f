/-
  Elder texts, one behind the other: DvTurn, DvRot, DvRrot. No conditions.
-/
import Derived.Test.YtapklelkcicjlaaGreatDoorKDs
import Derived.Laws.BitsAllLaws
import Derived.IntWalk
import Derived.Test.YtapklelkcicjlaaGreatDoorKDw
import Derived.Stop.BytesEq
import Derived.Test.YtapklelkcicjlaaGreatDoorKDr
import Derived.Lib.ConvBytes
/-! Turned bits: plain facts, and the contracts of crc.Turn and of the reference's. No conditions. -/
namespace Go.Proofs.YtapklelkcicjlaaGreatDoor.Tn
set_option maxRecDepth 100000
open Go.RowKit Oc Dm
set_option linter.unusedVariables false

def flipB (k : Nat) (x : UInt8) : UInt8 := x ^^^ UInt8.ofNat (2 ^ (k % 8))
def flipAt (xs : List UInt8) (k : Nat) : List UInt8 := xs.modify (k / 8) (flipB k)
theorem flip_length (xs : List UInt8) (k : Nat) : (flipAt xs k).length = xs.length := List.length_modify ..
theorem pow_mod8 (k : Nat) : 2 ^ (k % 8) < 256 := by
  have h : k % 8 < 8 := by omega
  have := Nat.pow_lt_pow_right (a := 2) (by decide) h
  omega
theorem flipB_nat (k : Nat) (x : UInt8) : (flipB k x).toNat = x.toNat ^^^ 2 ^ (k % 8) := by
  unfold flipB
  rw [UInt8.toNat_xor]
  congr 1
  have := pow_mod8 k
  simp
  omega
theorem flipB_eight (k : Nat) (x : UInt8) : flipB (k + 8) x = flipB k x := by
  unfold flipB
  rw [Nat.add_mod_right]
abbrev hit (n : Nat) (at_ : Int) (T i : Nat) : Prop := T / 2 ^ i % 2 = 1 ∧ 0 ≤ at_ + i ∧ at_ + i < 8 * n
def turned (xs : List UInt8) (at_ : Int) (T : Nat) : Nat → List UInt8
  | 0 => xs
  | i + 1 => if hit xs.length at_ T i then flipAt (turned xs at_ T i) (at_ + i).toNat else turned xs at_ T i
theorem turned_length (xs : List UInt8) (at_ : Int) (T i : Nat) : (turned xs at_ T i).length = xs.length := by
  induction i with
  | zero => rfl
  | succ i ih => unfold turned; split; · rw [flip_length, ih]
                 · exact ih
theorem turned_yes {xs : List UInt8} {at_ : Int} {T i : Nat} (h : hit xs.length at_ T i) : turned xs at_ T (i + 1) = flipAt (turned xs at_ T i) (at_ + i).toNat := if_pos h
theorem turned_no {xs : List UInt8} {at_ : Int} {T i : Nat} (h : ¬ hit xs.length at_ T i) : turned xs at_ T (i + 1) = turned xs at_ T i := if_neg h
theorem turned_far (xs : List UInt8) (at_ : Int) (T i : Nat) (hi : i ≤ 32) (h : at_ ≤ -32 ∨ (8 * xs.length : Int) ≤ at_) : turned xs at_ T i = xs := by
  induction i with
  | zero => rfl
  | succ i ih => rw [turned_no (by unfold hit; omega), ih (by omega)]

/-- what a call leaves that hands back octets in new memory -/
def Made (w : World) (xs : List UInt8) (e : Ending) (w' : World) : Prop := ∃ v, e = .returned v ∧ Own w' 5 w.heap.size v xs ∧ Below w.heap.size w w'
theorem balloc (w : World) (o : Obj) : Below w.heap.size w (w.alloc o) := (Below.refl _ _).alloc (Nat.le_refl _) _
theorem half_more (x j : Nat) : x / 2 ^ j / 2 = x / 2 ^ (j + 1) := by rw [Nat.div_div_eq_div_mul, Nat.pow_succ]
theorem own_here {w : World} {e : TypeId} {B n : Nat} {v : Value} {xs : List UInt8} (h : Own w e B v xs) (hn : xs.length = n) (h0 : 0 < n) : ∃ g cap, v = .slice (some ⟨g, 0, none⟩) n cap ∧ B ≤ g := by
  rcases h.2 with ⟨_, hn⟩ | ⟨g, cap, cur, hv, hb, _⟩
  · omega
  · exact ⟨g, cap, by rw [hv, hn], hb⟩
theorem own_cell {w : World} {e : TypeId} {B g cap n j : Nat} {xs : List UInt8} {x : UInt8} (h : Own w e B (.slice (some ⟨g, 0, none⟩) n cap) xs) (hn : xs.length = n) (hx : xs[j]? = some x) : w.cell? ⟨g, j, none⟩ = some (.int .u8 (x.toNat : Int)) ∧ w.frozen? ⟨g, j, none⟩ = false := by
  subst hn
  have hj : j < xs.length := (List.getElem?_eq_some_iff.1 hx).1
  refine ⟨?_, World.ownsRow.frozenAt (base := B) (e := e) (size := 1) (xs := xs.map ov) h j⟩
  have := World.ownsRow.cellAt (w := w) (base := B) (e := e) (size := 1) (xs := xs.map ov) h j (by omega)
  rw [this, List.getElem?_map, hx]
  rfl
theorem flip_set (xs : List UInt8) (k : Nat) (x : UInt8) (hx : xs[k / 8]? = some x) : flipAt xs k = xs.set (k / 8) (flipB k x) := by
  apply List.ext_getElem?
  intro j
  unfold flipAt
  rw [List.getElem?_modify, List.getElem?_set]
  obtain ⟨hk, hx2⟩ := List.getElem?_eq_some_iff.1 hx
  by_cases h : k / 8 = j
  · subst h
    simp [hk, hx2]
  · simp [h]
theorem own_flipped {w : World} {e : TypeId} {B g cap n k : Nat} {xs : List UInt8} {x : UInt8} {z : Int} (h : Own w e B (.slice (some ⟨g, 0, none⟩) n cap) xs) (hn : xs.length = n) (hx : xs[k / 8]? = some x) (hz : z = ((flipB k x).toNat : Int)) :
    Own (w.setCell ⟨g, k / 8, none⟩ (.int .u8 z)) e B (.slice (some ⟨g, 0, none⟩) n cap) (flipAt xs k) ∧ w.grownBy (w.setCell ⟨g, k / 8, none⟩ (.int .u8 z)) (some g) := by
  subst hn hz
  obtain ⟨h1, h2⟩ := World.ownsRow.stored (w := w) (base := B) (e := e) (size := 1) (xs := xs.map ov) h (k / 8) (ov (flipB k x))
  refine ⟨?_, h2⟩
  rw [flip_set xs k x hx]
  unfold Own
  rw [List.length_set, List.map_set]
  exact h1

/-- what a call leaves that turns bits -/
theorem and1 {y : Nat} (h : y < 4294967296) : bits BinOp.and IntKind.u32 (y : Int) 1 = ((y % 2 : Nat) : Int) := by
  rw [← nat_mask1]
  exact u32_and_nat y 1 h (by decide)

theorem shr_int (T j : Nat) : (T : Int) / 2 ^ j = ((T / 2 ^ j : Nat) : Int) := by rw [Int.natCast_ediv, Int.natCast_pow]; rfl
theorem flip_val (x : UInt8) (k : Nat) : bits BinOp.xor IntKind.u8 (x.toNat : Int) (2 ^ (k % 8) % 256) = ((flipB k x).toNat : Int) := by
  have h := pow_mod8 k
  have e : (2 : Int) ^ (k % 8) % 256 = ((2 ^ (k % 8) : Nat) : Int) := by
    have h3 : ((2 : Int) ^ (k % 8)) = ((2 ^ (k % 8) : Nat) : Int) := by rw [Int.natCast_pow]; rfl
    rw [h3]
    generalize 2 ^ (k % 8) = p at h ⊢
    omega
  rw [e, u8_xor_nat _ _ (by have := x.toNat_lt; omega) h, flipB_nat]
set_option maxHeartbeats 4000000 in
theorem turn_near (A : Option Addr) (n c : Nat) (xs : List UInt8) (at_ : Int) (T : Nat) (w : World) (hn : n ≤ 1000000) (ho : Oct w A n xs) (hT : T < 4294967296) (h1 : -32 < at_) (h2 : at_ < 8 * n) :
    Calls Tryz.prog 80 #[.slice A n c, .int .i64 at_, .int .u32 (T : Int)] w (Made w (turned xs at_ T 32)) := by
  have HO := Lib.hid ho
  have HL := Lib.hid ho.len
  clear ho
  have O0 := Lib.hid (Own.nil w 5 w.heap.size)
  go_enter Tryz.func80, Tryz.ntmps80
  go_wp2_with (at_builtin; refine wpList_append_to rfl _ _ 57 rfl bt rfl O0.out (Below.refl _ _) _ rfl HO.out (by simp; omega) ?_; intro v1 w1 o1 b1; rw [List.nil_append] at o1; have O1 := Lib.hid o1; have B1 := Lib.hid b1; clear o1 b1)
  go_loopw [24] (fun q wr => ∃ j : Nat, j ≤ 32 ∧ q = .int .i64 j ∧ Hid (Own wr 5 w.heap.size v1 (turned xs at_ T j)) ∧ Hid (Below w.heap.size w wr)) (fun q _ => 32 - (intOf q).toNat)
  case atStart => exact ⟨0, by omega, rfl, O1, B1⟩
  case round =>
    obtain ⟨j, hj, rfl, OJ, BJ⟩ := hrel
    by_cases hlt : j < 32
    · by_cases hh : hit n at_ T j
      · have hh2 : hit xs.length at_ T j := by rw [HL.out]; exact hh
        obtain ⟨hb, h3, h4⟩ := hh
        obtain ⟨k, hk⟩ : ∃ k : Nat, at_ + (j : Int) = (k : Int) := ⟨(at_ + j).toNat, by omega⟩
        have hkl : k < 8 * n := by omega
        have eT : bits BinOp.and IntKind.u32 ((T : Int) / 2 ^ j) 1 = 1 := by rw [shr_int, and1 (Nat.lt_of_le_of_lt (Nat.div_le_self _ _) hT), hb]; rfl
        have hlj : (turned xs at_ T j).length = n := by rw [turned_length, HL.out]
        obtain ⟨g, cap, rfl, hg⟩ := own_here OJ.out hlj (by omega)
        obtain ⟨x, hx⟩ : ∃ x, (turned xs at_ T j)[k / 8]? = some x := ⟨_, List.getElem?_eq_getElem (by omega)⟩
        obtain ⟨hcell, hfr⟩ := own_cell OJ.out hlj hx
        have HX := Lib.hid hx
        have HH := Lib.hid hh2
        have HLJ := Lib.hid hlj
        clear hx hh2 hlj h3 h4 hb
        go_wp2_with fail
        go_region
        go_wp2
        go_roundw
        case rel =>
          obtain ⟨o2, g2⟩ := own_flipped OJ.out HLJ.out HX.out (flip_val x k)
          exact ⟨j + 1, by omega, rfl, by show Own _ _ _ _ _; rw [turned_yes HH.out, hk, Int.toNat_natCast]; exact o2.drew, (BJ.out.grown g2 BJ.out.size fun g' e => by injection e with e; omega).drew⟩
        case measure => simp [intOf]; omega
      · have hno : ¬ hit xs.length at_ T j := by rw [HL.out]; exact hh
        have HN := Lib.hid hno
        have hT2 := Nat.lt_of_le_of_lt (Nat.div_le_self T (2 ^ j)) hT
        by_cases hb : T / 2 ^ j % 2 = 1
        · have eT : bits BinOp.and IntKind.u32 ((T : Int) / 2 ^ j) 1 = 1 := by rw [shr_int, and1 hT2, hb]; rfl
          by_cases h3 : at_ + (j : Int) < 0
          · clear hh hno hT2 hb
            go_wp2
            go_roundw
            case rel => exact ⟨j + 1, by omega, rfl, by show Own _ _ _ _ _; rw [turned_no HN.out]; exact OJ.out, BJ⟩
            case measure => simp [intOf]; omega
          · have h4 : 8 * (n : Int) ≤ at_ + (j : Int) := by unfold hit at hh; omega
            clear hh hno hT2 hb
            go_wp2
            go_roundw
            case rel => exact ⟨j + 1, by omega, rfl, by show Own _ _ _ _ _; rw [turned_no HN.out]; exact OJ.out, BJ⟩
            case measure => simp [intOf]; omega
        · have eT : bits BinOp.and IntKind.u32 ((T : Int) / 2 ^ j) 1 = 0 := by
            have h0 : T / 2 ^ j % 2 = 0 := by omega
            rw [shr_int, and1 hT2, h0]; rfl
          clear hh hno hT2 hb
          go_wp2
          go_roundw
          case rel => exact ⟨j + 1, by omega, rfl, by show Own _ _ _ _ _; rw [turned_no HN.out]; exact OJ.out, BJ⟩
          case measure => simp [intOf]; omega
    · have : j = 32 := by omega
      subst this
      go_wp2
      go_ret
      exact ⟨_, rfl, OJ.out, BJ.out⟩

theorem turn_far (A : Option Addr) (n c : Nat) (xs : List UInt8) (at_ : Int) (T : Nat) (w : World) (hn : n ≤ 1000000) (ho : Oct w A n xs) (h : at_ ≤ -32 ∨ 8 * (n : Int) ≤ at_) :
    Calls Tryz.prog 80 #[.slice A n c, .int .i64 at_, .int .u32 (T : Int)] w (Made w (turned xs at_ T 32)) := by
  have HO := Lib.hid ho
  have HF := Lib.hid (turned_far xs at_ T 32 (by decide) (by rw [ho.len]; exact h))
  clear ho
  have O0 := Lib.hid (Own.nil w 5 w.heap.size)
  by_cases h1 : at_ ≤ -32
  · clear h
    go_enter Tryz.func80, Tryz.ntmps80
    go_wp2_with (at_builtin; refine wpList_append_to rfl _ _ 57 rfl bt rfl O0.out (Below.refl _ _) _ rfl HO.out (by simp; omega) ?_; intro v1 w1 o1 b1; rw [List.nil_append] at o1; have O1 := Lib.hid o1; have B1 := Lib.hid b1; clear o1 b1)
    go_ret
    exact ⟨_, rfl, by rw [HF.out]; exact O1.out, B1.out⟩
  · have h2 : 8 * (n : Int) ≤ at_ := by omega
    clear h
    go_enter Tryz.func80, Tryz.ntmps80
    go_wp2_with (at_builtin; refine wpList_append_to rfl _ _ 57 rfl bt rfl O0.out (Below.refl _ _) _ rfl HO.out (by simp; omega) ?_; intro v1 w1 o1 b1; rw [List.nil_append] at o1; have O1 := Lib.hid o1; have B1 := Lib.hid b1; clear o1 b1)
    go_ret
    exact ⟨_, rfl, by rw [HF.out]; exact O1.out, B1.out⟩
theorem turn_any (A : Option Addr) (n c : Nat) (xs : List UInt8) (at_ : Int) (T : Nat) (w : World) (hn : n ≤ 1000000) (ho : Oct w A n xs) (hT : T < 4294967296) :
    Calls Tryz.prog 80 #[.slice A n c, .int .i64 at_, .int .u32 (T : Int)] w (Made w (turned xs at_ T 32)) := by
  by_cases h : -32 < at_ ∧ at_ < 8 * (n : Int)
  · exact turn_near A n c xs at_ T w hn ho hT h.1 h.2
  · exact turn_far A n c xs at_ T w hn ho (by omega)

theorem own_empty (w : World) (B : Nat) (hB : B ≤ w.heap.size) : Own (w.alloc (.cells #[] 5)) 5 B (.slice (some ⟨w.heap.size, 0, none⟩) 0 0) [] := World.ownsRow_lit (base := B) (e := 5) (size := 1) w #[] 0 hB (by decide) rfl
theorem flip_val2 (x : UInt8) (k a : Nat) (ha : a = 2 ^ (k % 8)) : bits BinOp.xor IntKind.u8 (x.toNat : Int) (a : Int) = ((flipB k x).toNat : Int) := by
  subst ha
  rw [u8_xor_nat _ _ (by have := x.toNat_lt; omega) (pow_mod8 k), flipB_nat]
theorem dbl_lt {i k a : Nat} (h : i < k % 8) (ha : a = 2 ^ i) : a * 2 < 256 := by
  have := Nat.pow_le_pow_right (n := 2) (by decide) (show i + 1 ≤ 7 by omega)
  rw [Nat.pow_succ] at this
  omega

set_option maxHeartbeats 4000000 in
theorem rturn_any (A : Option Addr) (n c : Nat) (xs : List UInt8) (at_ : Int) (T : Nat) (w : World) (hn : n ≤ 1000000) (ho : Oct w A n xs) (hT : T < 4294967296) :
    Calls Tryz.prog 102 #[.slice A n c, .int .i64 at_, .int .u32 (T : Int)] w (Made w (turned xs at_ T 32)) := by
  have HO := Lib.hid ho
  have HL := Lib.hid ho.len
  clear ho
  have O0 := Lib.hid (own_empty w w.heap.size (Nat.le_refl _))
  have HT := Lib.hid hT
  clear hT
  go_enter Tryz.func102, Tryz.ntmps102
  go_wp2_with (at_builtin; refine wpList_append_to rfl _ _ 57 rfl bt rfl O0.out (balloc _ _) _ rfl (HO.out.alloc _) (by simp; omega) ?_; intro v1 w1 o1 b1; rw [List.nil_append] at o1; have O1 := Lib.hid o1; have B1 := Lib.hid b1; clear o1 b1)
  go_loopw [2, 8] (fun m q wr => ∃ j M : Nat, j ≤ 32 ∧ q = .int .i64 j ∧ m = .int .u32 M ∧ M < 4294967296 ∧ Hid (M = T / 2 ^ j) ∧ Hid (Own wr 5 w.heap.size v1 (turned xs at_ T j)) ∧ Hid (Below w.heap.size w wr)) (fun _ q _ => 32 - (intOf q).toNat)
  case atStart => exact ⟨0, T, by omega, rfl, rfl, HT.out, by show _ = _; simp, O1, B1⟩
  case round =>
    obtain ⟨j, M, hj, rfl, rfl, hM, EM, OJ, BJ⟩ := hrel
    have EM2 : Hid (M / 2 = T / 2 ^ (j + 1)) := by show _ = _; rw [EM.out, half_more]
    by_cases hlt : j < 32
    · by_cases hh : hit n at_ T j
      · have hh2 : hit xs.length at_ T j := by rw [HL.out]; exact hh
        obtain ⟨hb, h3, h4⟩ := hh
        rw [← EM.out] at hb
        obtain ⟨k, hk⟩ : ∃ k : Nat, at_ + (j : Int) = (k : Int) := ⟨(at_ + j).toNat, by omega⟩
        have hkl : k < 8 * n := by omega
        have hge : 0 - (j : Int) ≤ at_ := by omega
        have hlt2 : at_ < 8 * (n : Int) - (j : Int) := by omega
        have hlj : (turned xs at_ T j).length = n := by rw [turned_length, HL.out]
        obtain ⟨g, cap, rfl, hg⟩ := own_here OJ.out hlj (by omega)
        obtain ⟨x, hx⟩ : ∃ x, (turned xs at_ T j)[k / 8]? = some x := ⟨_, List.getElem?_eq_getElem (by omega)⟩
        obtain ⟨hcell, hfr⟩ := own_cell OJ.out hlj hx
        have HX := Lib.hid hx
        have HH := Lib.hid hh2
        have HLJ := Lib.hid hlj
        clear hx hh2 hlj h3 h4
        go_wp2
        go_loop [10, 11] (fun s q => ∃ i a : Nat, i ≤ k % 8 ∧ q = .int .i64 i ∧ s = .int .u8 a ∧ a < 256 ∧ Hid (a = 2 ^ i)) (fun _ q => k % 8 - (intOf q).toNat)
        case atStart => exact ⟨0, 1, by omega, rfl, rfl, by omega, rfl⟩
        case round =>
          obtain ⟨i, a, hi, rfl, rfl, ha, EA⟩ := hrel
          by_cases hil : i < k % 8
          · have ha2 : a * 2 < 256 := dbl_lt hil EA.out
            go_wp2
            go_round
            case rel => exact ⟨i + 1, a * 2, by omega, rfl, by go_num, ha2, by show _ = _; rw [Nat.pow_succ, EA.out]⟩
            case measure => simp [intOf]; omega
          · have hie : i = k % 8 := by omega
            have EA2 : Hid (a = 2 ^ (k % 8)) := by rw [← hie]; exact EA
            clear hie
            go_wp2
            go_roundw
            case rel =>
              obtain ⟨o2, g2⟩ := own_flipped OJ.out HLJ.out HX.out (flip_val2 x k a EA2.out)
              exact ⟨j + 1, M / 2, by omega, rfl, by go_num, by omega, EM2, by show Own _ _ _ _ _; rw [turned_yes HH.out, hk, Int.toNat_natCast]; exact o2, BJ.out.grown g2 BJ.out.size fun g' e => by injection e with e; omega⟩
            case measure => simp [intOf]; omega
      · have hno : ¬ hit xs.length at_ T j := by rw [HL.out]; exact hh
        have HN := Lib.hid hno
        by_cases hb : M % 2 = 1
        · by_cases h3 : at_ + (j : Int) < 0
          · clear hh hno
            go_wp2
            go_roundw
            case rel => exact ⟨j + 1, M / 2, by omega, rfl, by go_num, by omega, EM2, by show Own _ _ _ _ _; rw [turned_no HN.out]; exact OJ.out, BJ⟩
            case measure => simp [intOf]; omega
          · have h4 : 8 * (n : Int) ≤ at_ + (j : Int) := by rw [EM.out] at hb; unfold hit at hh; omega
            clear hh hno
            go_wp2
            go_roundw
            case rel => exact ⟨j + 1, M / 2, by omega, rfl, by go_num, by omega, EM2, by show Own _ _ _ _ _; rw [turned_no HN.out]; exact OJ.out, BJ⟩
            case measure => simp [intOf]; omega
        · have hb2 : M % 2 = 0 := by omega
          clear hh hno hb
          go_wp2
          go_roundw
          case rel => exact ⟨j + 1, M / 2, by omega, rfl, by go_num, by omega, EM2, by show Own _ _ _ _ _; rw [turned_no HN.out]; exact OJ.out, BJ⟩
          case measure => simp [intOf]; omega
    · have : j = 32 := by omega
      subst this
      go_wp2
      go_ret
      exact ⟨_, rfl, OJ.out, BJ.out⟩
end Go.Proofs.YtapklelkcicjlaaGreatDoor.Tn

/-! The contract of Rot. No conditions. -/
namespace Go.Proofs.YtapklelkcicjlaaGreatDoor.Dw
set_option maxRecDepth 100000
open Go.RowKit Oc Dm Gt Tn
set_option linter.unusedVariables false

theorem run_eq_sec (w : World) (xs ys : List UInt8) (hx : xs.length = 64) (hy : ys.length = 64) : (binOp .eql 128 (sv xs) (sv ys)).run Tryz.prog w = .ok (.bool (xs == ys)) w :=
  run_eql_bytes w 128 5 64 Tryz.underlying128 Tryz.underlying5 Tryz.sizeOf5 xs ys hx hy
theorem sec_guard : Tryz.prog.eqGuardType Tryz.prog.depth 128 = false := by kernel_rfl
theorem L_eq {ops : Array Oper} {rest : List Oper} {a : Act} {w : World} {Q : Exit → Act → World → Prop} {dst : Option Tmp} {ty : TypeId} {pos : String} {af : Array Edge} {x y : Operand} {xs ys : List UInt8} (hx : a.eval x = sv xs) (hy : a.eval y = sv ys) (h1 : xs.length = 64) (h2 : ys.length = 64)
    (hK : wpList Tryz.prog ops Q rest (a.put dst (.bool (xs == ys))) w) : wpList Tryz.prog ops Q (⟨dst, .binOp .eql 128 x y 128, ty, pos, af, none⟩ :: rest) a w := by
  refine wpList_plain rfl fun K hK' => ?_
  have hg := run_eqGuard_agg (P := Tryz.prog) w .eql 128 x y (xs.map ov).toArray (ys.map ov).toArray sec_guard
  have hr := run_eq_sec w xs ys h1 h2
  unfold sv at hr hx hy
  unfold Oper.wp
  simp [execOp, hx, hy, hg, hr, Result.andThen]
  exact hK' _ _ hK
section
variable {w w' : World} {F : Nat → Prop} {D p n N : Nat} {S : Nat → Sec} {rd wr fx m r : Nat} {g : Nat → Option Pl} {s : PS}
theorem rot_range (h : DvAt w F D p n N S rd wr fx m r g) (z bit : Int) (u : Value) (hz : z < 0 ∨ (n : Int) ≤ z ∨ bit < 0 ∨ 512 ≤ bit) :
    Calls Tryz.prog 22 #[.pointer (some ⟨D, 0, none⟩), .int .i64 z, .int .i64 bit, u] w fun e w' => e = .returned (.int .i64 3) ∧ w = w' := by
  have H := Lib.hid h
  clear h
  by_cases h1 : z < 0 ∨ (n : Int) ≤ z
  · have H1 := Lib.hid h1
    clear hz h1
    go_enter Tryz.func22, Tryz.ntmps22
    go_wp2_with fail
    refine (dmade_any H.out).mono ?_; rintro e w' ⟨rfl, rfl⟩
    go_wp2_with fail
    refine (has_no H.out z H1.out).mono ?_; rintro e w' ⟨rfl, rfl⟩
    go_wp2
    go_ret
    exact ⟨rfl, rfl⟩
  · obtain ⟨i, rfl⟩ : ∃ i : Nat, z = (i : Int) := ⟨z.toNat, by omega⟩
    have hi : i < n := by omega
    by_cases h2 : bit < 0
    · clear hz h1
      go_enter Tryz.func22, Tryz.ntmps22
      go_wp2_with fail
      refine (dmade_any H.out).mono ?_; rintro e w' ⟨rfl, rfl⟩
      go_wp2_with fail
      refine (has_yes H.out i hi).mono ?_; rintro e w' ⟨rfl, rfl⟩
      go_wp2
      go_ret
      exact ⟨rfl, rfl⟩
    · have h3 : 512 ≤ bit := by omega
      clear hz h1
      go_enter Tryz.func22, Tryz.ntmps22
      go_wp2_with fail
      refine (dmade_any H.out).mono ?_; rintro e w' ⟨rfl, rfl⟩
      go_wp2_with fail
      refine (has_yes H.out i hi).mono ?_; rintro e w' ⟨rfl, rfl⟩
      go_wp2
      go_ret
      exact ⟨rfl, rfl⟩
theorem rot_state (h : DvAt w F D p n N S rd wr fx m r g) (i : Nat) (hi : i < n) (bit : Int) (u : Value) (hb : 0 ≤ bit ∧ bit < 512) (hs : (S i).rotten = true ∨ (S i).loose ≠ []) :
    Calls Tryz.prog 22 #[.pointer (some ⟨D, 0, none⟩), .int .i64 (i : Int), .int .i64 bit, u] w fun e w' => e = .returned (.int .i64 6) ∧ Below w.heap.size w w' := by
  have H := Lib.hid h
  obtain ⟨hb1, hb2⟩ := hb
  clear h
  cases hrot : (S i).rotten
  · have hl : (S i).loose ≠ [] := hs.resolve_left (by rw [hrot]; decide)
    obtain ⟨t, ht⟩ : ∃ t, g i = some t := by
      cases hg : g i with
      | none => exact absurd (H.out.none_ i hi hg) hl
      | some t => exact ⟨t, rfl⟩
    have hlen : 0 < t.2.1 := by rw [(H.out.some_ i t hi ht).2.1]; exact List.length_pos_iff.2 hl
    have HT := Lib.hid ht
    have HR := Lib.hid hrot
    clear hs hl ht hrot
    go_enter Tryz.func22, Tryz.ntmps22
    go_wp2_with fail
    refine (dmade_any H.out).mono ?_; rintro e w' ⟨rfl, rfl⟩
    go_wp2_with fail
    refine (has_yes H.out i hi).mono ?_; rintro e w' ⟨rfl, rfl⟩
    go_wp2_with fail
    refine (rotten_any H.out i hi).mono ?_; rintro e w1 ⟨rfl, b1⟩
    rw [HR.out]
    have H1 := Lib.hid (H.out.kept (G := fun _ => False) (Chg.of_below b1) (fun _ _ x => x))
    have B1 := Lib.hid b1
    obtain ⟨c0, c1, c2, c3, c4, c5, fr⟩ := H1.out.cells
    have hlk := H1.out.lm.look hi H1.out.hn
    rw [HT.out] at hlk
    rw [show slv (some t) = .slice (some ⟨t.1, 0, none⟩) t.2.1 t.2.2 from rfl] at hlk
    clear b1
    obtain ⟨l, hl⟩ : ∃ l, t.2.1 = l := ⟨_, rfl⟩
    rw [hl] at hlk hlen
    clear hl
    go_wp2
    go_ret
    exact ⟨rfl, B1.out⟩
  · have HR := Lib.hid hrot
    clear hs hrot
    go_enter Tryz.func22, Tryz.ntmps22
    go_wp2_with fail
    refine (dmade_any H.out).mono ?_; rintro e w' ⟨rfl, rfl⟩
    go_wp2_with fail
    refine (has_yes H.out i hi).mono ?_; rintro e w' ⟨rfl, rfl⟩
    go_wp2_with fail
    refine (rotten_any H.out i hi).mono ?_; rintro e w1 ⟨rfl, b1⟩
    rw [HR.out]
    have B1 := Lib.hid b1
    clear b1
    go_wp2
    go_ret
    exact ⟨rfl, B1.out⟩
/-- the sector with those bits turned -/
def rotTo (S : Nat → Sec) (i : Nat) (bit : Int) (T : Nat) : List UInt8 := turned (S i).fixed bit T 32
set_option maxRecDepth 100000 in
set_option maxHeartbeats 4000000 in
theorem rot_clean (h : DvAt w F D p n N S rd wr fx m r g) (hN : N + 1 ≤ 1000000000) (i : Nat) (hi : i < n) (bit : Int) (T : Nat) (hb : 0 ≤ bit ∧ bit < 512) (hT : T < 4294967296) (hr : (S i).rotten = false) (hl : (S i).loose = []) :
    Calls Tryz.prog 22 #[.pointer (some ⟨D, 0, none⟩), .int .i64 (i : Int), .int .i64 bit, .int .u32 (T : Int)] w fun e w' =>
      (rotTo S i bit T = (S i).fixed ∧ e = .returned (.int .i64 1) ∧ Below w.heap.size w w') ∨
      (rotTo S i bit T ≠ (S i).fixed ∧ e = .returned (.int .i64 0) ∧ Dv w' (Ext F w w') D p n (N + 1) (upd S i ⟨rotTo S i bit T, [], true⟩) rd wr ∧ Chg F w w') := by
  have H := Lib.hid h
  obtain ⟨hb1, hb2⟩ := hb
  have hg : g i = none := by
    cases hg : g i with
    | none => rfl
    | some t => exact absurd hl (H.out.some_ i t hi hg).1
  have HG := Lib.hid hg
  have HR := Lib.hid hr
  have HLo := Lib.hid hl
  have HT := Lib.hid hT
  have hn := h.hn
  have hi2 : (i : Int) < (n : Int) := by omega
  clear h hg hr hl hT
  go_enter Tryz.func22, Tryz.ntmps22
  go_wp2_with fail
  refine (dmade_any H.out).mono ?_; rintro e w' ⟨rfl, rfl⟩
  go_wp2_with fail
  refine (has_yes H.out i hi).mono ?_; rintro e w' ⟨rfl, rfl⟩
  go_wp2_with fail
  refine (rotten_any H.out i hi).mono ?_; rintro e w1 ⟨rfl, b1⟩
  rw [HR.out]
  have H1 := Lib.hid (H.out.kept (G := fun _ => False) (Chg.of_below b1) (fun _ _ x => x))
  have B1 := Lib.hid b1
  obtain ⟨c0, c1, c2, c3, c4, c5, fr⟩ := H1.out.cells
  have hlk := H1.out.lm.look hi H1.out.hn
  rw [HG.out] at hlk
  rw [show slv none = .slice none 0 0 from rfl] at hlk
  clear b1
  go_wp2_with ((with_reducible refine L_slice (b := fx) (off := i * 64) ?_ ?_); exact rfl)
  refine (turn_any _ 64 _ (S i).fixed bit T _ (by decide) (H1.out.fixd.oct hi) HT.out).mono ?_; rintro e w2 ⟨v2, rfl, o2, b2⟩
  have hxl : (turned (S i).fixed bit T 32).length = 64 := by rw [turned_length]; exact H1.out.fixd.len hi
  obtain ⟨A2, cc2, rfl, l2, s2⟩ := o2.form hxl
  have HX : Hid (turned (S i).fixed bit T 32 = rotTo S i bit T) := rfl
  have HXL : Hid ((rotTo S i bit T).length = 64) := hxl
  rw [HX.out] at s2
  generalize rotTo S i bit T = x at HX HXL s2 ⊢
  have H2 := Lib.hid (H1.out.kept (G := fun _ => False) (Chg.of_below b2) (fun _ _ x => x))
  have B2 : Hid (Below w.heap.size w w2) := bthen B1.out b2
  have S2 := Lib.hid s2
  obtain ⟨b9, o9, rfl, _⟩ := s2.2 (by decide)
  have harr := run_arrayAt (some ⟨b9, o9, none⟩) cc2
  clear o2 b2 s2 hxl l2 c0 c1 c2 c3 c4 c5 fr hlk
  go_wp2_with (first
    | ((with_reducible refine L_load (b := b9) (off := o9) (xs := x) ?_ S2.out ?_); exact rfl)
    | ((with_reducible refine L_alloc ?_); intro w3 r3 g3 s3; have R3 := Lib.hid r3; have G3 := Lib.hid g3; clear r3 g3 s3)
    | ((with_reducible refine L_store (i := 0) (xs := x) ?_ ?_ R3.out ?_ ?_ ?_); exact rfl; exact rfl; decide; exact HXL.out; intro w4 r4 g4 s4; have R4 := Lib.hid r4; have G4 := Lib.hid g4; clear r4 g4 s4))
  have r4' : SRow w4 w2.heap.size 1 1 (fun _ => x) := R4.out.congr (fun j hj => by rw [show j = 0 by omega]; exact (upd_same _ _ _).symm)
  have R5 := Lib.hid r4'
  have b3 : Below w.heap.size w w3 := B2.out.grown G3.out B2.out.size (fun j e => by cases e)
  have b4 : Below w.heap.size w w4 := b3.grown G4.out b3.size (fun j e => by injection e with e; have := B2.out.size; omega)
  have B4 := Lib.hid b4
  have H4 := Lib.hid (H2.out.kept (G := fun k => k = w2.heap.size) (((Chg.of_grown G3.out (fun k e => by cases e)).trans (Chg.of_grown G4.out (fun k e _ => by injection e with e; exact e.symm)) (fun _ _ x => x))) (fun k hk e => by have := H2.out.bound k hk; omega))
  clear r4' b3 b4 R3 R4 G3 G4 S2 H1 B1 harr
  obtain ⟨c0, c1, c2, c3, c4, c5, fr⟩ := H4.out.cells
  refine wp_region_still_tail 8 (by kernel_rfl) (by kernel_rfl) ?_
  simp only [List.take_succ_cons, List.take_zero, List.drop_succ_cons, List.drop_zero]
  refine still_load (b := w2.heap.size) (off := 0) rfl (R5.out.oct (i := 0) (by decide)) ?_
  iterate 6 still_step
  refine still_load (b := fx) (off := i * 64) rfl (H4.out.fixd.oct hi) ?_
  refine wpStill_nil ?_
  change wpList _ _ _ _ _ w4.drew
  refine L_eq (xs := x) (ys := (S i).fixed) rfl rfl HXL.out (H4.out.fixd.len hi) ?_
  by_cases hx : x = (S i).fixed
  · have hq : (x == (S i).fixed) = true := by simp [hx]
    have EX := Lib.hid hx
    rw [hq]
    clear hx hq
    go_wp2
    go_ret
    exact .inl ⟨(show rotTo S i bit T = x from HX.out).trans EX.out, rfl, B4.out.drew⟩
  · have hq : (x == (S i).fixed) = false := by simp [hx]
    have EX := Lib.hid hx
    rw [hq]
    clear hx hq
    go_wp2_with fail
    have H5 : Hid (DvAt w4.drew F D p n N S rd wr fx m r g) := H4.out.frame (fun _ x => x) H4.out.bound (fun _ _ => rfl)
    have R6 : Hid (SRow w4.drew w2.heap.size 1 1 (fun _ => x)) := R5.out.heap rfl
    have B5 : Hid (Below w.heap.size w w4.drew) := B4.out.drew
    clear c0 c1 c2 c3 c4 c5 fr
    generalize w4.drew = w5 at H5 R6 B5 ⊢
    obtain ⟨c0, c1, c2, c3, c4, c5, fr⟩ := H5.out.cells
    refine wp_region_still_tail 7 (by kernel_rfl) (by kernel_rfl) ?_
    simp only [List.take_succ_cons, List.take_zero, List.drop_succ_cons, List.drop_zero]
    iterate 5 still_step
    refine still_load (b := w2.heap.size) (off := 0) rfl (R6.out.oct (i := 0) (by decide)) ?_
    still_step
    refine wpStill_nil ?_
    change wpList _ _ _ _ _ w5.drew
    refine L_store (i := i) (xs := x) ?_ ?_ (show SRow w5.drew fx n n (fun i => (S i).fixed) from H5.out.fixd) hi HXL.out ?_
    · rfl
    · rfl
    intro w6 r6 g6 s6
    have g6' : w5.grownBy w6 (some fx) := ⟨g6.os, g6.tape, g6.output, g6.size, g6.block⟩
    have RM6 := Lib.hid (H5.out.rm.heap (g6'.block _ H5.out.rm.lt (fun e => by
      obtain ⟨cur, hb, _⟩ := H5.out.fixd
      obtain ⟨_, ⟨es, c, hb2, _⟩, _⟩ := H5.out.rm
      injection e with e
      rw [e, hb] at hb2
      cases hb2)))
    have D6 := Lib.hid (g6'.block D (lt_of_heap H5.out.head) (fun e => by
      obtain ⟨cur, hb, _⟩ := H5.out.fixd
      have hb2 := H5.out.head
      injection e with e
      rw [e, hb] at hb2
      cases hb2))
    have d3 : w6.cell? ⟨D, 3, none⟩ = some (.map (some r)) := (World.cell?_of_block (a := ⟨D, 3, none⟩) D6.out).trans c3
    have R7 := Lib.hid r6
    have G6 := Lib.hid g6'
    clear r6 g6 g6' s6
    have hNm : N < maxLen := by unfold maxLen; omega
    go_wp2_with ((with_reducible refine L_putr ?_ ?_ ?_ RM6.out hi hn hNm ?_); exact rfl; exact rfl; exact rfl; intro w7 r7 g7; have RM7 := Lib.hid r7; have G7 := Lib.hid g7; clear r7 g7)
    go_ret
    rw [show rotTo S i bit T = x from HX.out]
    refine .inr ⟨EX.out, rfl, ?_, ?_⟩
    · have hc : Chg (fun k => k = fx ∨ k = r) w5 w7 := (Chg.of_grown G6.out (fun k e _ => .inl (by injection e with e; exact e.symm))).trans (Chg.of_grown G7.out (fun k e _ => .inr (by injection e with e; exact e.symm))) (fun _ _ x => x)
      have hd := H5.out.refix (N' := N + 1) hi (Nat.le_succ _) hN (R7.out.heap (G7.out.block _ R7.out.lt (fun e => by
        obtain ⟨cur, hb, _⟩ := R7.out
        obtain ⟨_, ⟨es, c, hb2, _⟩, _⟩ := RM6.out
        injection e with e
        rw [e, hb2] at hb
        cases hb))) RM7.out hc
      rw [HLo.out] at hd
      exact ⟨_, _, _, _, hd.ext (Nat.le_trans B5.out.size hc.size)⟩
    · refine ((Chg.of_below B5.out).trans (Chg.of_grown (F := F) G6.out (fun k e _ => by injection e with e; exact e ▸ H5.out.inF.2.1)) (fun _ _ x => x)).trans (Chg.of_grown (F := F) G7.out (fun k e _ => by injection e with e; exact e ▸ H5.out.inF.2.2.2)) (fun _ _ x => x)
end
end Go.Proofs.YtapklelkcicjlaaGreatDoor.Dw

/-! The document's devices: Rot. No conditions. -/
namespace Go.Proofs.YtapklelkcicjlaaGreatDoor.Dw
set_option maxRecDepth 100000
open Go.RowKit Oc Dm Gt Tn
set_option linter.unusedVariables false

theorem bytes_of (w : World) (xs : List UInt8) (B : ByteArray) (hB : tx xs = .string B) (hx : xs.length = 64) : ∃ c w', (convert 9 57 (.string B)).run Tryz.prog w = .ok (.slice (some ⟨w.heap.size, 0, none⟩) 64 c) w' ∧ Oct w' (some ⟨w.heap.size, 0, none⟩) 64 xs ∧ Below w.heap.size w w' := by
  have e : B = bstr xs := by unfold tx at hB; injection hB with hB; exact hB.symm
  subst e
  have hs : (bstr xs).size = 64 := hx
  have hrun := Lib.run_convert_string_bytes (P := Tryz.prog) w 9 57 5 (bstr xs) Tryz.underlying9 bt.sl bt.u8
  rw [hs] at hrun
  refine ⟨_, _, hrun, ⟨hx, fun _ => ⟨_, 0, rfl, fun j x hj => ?_⟩⟩, ⟨?_, ?_, ?_, ?_, fun k hk => Lib.bytesWorld_at_old w _ _ k hk⟩⟩
  · have hjl : j < xs.length := (List.getElem?_eq_some_iff.1 hj).1
    rw [Nat.zero_add, Lib.bytesWorld_cell w _ _ j (by rw [hs]; omega)]
    have : (bstr xs).data.toList = xs := by simp [bstr]
    rw [this]
    simp [List.getD, hj, ov]
  · simp [Lib.bytesWorld, World.freeze, World.alloc, World.drew, -World.alloc_eq, -World.drew_eq]
  · simp [Lib.bytesWorld, World.freeze, World.alloc, World.drew, -World.alloc_eq, -World.drew_eq]
  · simp [Lib.bytesWorld, World.freeze, World.alloc, World.drew, -World.alloc_eq, -World.drew_eq]
  · rw [Lib.bytesWorld_size]; omega
theorem tx_beq {xs ys : List UInt8} {B C : ByteArray} (hB : tx xs = .string B) (hC : tx ys = .string C) (p : Bool) (hp : decide (xs = ys) = p) : (B.toList == C.toList) = p := by
  have e : B = bstr xs := by unfold tx at hB; injection hB with hB; exact hB.symm
  have e2 : C = bstr ys := by unfold tx at hC; injection hC with hC; exact hC.symm
  subst e e2
  rw [ByteArray.toList_eq, ByteArray.toList_eq]
  show (xs == ys) = p
  rw [← hp]
  by_cases h : xs = ys <;> simp [h]
section
variable {w w' : World} {G G' : Nat → Prop} {E q n : Nat} {S : Nat → Sec} {rd wx gs : Nat} {vs : Nat → Value} {s : PS}
theorem put3_plain (h : RvAt w G E q n S rd wx gs vs) {i : Nat} (hi : i < n) (x : Sec) (hx : x.loose = []) {B : ByteArray} (hB : tx x.fixed = .string B) :
    RvAt (((w.setCell ⟨gs, i * 3, none⟩ (.string B)).setCell ⟨gs, i * 3 + 1, none⟩ (.slice none 0 0)).setCell ⟨gs, i * 3 + 2, none⟩ (.bool x.rotten)) G E q n (upd S i x) rd wx gs (upd vs i (.slice none 0 0)) ∧ Chg (fun k => k = gs) w (((w.setCell ⟨gs, i * 3, none⟩ (.string B)).setCell ⟨gs, i * 3 + 1, none⟩ (.slice none 0 0)).setCell ⟨gs, i * 3 + 2, none⟩ (.bool x.rotten)) := by
  obtain ⟨h1, h2, h3⟩ := put3_at h hi x hx hB (w' := (((w.setCell ⟨gs, i * 3, none⟩ (.string B)).setCell ⟨gs, i * 3 + 1, none⟩ (.slice none 0 0)).setCell ⟨gs, i * 3 + 2, none⟩ (.bool x.rotten)).drew) rfl
  exact ⟨h1.frame (fun _ y => y) h1.bound (fun _ _ => rfl), ⟨h3.os, h3.tape, h3.output, h3.size, h3.block⟩⟩
theorem rrot_range (h : RvAt w G E q n S rd wx gs vs) (z bit : Int) (u : Value) (hz : z < 0 ∨ (n : Int) ≤ z ∨ bit < 0 ∨ 512 ≤ bit) :
    Calls Tryz.prog 49 #[.pointer (some ⟨E, 0, none⟩), .int .i64 z, .int .i64 bit, u] w fun e w' => e = .returned (.int .i64 3) ∧ w = w' := by
  have H := Lib.hid h
  clear h
  by_cases h1 : z < 0 ∨ (n : Int) ≤ z
  · have hd : decide (0 ≤ z ∧ z < (n : Int)) = false := by simp; omega
    have HD := Lib.hid hd
    clear hz h1 hd
    go_enter Tryz.func49, Tryz.ntmps49
    go_wp2_with fail
    refine (rhas_any H.out z).mono ?_; rintro e w' ⟨rfl, rfl⟩
    rw [HD.out]
    go_wp2
    go_ret
    exact ⟨rfl, rfl⟩
  · have hd : decide (0 ≤ z ∧ z < (n : Int)) = true := by simp; omega
    have HD := Lib.hid hd
    by_cases h2 : bit < 0
    · clear hz h1 hd
      go_enter Tryz.func49, Tryz.ntmps49
      go_wp2_with fail
      refine (rhas_any H.out z).mono ?_; rintro e w' ⟨rfl, rfl⟩
      rw [HD.out]
      go_wp2
      go_ret
      exact ⟨rfl, rfl⟩
    · have h3 : 512 ≤ bit := by omega
      clear hz h1 hd
      go_enter Tryz.func49, Tryz.ntmps49
      go_wp2_with fail
      refine (rhas_any H.out z).mono ?_; rintro e w' ⟨rfl, rfl⟩
      rw [HD.out]
      go_wp2
      go_ret
      exact ⟨rfl, rfl⟩
theorem rrot_state (h : RvAt w G E q n S rd wx gs vs) (i : Nat) (hi : i < n) (bit : Int) (u : Value) (hb : 0 ≤ bit ∧ bit < 512) (hs : (S i).rotten = true ∨ (S i).loose ≠ []) :
    Calls Tryz.prog 49 #[.pointer (some ⟨E, 0, none⟩), .int .i64 (i : Int), .int .i64 bit, u] w fun e w' => e = .returned (.int .i64 6) ∧ w = w' := by
  have H := Lib.hid h
  obtain ⟨hb1, hb2⟩ := hb
  obtain ⟨c0, c1, c2, c3, fr⟩ := h.cells
  obtain ⟨s0, s1, s2, sf⟩ := h.sec hi
  obtain ⟨A, c, hv, hlc, hcm, hsl, hG⟩ := h.loose i hi
  rw [hv] at s1
  have hn := h.hn
  have hi2 : (i : Int) < (n : Int) := by omega
  have HD : Hid (decide (0 ≤ (i : Int) ∧ (i : Int) < (n : Int)) = true) := by show _ = _; simp; omega
  clear h hv hG hsl s0
  cases hrot : (S i).rotten
  · have hl : (S i).loose ≠ [] := hs.resolve_left (by rw [hrot]; decide)
    have hpos := List.length_pos_iff.2 hl
    have hpos2 : (0 : Int) < ((S i).loose.length : Int) := by omega
    rw [hrot] at s2
    generalize (S i).loose.length = k at s1 hpos hpos2 hlc
    clear hs hl hrot
    go_enter Tryz.func49, Tryz.ntmps49
    go_wp2_with fail
    refine (rhas_any H.out (i : Int)).mono ?_; rintro e w' ⟨rfl, rfl⟩
    rw [HD.out]
    go_wp2
    go_ret
    exact ⟨rfl, rfl⟩
  · rw [hrot] at s2
    clear hs hrot s1 hlc
    go_enter Tryz.func49, Tryz.ntmps49
    go_wp2_with fail
    refine (rhas_any H.out (i : Int)).mono ?_; rintro e w' ⟨rfl, rfl⟩
    rw [HD.out]
    go_wp2
    go_ret
    exact ⟨rfl, rfl⟩
set_option maxRecDepth 100000 in
set_option maxHeartbeats 4000000 in
theorem rrot_clean (h : RvAt w G E q n S rd wx gs vs) (i : Nat) (hi : i < n) (bit : Int) (T : Nat) (hb : 0 ≤ bit ∧ bit < 512) (hT : T < 4294967296) (hr : (S i).rotten = false) (hl : (S i).loose = []) (hfl : (S i).fixed.length = 64) :
    Calls Tryz.prog 49 #[.pointer (some ⟨E, 0, none⟩), .int .i64 (i : Int), .int .i64 bit, .int .u32 (T : Int)] w fun e w' =>
      (rotTo S i bit T = (S i).fixed ∧ e = .returned (.int .i64 1) ∧ Below w.heap.size w w') ∨
      (rotTo S i bit T ≠ (S i).fixed ∧ e = .returned (.int .i64 0) ∧ (∃ vs', RvAt w' G E q n (upd S i ⟨rotTo S i bit T, [], true⟩) rd wx gs vs') ∧ Chg (fun k => k = gs) w w') := by
  have H := Lib.hid h
  obtain ⟨hb1, hb2⟩ := hb
  obtain ⟨c0, c1, c2, c3, fr⟩ := h.cells
  obtain ⟨s0, s1, s2, sf⟩ := h.sec hi
  obtain ⟨A, c, hv, hlc, hcm, hsl, hG⟩ := h.loose i hi
  rw [hv, hl, List.length_nil] at s1
  rw [hr] at s2
  have hn := h.hn
  have hi2 : (i : Int) < (n : Int) := by omega
  have HD : Hid (decide (0 ≤ (i : Int) ∧ (i : Int) < (n : Int)) = true) := by show _ = _; simp; omega
  have HT := Lib.hid hT
  have HFL := Lib.hid hfl
  clear h hv hG hsl hlc hr hl hT
  obtain ⟨B0, hB0⟩ : ∃ B, tx (S i).fixed = .string B := ⟨_, rfl⟩
  rw [hB0] at s0
  have EB0 := Lib.hid hB0
  obtain ⟨c9, w9, hcv, o9, b9⟩ := bytes_of w (S i).fixed B0 hB0 hfl
  have O9 := Lib.hid o9
  have B9 := Lib.hid b9
  clear hB0 hfl o9 b9
  go_enter Tryz.func49, Tryz.ntmps49
  go_wp2_with fail
  refine (rhas_any H.out (i : Int)).mono ?_; rintro e w' ⟨rfl, rfl⟩
  rw [HD.out]
  go_wp2_with fail
  refine (rturn_any _ 64 _ (S i).fixed bit T _ (by decide) O9.out HT.out).mono ?_; rintro e w2 ⟨v2, rfl, o2, b2⟩
  have hxl : (turned (S i).fixed bit T 32).length = 64 := by rw [turned_length]; exact HFL.out
  obtain ⟨A2, cc2, rfl, l2, s2'⟩ := o2.form hxl
  have HX : Hid (turned (S i).fixed bit T 32 = rotTo S i bit T) := rfl
  rw [HX.out] at s2'
  generalize rotTo S i bit T = x at HX s2'
  obtain ⟨B1, hB1⟩ : ∃ B, tx x = .string B := ⟨_, rfl⟩
  have EB1 := Lib.hid hB1
  have cv2 := s2'.conv bt Tryz.underlying9 cc2
  rw [show Value.string (bstr x) = .string B1 from hB1] at cv2
  have B2 : Hid (Below w.heap.size w w2) := bthen B9.out b2
  have H2 := Lib.hid (H.out.below B2.out)
  clear o2 b2 s2' hxl l2 c0 c1 c2 c3 fr s0 s1 s2 sf hcv hB1
  obtain ⟨c0, c1, c2, c3, fr⟩ := H2.out.cells
  obtain ⟨s0, s1, s2, sf⟩ := H2.out.sec hi
  rw [EB0.out] at s0
  by_cases hx : x = (S i).fixed
  · have hq := tx_beq EB1.out EB0.out true (by simp [hx])
    have EX := Lib.hid hx
    clear hx
    go_wp2
    go_ret
    exact .inl ⟨(show rotTo S i bit T = x from HX.out).trans EX.out, rfl, B2.out⟩
  · have hq := tx_beq EB1.out EB0.out false (by simp [hx])
    have EX := Lib.hid hx
    clear hx
    go_wp2
    go_ret
    rw [show rotTo S i bit T = x from HX.out]
    refine .inr ⟨EX.out, rfl, ?_, ?_⟩
    · exact ⟨_, (put3_plain H2.out hi ⟨x, [], true⟩ rfl EB1.out).1⟩
    · exact (Chg.of_below B2.out).trans (put3_plain H2.out hi ⟨x, [], true⟩ rfl EB1.out).2 (fun _ _ x => x)
end
end Go.Proofs.YtapklelkcicjlaaGreatDoor.Dw
