/-
  The contract of the reference's Turn. No conditions.
-/
import Derived.Test.YthclgehifomkhaaDoorPgMem
import Derived.StillTailTactics
namespace Go.Proofs.YthclgehifomkhaaDoor.W
open Go.RowKit Oc
set_option linter.unusedVariables false

theorem half_more (x j : Nat) : x / 2 ^ j / 2 = x / 2 ^ (j + 1) := by rw [Nat.div_div_eq_div_mul, Nat.pow_succ]
theorem own_here {w : World} {e : TypeId} {B n : Nat} {v : Value} {xs : List UInt8} (h : Own w e B v xs) (hn : xs.length = n) (h0 : 0 < n) : ∃ g cap, v = .slice (some ⟨g, 0, none⟩) n cap ∧ B ≤ g := by
  rcases h.2 with ⟨_, hn⟩ | ⟨g, cap, cur, hv, hb, _⟩
  · omega
  · exact ⟨g, cap, by rw [hv, hn], hb⟩
theorem own_cell {w : World} {e : TypeId} {B g cap n j : Nat} {xs : List UInt8} {x : UInt8} (h : Own w e B (.slice (some ⟨g, 0, none⟩) n cap) xs) (hn : xs.length = n) (hx : xs[j]? = some x) : w.cell? ⟨g, j, none⟩ = some (.int .u8 (x.toNat : Int)) ∧ w.frozen? ⟨g, j, none⟩ = false := by
  subst hn
  have hj : j < xs.length := (List.getElem?_eq_some_iff.1 hx).1
  refine ⟨?_, World.ownsRow.frozenAt (base := B) (e := e) (size := 1) (xs := xs.map ov) h j⟩
  have := World.ownsRow.cellAt (w := w) (base := B) (e := e) (size := 1) (xs := xs.map ov) h j (by omega)
  rw [this, List.getElem?_map, hx]
  rfl
theorem flip_set (xs : List UInt8) (k : Nat) (x : UInt8) (hx : xs[k / 8]? = some x) : flipAt xs k = xs.set (k / 8) (flipB k x) := by
  apply List.ext_getElem?
  intro j
  unfold flipAt
  rw [List.getElem?_modify, List.getElem?_set]
  obtain ⟨hk, hx2⟩ := List.getElem?_eq_some_iff.1 hx
  by_cases h : k / 8 = j
  · subst h
    simp [hk, hx2]
  · simp [h]
theorem own_flipped {w : World} {e : TypeId} {B g cap n k : Nat} {xs : List UInt8} {x : UInt8} {z : Int} (h : Own w e B (.slice (some ⟨g, 0, none⟩) n cap) xs) (hn : xs.length = n) (hx : xs[k / 8]? = some x) (hz : z = ((flipB k x).toNat : Int)) :
    Own (w.setCell ⟨g, k / 8, none⟩ (.int .u8 z)) e B (.slice (some ⟨g, 0, none⟩) n cap) (flipAt xs k) ∧ w.grownBy (w.setCell ⟨g, k / 8, none⟩ (.int .u8 z)) (some g) := by
  subst hn hz
  obtain ⟨h1, h2⟩ := World.ownsRow.stored (w := w) (base := B) (e := e) (size := 1) (xs := xs.map ov) h (k / 8) (ov (flipB k x))
  refine ⟨?_, h2⟩
  rw [flip_set xs k x hx]
  unfold Own
  rw [List.length_set, List.map_set]
  exact h1

/-- what a call leaves that turns bits -/
theorem and1 {y : Nat} (h : y < 4294967296) : bits BinOp.and IntKind.u32 (y : Int) 1 = ((y % 2 : Nat) : Int) := by
  rw [← nat_mask1]
  exact u32_and_nat y 1 h (by decide)

theorem shr_int (T j : Nat) : (T : Int) / 2 ^ j = ((T / 2 ^ j : Nat) : Int) := by rw [Int.natCast_ediv, Int.natCast_pow]; rfl
theorem flip_val (x : UInt8) (k : Nat) : bits BinOp.xor IntKind.u8 (x.toNat : Int) (2 ^ (k % 8) % 256) = ((flipB k x).toNat : Int) := by
  have h := pow_mod8 k
  have e : (2 : Int) ^ (k % 8) % 256 = ((2 ^ (k % 8) : Nat) : Int) := by
    have h3 : ((2 : Int) ^ (k % 8)) = ((2 ^ (k % 8) : Nat) : Int) := by rw [Int.natCast_pow]; rfl
    rw [h3]
    generalize 2 ^ (k % 8) = p at h ⊢
    omega
  rw [e, u8_xor_nat _ _ (by have := x.toNat_lt; omega) h, flipB_nat]
theorem own_empty (w : World) (B : Nat) (hB : B ≤ w.heap.size) : Own (w.alloc (.cells #[] 5)) 5 B (.slice (some ⟨w.heap.size, 0, none⟩) 0 0) [] := World.ownsRow_lit (base := B) (e := 5) (size := 1) w #[] 0 hB (by decide) rfl
theorem flip_val2 (x : UInt8) (k a : Nat) (ha : a = 2 ^ (k % 8)) : bits BinOp.xor IntKind.u8 (x.toNat : Int) (a : Int) = ((flipB k x).toNat : Int) := by
  subst ha
  rw [u8_xor_nat _ _ (by have := x.toNat_lt; omega) (pow_mod8 k), flipB_nat]
theorem dbl_lt {i k a : Nat} (h : i < k % 8) (ha : a = 2 ^ i) : a * 2 < 256 := by
  have := Nat.pow_le_pow_right (n := 2) (by decide) (show i + 1 ≤ 7 by omega)
  rw [Nat.pow_succ] at this
  omega

set_option maxHeartbeats 4000000 in
theorem rturn_any (A : Option Addr) (n c : Nat) (xs : List UInt8) (at_ : Int) (T : Nat) (w : World) (hn : n ≤ 1000000) (ho : Oct w A n xs) (hT : T < 4294967296) :
    Calls Tryd.prog 16 #[.slice A n c, .int .i64 at_, .int .u32 (T : Int)] w (Made w (turned xs at_ T 32)) := by
  have HO := Lib.hid ho
  have HL := Lib.hid ho.len
  clear ho
  have O0 := Lib.hid (own_empty w w.heap.size (Nat.le_refl _))
  have HT := Lib.hid hT
  clear hT
  go_enter Tryd.func16, Tryd.ntmps16
  go_wp2_with (at_builtin; refine wpList_append_to rfl _ _ 26 rfl bt rfl O0.out (balloc _ _) _ rfl (HO.out.alloc _) (by simp; omega) ?_; intro v1 w1 o1 b1; rw [List.nil_append] at o1; have O1 := Lib.hid o1; have B1 := Lib.hid b1; clear o1 b1)
  go_loopw [2, 8] (fun m q wr => ∃ j M : Nat, j ≤ 32 ∧ q = .int .i64 j ∧ m = .int .u32 M ∧ M < 4294967296 ∧ Hid (M = T / 2 ^ j) ∧ Hid (Own wr 5 w.heap.size v1 (turned xs at_ T j)) ∧ Hid (Below w.heap.size w wr)) (fun _ q _ => 32 - (intOf q).toNat)
  case atStart => exact ⟨0, T, by omega, rfl, rfl, HT.out, by show _ = _; simp, O1, B1⟩
  case round =>
    obtain ⟨j, M, hj, rfl, rfl, hM, EM, OJ, BJ⟩ := hrel
    have EM2 : Hid (M / 2 = T / 2 ^ (j + 1)) := by show _ = _; rw [EM.out, half_more]
    by_cases hlt : j < 32
    · by_cases hh : hit n at_ T j
      · have hh2 : hit xs.length at_ T j := by rw [HL.out]; exact hh
        obtain ⟨hb, h3, h4⟩ := hh
        rw [← EM.out] at hb
        obtain ⟨k, hk⟩ : ∃ k : Nat, at_ + (j : Int) = (k : Int) := ⟨(at_ + j).toNat, by omega⟩
        have hkl : k < 8 * n := by omega
        have hge : 0 - (j : Int) ≤ at_ := by omega
        have hlt2 : at_ < 8 * (n : Int) - (j : Int) := by omega
        have hlj : (turned xs at_ T j).length = n := by rw [turned_length, HL.out]
        obtain ⟨g, cap, rfl, hg⟩ := own_here OJ.out hlj (by omega)
        obtain ⟨x, hx⟩ : ∃ x, (turned xs at_ T j)[k / 8]? = some x := ⟨_, List.getElem?_eq_getElem (by omega)⟩
        obtain ⟨hcell, hfr⟩ := own_cell OJ.out hlj hx
        have HX := Lib.hid hx
        have HH := Lib.hid hh2
        have HLJ := Lib.hid hlj
        clear hx hh2 hlj h3 h4
        go_wp2
        go_loop [10, 11] (fun s q => ∃ i a : Nat, i ≤ k % 8 ∧ q = .int .i64 i ∧ s = .int .u8 a ∧ a < 256 ∧ Hid (a = 2 ^ i)) (fun _ q => k % 8 - (intOf q).toNat)
        case atStart => exact ⟨0, 1, by omega, rfl, rfl, by omega, rfl⟩
        case round =>
          obtain ⟨i, a, hi, rfl, rfl, ha, EA⟩ := hrel
          by_cases hil : i < k % 8
          · have ha2 : a * 2 < 256 := dbl_lt hil EA.out
            go_wp2
            go_round
            case rel => exact ⟨i + 1, a * 2, by omega, rfl, by go_num, ha2, by show _ = _; rw [Nat.pow_succ, EA.out]⟩
            case measure => simp [intOf]; omega
          · have hie : i = k % 8 := by omega
            have EA2 : Hid (a = 2 ^ (k % 8)) := by rw [← hie]; exact EA
            clear hie
            go_wp2
            go_roundw
            case rel =>
              obtain ⟨o2, g2⟩ := own_flipped OJ.out HLJ.out HX.out (flip_val2 x k a EA2.out)
              exact ⟨j + 1, M / 2, by omega, rfl, by go_num, by omega, EM2, by show Own _ _ _ _ _; rw [turned_yes HH.out, hk, Int.toNat_natCast]; exact o2, BJ.out.grown g2 BJ.out.size fun g' e => by injection e with e; omega⟩
            case measure => simp [intOf]; omega
      · have hno : ¬ hit xs.length at_ T j := by rw [HL.out]; exact hh
        have HN := Lib.hid hno
        by_cases hb : M % 2 = 1
        · by_cases h3 : at_ + (j : Int) < 0
          · clear hh hno
            go_wp2
            go_roundw
            case rel => exact ⟨j + 1, M / 2, by omega, rfl, by go_num, by omega, EM2, by show Own _ _ _ _ _; rw [turned_no HN.out]; exact OJ.out, BJ⟩
            case measure => simp [intOf]; omega
          · have h4 : 8 * (n : Int) ≤ at_ + (j : Int) := by rw [EM.out] at hb; unfold hit at hh; omega
            clear hh hno
            go_wp2
            go_roundw
            case rel => exact ⟨j + 1, M / 2, by omega, rfl, by go_num, by omega, EM2, by show Own _ _ _ _ _; rw [turned_no HN.out]; exact OJ.out, BJ⟩
            case measure => simp [intOf]; omega
        · have hb2 : M % 2 = 0 := by omega
          clear hh hno hb
          go_wp2
          go_roundw
          case rel => exact ⟨j + 1, M / 2, by omega, rfl, by go_num, by omega, EM2, by show Own _ _ _ _ _; rw [turned_no HN.out]; exact OJ.out, BJ⟩
          case measure => simp [intOf]; omega
    · have : j = 32 := by omega
      subst this
      go_wp2
      go_ret
      exact ⟨_, rfl, OJ.out, BJ.out⟩
end Go.Proofs.YthclgehifomkhaaDoor.W
