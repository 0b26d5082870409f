/-
  Elder texts, one behind the other: PgMem, PgTurn, PgNum, PgWalks, PgRput, PgGet. No conditions.
-/
import Derived.Test.YtapklelkcicjlaaGreatDoorKCrc
import Derived.Laws.CopyOwn
import Derived.StillTailTactics
import Derived.Deep.RegionHeld
import Derived.Deep.DrawnRows
import Derived.RegionTactic
import Derived.BigRegion
/-! Octets made as zeros, set one by one, copied into a row of the call's own; the reference's Join of any number of parts. No conditions. -/
namespace Go.Proofs.YtapklelkcicjlaaGreatDoor.Oc
set_option maxRecDepth 100000
open Go.RowKit
set_option linter.unusedVariables false

theorem zeros_map (n : Nat) : (List.replicate n (0 : UInt8)).map ov = List.replicate n (Value.int .u8 0) := by
  rw [List.map_replicate]
  rfl
theorem wpList_make_zero {P : Program} {w : World} {ops : Array Oper} {rest : List Oper} {o : Oper} {a : Go.Act} {Q : Exit → Go.Act → World → Prop} (hgd : o.guard = none) (l c : Operand) (t : TypeId) (hop : o.op = Op.makeSlice t l c)
    {e : TypeId} (hT : ByteTy P t e) (L C : Int) (n : Nat) (hl : a.eval l = .int .i64 L) (hc : a.eval c = .int .i64 C) (hL : L = (n : Int)) (hC : C = (n : Int)) (hn : n ≤ 1000000000000)
    (hK : ∀ w', Own w' e w.heap.size (.slice (some ⟨w.heap.size, 0, none⟩) n n) (List.replicate n 0) → Below w.heap.size w w' → wpList P ops Q rest (a.put o.dst (.slice (some ⟨w.heap.size, 0, none⟩) n n)) w') : wpList P ops Q (o :: rest) a w := by
  obtain ⟨i, hi, hz0, hz1, hz2⟩ := info_parts hT.info
  refine wpList_make_full w hgd l c t hop w.heap.size e i (.int .u8 0) 1 hT.sl hi hz0 hz1 .i64 .i64 L C n hl hc hL hC (by rw [hz2]; omega) (by unfold maxLen; omega) (Nat.le_refl _) fun w' h1 h2 => hK w' ?_ ?_
  · unfold Own
    rw [List.length_replicate, zeros_map]
    rwa [show (Value.int .u8 0).cells = #[.int .u8 0] from rfl, Nat.mul_one, toList_madeCells_one] at h1
  · exact (Below.refl _ _).grown h2 (Nat.le_refl _) (fun _ h => by cases h)

theorem own_set {w : World} {e : TypeId} {B g cap n : Nat} {xs : List UInt8} (h : Own w e B (.slice (some ⟨g, 0, none⟩) n cap) xs) (hn : xs.length = n) (j : Nat) (x : UInt8) {z : Int} (hz : z = (x.toNat : Int)) :
    Own (w.setCell ⟨g, j, none⟩ (.int .u8 z)) e B (.slice (some ⟨g, 0, none⟩) n cap) (xs.set j x) ∧ w.grownBy (w.setCell ⟨g, j, none⟩ (.int .u8 z)) (some g) := by
  subst hn hz
  obtain ⟨h1, h2⟩ := World.ownsRow.stored (w := w) (base := B) (e := e) (size := 1) (xs := xs.map ov) h j (ov x)
  refine ⟨?_, h2⟩
  unfold Own
  rw [List.length_set, List.map_set]
  exact h1
theorem own_at {w : World} {e : TypeId} {B g cap n j : Nat} {xs : List UInt8} (h : Own w e B (.slice (some ⟨g, 0, none⟩) n cap) xs) (hn : xs.length = n) (hj : j < n) : (∃ z, w.cell? ⟨g, j, none⟩ = some (.int .u8 z)) ∧ w.frozen? ⟨g, j, none⟩ = false := by
  subst hn
  refine ⟨⟨(xs[j].toNat : Int), ?_⟩, World.ownsRow.frozenAt (base := B) (e := e) (size := 1) (xs := xs.map ov) h j⟩
  have := World.ownsRow.cellAt (w := w) (base := B) (e := e) (size := 1) (xs := xs.map ov) h j (by omega)
  rw [this, List.getElem?_map, List.getElem?_eq_getElem hj]
  rfl

theorem splice_front {α : Type} (X Y cs : List α) (off : Nat) (h : off + cs.length ≤ X.length) : splice (X ++ Y) off cs = splice X off cs ++ Y := by
  unfold splice
  rw [List.take_append_of_le_length (by omega), List.drop_append_of_le_length (by omega)]
  simp
/-- copy of octets into a row of the call's own, all of which fit -/
theorem wpList_copy_oct {P : Program} {w : World} {ops : Array Oper} {rest : List Oper} {o : Oper} {a : Go.Act} {Q : Exit → Go.Act → World → Prop} (hgd : o.guard = none) (d s : Operand) (t : TypeId)
    (ho : o.op = .call { callee := .builtin .copy, args := #[d, s], argTypes := #[t, t] }) {e : TypeId} (hT : ByteTy P t e)
    {w0 : World} {g n cap off dl dc : Nat} {xs : List UInt8} (hd : a.eval d = .slice (some ⟨g, off, none⟩) dl dc) (hown : Own w e w0.heap.size (.slice (some ⟨g, 0, none⟩) n cap) xs) (hxl : xs.length = n) (hb : Below w0.heap.size w0 w) (hdl : off + dl = n)
    {A : Option Addr} {m : Nat} (c : Nat) {ys : List UInt8} (hs : a.eval s = .slice A m c) (hr : Oct w A m ys) (hle : m ≤ dl)
    (h : ∀ w', Own w' e w0.heap.size (.slice (some ⟨g, 0, none⟩) n cap) (xs.take off ++ (ys ++ xs.drop (off + m))) → Below w0.heap.size w0 w' → wpList P ops Q rest (a.put o.dst (goInt m)) w') : wpList P ops Q (o :: rest) a w := by
  obtain ⟨i, hi, hz0, hz1, hz2⟩ := info_parts hT.info
  have hyl := hr.len
  rcases hown.2 with ⟨h0, _⟩ | ⟨g', cap', cur, he, hB, hh, hn, hm, hsz, htk⟩
  · cases h0
  · injection he with he he2 he3
    injection he with he
    injection he with he
    subst he he3
    have hcs : (ys.map ov).length = m := by rw [List.length_map, hyl]
    have hL : cur.toList.length = cap := by simp at hsz; simp [hsz]
    refine wpList_copy_splice hgd d s t t ho e hT.sl (by rw [hi]; simp [hz1]) _ A dl dc m c hd hs g off cur.toList e (by simpa using hh) (ys.map ov) (by rw [hcs]; exact (Nat.min_eq_left hle).symm) (fun hp => ⟨rfl, ?_⟩) (by rw [hcs, hL]; omega) (ov_one ys) w0.heap.size w0 hb hB ?_
    · obtain ⟨b, off2, rfl, hc⟩ := hr.2 (by omega)
      refine ⟨_, rfl, fun j v hv => ?_⟩
      rw [List.getElem?_map] at hv
      rcases hx : ys[j]? with _ | x
      · rw [hx] at hv; cases hv
      · rw [hx] at hv
        injection hv with hv
        subst hv
        rw [Go.WideShapes.add_plain]
        exact hc j x hx
    · intro w' hg' hb'
      rw [hcs]
      refine h w' ?_ hb'
      have hnl : (xs.take off ++ (ys ++ xs.drop (off + m))).length = n := by simp; omega
      refine ⟨by simp, .inr ⟨g, cap, _, by rw [hnl], hB, hg'.out, by omega, hm, ?_, ?_⟩⟩
      · rw [List.size_toArray, length_splice _ _ _ (by rw [hcs, hL]; omega), hL, Nat.mul_one]
      · rw [hnl, Nat.mul_one]
        have htk2 : cur.toList.take n = xs.map ov := by rw [← hxl]; simpa using htk
        show (splice cur.toList off (ys.map ov)).take n = _
        have hX : (cur.toList.take n).length = n := by rw [List.length_take, hL]; omega
        rw [← List.take_append_drop n cur.toList, splice_front _ _ _ _ (by rw [hX, hcs]; omega), List.take_append_of_le_length (by rw [length_splice _ _ _ (by rw [hX, hcs]; omega), hX]; exact Nat.le_refl _),
          List.take_of_length_le (by rw [length_splice _ _ _ (by rw [hX, hcs]; omega), hX]; exact Nat.le_refl _), htk2]
        unfold splice
        rw [hcs]
        simp [List.map_append, List.map_take, List.map_drop]
/-- the same, the operation written out: so that it is tried at a copy alone -/
theorem wpList_copy_at {P : Program} {w : World} {ops : Array Oper} {rest : List Oper} {a : Go.Act} {Q : Exit → Go.Act → World → Prop} {dst : Option Nat} {d s : Operand} {t ty : TypeId} {pos : String} {after : Array Edge} {e : TypeId} (w0 : World) (hT : ByteTy P t e)
    {g n cap off dl dc : Nat} {xs : List UInt8} (hd : a.eval d = .slice (some ⟨g, off, none⟩) dl dc) (hown : Own w e w0.heap.size (.slice (some ⟨g, 0, none⟩) n cap) xs) (hxl : xs.length = n) (hb : Below w0.heap.size w0 w) (hdl : off + dl = n)
    {A : Option Addr} {m c : Nat} {ys : List UInt8} (hs : a.eval s = .slice A m c) (hr : Oct w A m ys) (hle : m ≤ dl)
    (h : ∀ w', Own w' e w0.heap.size (.slice (some ⟨g, 0, none⟩) n cap) (xs.take off ++ (ys ++ xs.drop (off + m))) → Below w0.heap.size w0 w' → wpList P ops Q rest (a.put dst (goInt m)) w') :
    wpList P ops Q ({ dst := dst, op := .call { callee := .builtin .copy, args := #[d, s], argTypes := #[t, t] }, type := ty, pos := pos, after := after, guard := none } :: rest) a w :=
  wpList_copy_oct rfl d s t rfl hT hd hown hxl hb hdl c hs hr hle h
end Go.Proofs.YtapklelkcicjlaaGreatDoor.Oc

namespace Go.Proofs.YtapklelkcicjlaaGreatDoor.W
set_option maxRecDepth 100000
open Go.RowKit Oc
set_option linter.unusedVariables false

/-- a part of what is joined: a slice, and what it reads as -/
structure Part where
  A : Option Addr
  n : Nat
  c : Nat
  xs : List UInt8
/-- parts, one behind the other -/
def joined : List Part → List UInt8
  | [] => []
  | p :: ps => p.xs ++ joined ps
theorem joined_append (ps qs : List Part) : joined (ps ++ qs) = joined ps ++ joined qs := by
  induction ps with
  | nil => rfl
  | cons p ps ih => simp [joined, ih]
theorem joined_take (ps : List Part) (j : Nat) (p : Part) (h : ps[j]? = some p) : joined (ps.take (j + 1)) = joined (ps.take j) ++ p.xs := by
  rw [List.take_add_one, h, joined_append]
  simp [joined]
theorem joined_len (ps : List Part) (h : ∀ (j : Nat) (p : Part), ps[j]? = some p → p.xs.length ≤ 1000000) : (joined ps).length ≤ 1000000 * ps.length := by
  induction ps with
  | nil => simp [joined]
  | cons p ps ih =>
    have h1 := h 0 p rfl
    have h2 := ih fun j q hq => h (j + 1) q hq
    simp [joined]
    omega

set_option maxHeartbeats 1000000 in
theorem join_any (ps : List Part) (b m cc : Nat) (w : World) (hb : b < w.heap.size) (hm : ps.length = m) (hm2 : m ≤ 1000)
    (hp : ∀ (j : Nat) (p : Part), ps[j]? = some p → w.cell? ⟨b, j, none⟩ = some (.slice p.A p.n p.c) ∧ Oct w p.A p.n p.xs ∧ p.n ≤ 1000000) :
    Calls Tryz.prog 104 #[.slice (some ⟨b, 0, none⟩) m cc] w (Made w (joined ps)) := by
  have HP := Lib.hid hp
  have HM := Lib.hid hm
  clear hp hm
  go_enter Tryz.func104, Tryz.ntmps104
  go_wp2
  go_loopw [3, 4] (fun v q wr => ∃ j : Nat, j ≤ m ∧ q = .int .i64 j ∧ Hid (Own wr 5 w.heap.size v (joined (ps.take j))) ∧ Hid (Below w.heap.size w wr)) (fun _ q _ => m - (intOf q).toNat)
  case atStart => exact ⟨0, by omega, rfl, Own.nil _ _ _, Below.refl _ _⟩
  case round =>
    obtain ⟨j, hj, rfl, OJ, BJ⟩ := hrel
    by_cases hlt : j < m
    · obtain ⟨p, hpj⟩ : ∃ p, ps[j]? = some p := ⟨_, List.getElem?_eq_getElem (by rw [HM.out]; exact hlt)⟩
      obtain ⟨hc0, ho, hn⟩ := HP.out j p hpj
      have hc := (BJ.out.cell (p := ⟨b, j, none⟩) hb).trans hc0
      have hl := joined_len (ps.take j) fun i q hq => by
        have hq2 : ps[i]? = some q := by
          rw [List.getElem?_take] at hq
          split at hq
          · exact hq
          · cases hq
        have h3 := HP.out i q hq2
        rw [h3.2.1.len]; exact h3.2.2
      have hl2 : (joined (ps.take j)).length ≤ 1000000000 := by
        rw [List.length_take] at hl
        omega
      have HJ := Lib.hid (joined_take ps j p hpj)
      have HO := Lib.hid ho
      have HL := Lib.hid hl2
      clear hpj hc0 ho hl hl2
      go_wp2_with (at_builtin; refine wpList_append_to rfl _ _ 57 rfl bt rfl OJ.out BJ.out _ rfl (HO.out.below BJ.out) (by have := HL.out; omega) ?_; intro v3 w3 o3 b3; have O3 := Lib.hid o3; have B3 := Lib.hid b3; clear o3 b3)
      go_roundw
      case rel => exact ⟨j + 1, by omega, by go_num, by rw [HJ.out]; exact O3, B3⟩
      case measure => simp [intOf]; omega
    · have : j = m := by omega
      subst this
      go_wp2
      go_ret
      refine ⟨_, rfl, ?_, BJ.out⟩
      have e : ps.take j = ps := List.take_of_length_le (by rw [HM.out]; exact Nat.le_refl _)
      have := OJ.out
      rwa [e] at this
end Go.Proofs.YtapklelkcicjlaaGreatDoor.W

/-! The contract of the reference's Turn. No conditions. -/
namespace Go.Proofs.YtapklelkcicjlaaGreatDoor.W
set_option maxRecDepth 100000
open Go.RowKit Oc
set_option linter.unusedVariables false

theorem half_more (x j : Nat) : x / 2 ^ j / 2 = x / 2 ^ (j + 1) := by rw [Nat.div_div_eq_div_mul, Nat.pow_succ]
theorem own_here {w : World} {e : TypeId} {B n : Nat} {v : Value} {xs : List UInt8} (h : Own w e B v xs) (hn : xs.length = n) (h0 : 0 < n) : ∃ g cap, v = .slice (some ⟨g, 0, none⟩) n cap ∧ B ≤ g := by
  rcases h.2 with ⟨_, hn⟩ | ⟨g, cap, cur, hv, hb, _⟩
  · omega
  · exact ⟨g, cap, by rw [hv, hn], hb⟩
theorem own_cell {w : World} {e : TypeId} {B g cap n j : Nat} {xs : List UInt8} {x : UInt8} (h : Own w e B (.slice (some ⟨g, 0, none⟩) n cap) xs) (hn : xs.length = n) (hx : xs[j]? = some x) : w.cell? ⟨g, j, none⟩ = some (.int .u8 (x.toNat : Int)) ∧ w.frozen? ⟨g, j, none⟩ = false := by
  subst hn
  have hj : j < xs.length := (List.getElem?_eq_some_iff.1 hx).1
  refine ⟨?_, World.ownsRow.frozenAt (base := B) (e := e) (size := 1) (xs := xs.map ov) h j⟩
  have := World.ownsRow.cellAt (w := w) (base := B) (e := e) (size := 1) (xs := xs.map ov) h j (by omega)
  rw [this, List.getElem?_map, hx]
  rfl
theorem flip_set (xs : List UInt8) (k : Nat) (x : UInt8) (hx : xs[k / 8]? = some x) : flipAt xs k = xs.set (k / 8) (flipB k x) := by
  apply List.ext_getElem?
  intro j
  unfold flipAt
  rw [List.getElem?_modify, List.getElem?_set]
  obtain ⟨hk, hx2⟩ := List.getElem?_eq_some_iff.1 hx
  by_cases h : k / 8 = j
  · subst h
    simp [hk, hx2]
  · simp [h]
theorem own_flipped {w : World} {e : TypeId} {B g cap n k : Nat} {xs : List UInt8} {x : UInt8} {z : Int} (h : Own w e B (.slice (some ⟨g, 0, none⟩) n cap) xs) (hn : xs.length = n) (hx : xs[k / 8]? = some x) (hz : z = ((flipB k x).toNat : Int)) :
    Own (w.setCell ⟨g, k / 8, none⟩ (.int .u8 z)) e B (.slice (some ⟨g, 0, none⟩) n cap) (flipAt xs k) ∧ w.grownBy (w.setCell ⟨g, k / 8, none⟩ (.int .u8 z)) (some g) := by
  subst hn hz
  obtain ⟨h1, h2⟩ := World.ownsRow.stored (w := w) (base := B) (e := e) (size := 1) (xs := xs.map ov) h (k / 8) (ov (flipB k x))
  refine ⟨?_, h2⟩
  rw [flip_set xs k x hx]
  unfold Own
  rw [List.length_set, List.map_set]
  exact h1

/-- what a call leaves that turns bits -/
theorem and1 {y : Nat} (h : y < 4294967296) : bits BinOp.and IntKind.u32 (y : Int) 1 = ((y % 2 : Nat) : Int) := by
  rw [← nat_mask1]
  exact u32_and_nat y 1 h (by decide)

theorem shr_int (T j : Nat) : (T : Int) / 2 ^ j = ((T / 2 ^ j : Nat) : Int) := by rw [Int.natCast_ediv, Int.natCast_pow]; rfl
theorem flip_val (x : UInt8) (k : Nat) : bits BinOp.xor IntKind.u8 (x.toNat : Int) (2 ^ (k % 8) % 256) = ((flipB k x).toNat : Int) := by
  have h := pow_mod8 k
  have e : (2 : Int) ^ (k % 8) % 256 = ((2 ^ (k % 8) : Nat) : Int) := by
    have h3 : ((2 : Int) ^ (k % 8)) = ((2 ^ (k % 8) : Nat) : Int) := by rw [Int.natCast_pow]; rfl
    rw [h3]
    generalize 2 ^ (k % 8) = p at h ⊢
    omega
  rw [e, u8_xor_nat _ _ (by have := x.toNat_lt; omega) h, flipB_nat]
theorem own_empty (w : World) (B : Nat) (hB : B ≤ w.heap.size) : Own (w.alloc (.cells #[] 5)) 5 B (.slice (some ⟨w.heap.size, 0, none⟩) 0 0) [] := World.ownsRow_lit (base := B) (e := 5) (size := 1) w #[] 0 hB (by decide) rfl
theorem flip_val2 (x : UInt8) (k a : Nat) (ha : a = 2 ^ (k % 8)) : bits BinOp.xor IntKind.u8 (x.toNat : Int) (a : Int) = ((flipB k x).toNat : Int) := by
  subst ha
  rw [u8_xor_nat _ _ (by have := x.toNat_lt; omega) (pow_mod8 k), flipB_nat]
theorem dbl_lt {i k a : Nat} (h : i < k % 8) (ha : a = 2 ^ i) : a * 2 < 256 := by
  have := Nat.pow_le_pow_right (n := 2) (by decide) (show i + 1 ≤ 7 by omega)
  rw [Nat.pow_succ] at this
  omega

set_option maxHeartbeats 4000000 in
theorem rturn_any (A : Option Addr) (n c : Nat) (xs : List UInt8) (at_ : Int) (T : Nat) (w : World) (hn : n ≤ 1000000) (ho : Oct w A n xs) (hT : T < 4294967296) :
    Calls Tryz.prog 102 #[.slice A n c, .int .i64 at_, .int .u32 (T : Int)] w (Made w (turned xs at_ T 32)) := by
  have HO := Lib.hid ho
  have HL := Lib.hid ho.len
  clear ho
  have O0 := Lib.hid (own_empty w w.heap.size (Nat.le_refl _))
  have HT := Lib.hid hT
  clear hT
  go_enter Tryz.func102, Tryz.ntmps102
  go_wp2_with (at_builtin; refine wpList_append_to rfl _ _ 57 rfl bt rfl O0.out (balloc _ _) _ rfl (HO.out.alloc _) (by simp; omega) ?_; intro v1 w1 o1 b1; rw [List.nil_append] at o1; have O1 := Lib.hid o1; have B1 := Lib.hid b1; clear o1 b1)
  go_loopw [2, 8] (fun m q wr => ∃ j M : Nat, j ≤ 32 ∧ q = .int .i64 j ∧ m = .int .u32 M ∧ M < 4294967296 ∧ Hid (M = T / 2 ^ j) ∧ Hid (Own wr 5 w.heap.size v1 (turned xs at_ T j)) ∧ Hid (Below w.heap.size w wr)) (fun _ q _ => 32 - (intOf q).toNat)
  case atStart => exact ⟨0, T, by omega, rfl, rfl, HT.out, by show _ = _; simp, O1, B1⟩
  case round =>
    obtain ⟨j, M, hj, rfl, rfl, hM, EM, OJ, BJ⟩ := hrel
    have EM2 : Hid (M / 2 = T / 2 ^ (j + 1)) := by show _ = _; rw [EM.out, half_more]
    by_cases hlt : j < 32
    · by_cases hh : hit n at_ T j
      · have hh2 : hit xs.length at_ T j := by rw [HL.out]; exact hh
        obtain ⟨hb, h3, h4⟩ := hh
        rw [← EM.out] at hb
        obtain ⟨k, hk⟩ : ∃ k : Nat, at_ + (j : Int) = (k : Int) := ⟨(at_ + j).toNat, by omega⟩
        have hkl : k < 8 * n := by omega
        have hge : 0 - (j : Int) ≤ at_ := by omega
        have hlt2 : at_ < 8 * (n : Int) - (j : Int) := by omega
        have hlj : (turned xs at_ T j).length = n := by rw [turned_length, HL.out]
        obtain ⟨g, cap, rfl, hg⟩ := own_here OJ.out hlj (by omega)
        obtain ⟨x, hx⟩ : ∃ x, (turned xs at_ T j)[k / 8]? = some x := ⟨_, List.getElem?_eq_getElem (by omega)⟩
        obtain ⟨hcell, hfr⟩ := own_cell OJ.out hlj hx
        have HX := Lib.hid hx
        have HH := Lib.hid hh2
        have HLJ := Lib.hid hlj
        clear hx hh2 hlj h3 h4
        go_wp2
        go_loop [10, 11] (fun s q => ∃ i a : Nat, i ≤ k % 8 ∧ q = .int .i64 i ∧ s = .int .u8 a ∧ a < 256 ∧ Hid (a = 2 ^ i)) (fun _ q => k % 8 - (intOf q).toNat)
        case atStart => exact ⟨0, 1, by omega, rfl, rfl, by omega, rfl⟩
        case round =>
          obtain ⟨i, a, hi, rfl, rfl, ha, EA⟩ := hrel
          by_cases hil : i < k % 8
          · have ha2 : a * 2 < 256 := dbl_lt hil EA.out
            go_wp2
            go_round
            case rel => exact ⟨i + 1, a * 2, by omega, rfl, by go_num, ha2, by show _ = _; rw [Nat.pow_succ, EA.out]⟩
            case measure => simp [intOf]; omega
          · have hie : i = k % 8 := by omega
            have EA2 : Hid (a = 2 ^ (k % 8)) := by rw [← hie]; exact EA
            clear hie
            go_wp2
            go_roundw
            case rel =>
              obtain ⟨o2, g2⟩ := own_flipped OJ.out HLJ.out HX.out (flip_val2 x k a EA2.out)
              exact ⟨j + 1, M / 2, by omega, rfl, by go_num, by omega, EM2, by show Own _ _ _ _ _; rw [turned_yes HH.out, hk, Int.toNat_natCast]; exact o2, BJ.out.grown g2 BJ.out.size fun g' e => by injection e with e; omega⟩
            case measure => simp [intOf]; omega
      · have hno : ¬ hit xs.length at_ T j := by rw [HL.out]; exact hh
        have HN := Lib.hid hno
        by_cases hb : M % 2 = 1
        · by_cases h3 : at_ + (j : Int) < 0
          · clear hh hno
            go_wp2
            go_roundw
            case rel => exact ⟨j + 1, M / 2, by omega, rfl, by go_num, by omega, EM2, by show Own _ _ _ _ _; rw [turned_no HN.out]; exact OJ.out, BJ⟩
            case measure => simp [intOf]; omega
          · have h4 : 8 * (n : Int) ≤ at_ + (j : Int) := by rw [EM.out] at hb; unfold hit at hh; omega
            clear hh hno
            go_wp2
            go_roundw
            case rel => exact ⟨j + 1, M / 2, by omega, rfl, by go_num, by omega, EM2, by show Own _ _ _ _ _; rw [turned_no HN.out]; exact OJ.out, BJ⟩
            case measure => simp [intOf]; omega
        · have hb2 : M % 2 = 0 := by omega
          clear hh hno hb
          go_wp2
          go_roundw
          case rel => exact ⟨j + 1, M / 2, by omega, rfl, by go_num, by omega, EM2, by show Own _ _ _ _ _; rw [turned_no HN.out]; exact OJ.out, BJ⟩
          case measure => simp [intOf]; omega
    · have : j = 32 := by omega
      subst this
      go_wp2
      go_ret
      exact ⟨_, rfl, OJ.out, BJ.out⟩
end Go.Proofs.YtapklelkcicjlaaGreatDoor.W

/-! Pages: plain facts on which octets are one. No conditions. -/
namespace Go.Proofs.YtapklelkcicjlaaGreatDoor.W
set_option maxRecDepth 100000
open Go.RowKit Oc
set_option linter.unusedVariables false

/-- is there a kind? -/
abbrev Right (k : Int) : Prop := 1 ≤ k ∧ k ≤ 7
/-- what is summed of a page -/
def body (k : Nat) (ps : List UInt8) : List UInt8 := 213 :: UInt8.ofNat k :: (ps ++ List.replicate (58 - ps.length) 0)
theorem body_length (k : Nat) (ps : List UInt8) (h : ps.length ≤ 58) : (body k ps).length = 60 := by
  simp [body]
  omega
def putE (k : Int) (n : Nat) : Int := if ¬ Right k then 1 else if 58 < n then 7 else 0
def putL (k : Int) (ps : List UInt8) : List UInt8 := if putE k ps.length = 0 then sealed (body k.toNat ps) else []
theorem putE_arg {k : Int} (h : ¬ Right k) (n : Nat) : putE k n = 1 := if_pos h
theorem putE_long {k : Int} (h : Right k) {n : Nat} (hn : 58 < n) : putE k n = 7 := by unfold putE; rw [if_neg (fun h2 => h2 h), if_pos hn]
theorem putE_ok {k : Int} (h : Right k) {n : Nat} (hn : n ≤ 58) : putE k n = 0 := by unfold putE; rw [if_neg (fun h2 => h2 h), if_neg (by omega)]
theorem putL_no {k : Int} {ps : List UInt8} (h : putE k ps.length ≠ 0) : putL k ps = [] := if_neg h
theorem putL_ok {k : Nat} (h : Right (k : Int)) {ps : List UInt8} (hn : ps.length ≤ 58) : putL k ps = sealed (body k ps) := by
  unfold putL
  rw [if_pos (putE_ok h hn)]
  simp

/-- the kind that two octets tell -/
def kindV (x y : UInt8) : Nat := if x = 213 ∧ Right (y.toNat : Int) then y.toNat else 0
def kindL (bs : List UInt8) : Nat := kindV (bs.getD 0 0) (bs.getD 1 0)
def kindE (ys : List UInt8) : Nat := if ys.length = 64 ∧ openE ys = 0 then kindL (openL ys) else 0
def getE (ys : List UInt8) (k : Int) : Int := if ys.length ≠ 64 then 30 else if openE ys ≠ 0 then openE ys else if Right k ∧ (kindL (openL ys) : Int) = k then 0 else 31
def getL (ys : List UInt8) (k : Int) : List UInt8 := if getE ys k = 0 then (openL ys).drop 2 else []
theorem getE_short {ys : List UInt8} (h : ys.length ≠ 64) (k : Int) : getE ys k = 30 := if_pos h
theorem getE_sum {ys : List UInt8} (h : ys.length = 64) (h2 : openE ys ≠ 0) (k : Int) : getE ys k = openE ys := by
  unfold getE; rw [if_neg (fun h3 => h3 h), if_pos h2]
theorem getE_ok {ys : List UInt8} {k : Int} (h : ys.length = 64) (h2 : openE ys = 0) (h3 : Right k) (h4 : (kindL (openL ys) : Int) = k) : getE ys k = 0 := by
  unfold getE; rw [if_neg (fun h3 => h3 h), if_neg (fun h3 => h3 h2), if_pos ⟨h3, h4⟩]
theorem getE_form {ys : List UInt8} {k : Int} (h : ys.length = 64) (h2 : openE ys = 0) (h3 : ¬ (Right k ∧ (kindL (openL ys) : Int) = k)) : getE ys k = 31 := by
  unfold getE; rw [if_neg (fun h3 => h3 h), if_neg (fun h3 => h3 h2), if_neg h3]
theorem getL_no {ys : List UInt8} {k : Int} (h : getE ys k ≠ 0) : getL ys k = [] := if_neg h
theorem getL_ok {ys : List UInt8} {k : Int} (h : getE ys k = 0) : getL ys k = (openL ys).drop 2 := if_pos h
theorem openE_some (ys : List UInt8) (h : ys.length = 64) : openE ys = 0 ∨ openE ys = 40 := by
  unfold openE
  rw [if_neg (by omega)]
  by_cases h2 : num (ys.drop (ys.length - 4)) = sum (ys.take (ys.length - 4))
  · left; rw [if_pos h2]
  · right; rw [if_neg h2]
theorem openL_length {ys : List UInt8} (h : ys.length = 64) (h2 : openE ys = 0) : (openL ys).length = 60 := by
  rw [openL_yes h2, List.length_take, h]
  rfl
theorem getE_zero {ys : List UInt8} {k : Int} (h : getE ys k = 0) : ys.length = 64 ∧ openE ys = 0 ∧ Right k ∧ (kindL (openL ys) : Int) = k := by
  by_cases h1 : ys.length = 64
  · rcases openE_some ys h1 with h2 | h2
    · by_cases h3 : Right k ∧ (kindL (openL ys) : Int) = k
      · exact ⟨h1, h2, h3⟩
      · rw [getE_form h1 h2 h3] at h; cases h
    · rw [getE_sum h1 (by rw [h2]; decide), h2] at h; cases h
  · rw [getE_short h1] at h; cases h
theorem kindE_get {ys : List UInt8} {k : Nat} (h : getE ys (k : Int) = 0) : kindE ys = k := by
  obtain ⟨h1, h2, h3, h4⟩ := getE_zero h
  unfold kindE
  rw [if_pos ⟨h1, h2⟩]
  omega
theorem kindV_le (x y : UInt8) : kindV x y = 0 ∨ Right (kindV x y : Int) := by
  unfold kindV
  by_cases h : x = 213 ∧ Right (y.toNat : Int)
  · rw [if_pos h]; exact .inr h.2
  · rw [if_neg h]; exact .inl rfl
theorem kindE_none {ys : List UInt8} (h : ∀ k : Nat, Right (k : Int) → getE ys (k : Int) ≠ 0) : kindE ys = 0 := by
  unfold kindE
  by_cases h1 : ys.length = 64 ∧ openE ys = 0
  · rw [if_pos h1]
    rcases kindV_le ((openL ys).getD 0 0) ((openL ys).getD 1 0) with h2 | h2
    · exact h2
    · exact absurd (getE_ok h1.1 h1.2 h2 rfl) (h _ h2)
  · rw [if_neg h1]
theorem kindV_is {x y : UInt8} {k : Int} (hk : Right k) : (kindV x y : Int) = k ↔ x = 213 ∧ (y.toNat : Int) = k := by
  unfold kindV
  by_cases h : x = 213 ∧ Right (y.toNat : Int)
  · rw [if_pos h]
    exact ⟨fun e => ⟨h.1, e⟩, fun e => e.2⟩
  · rw [if_neg h]
    refine ⟨fun e => ?_, fun e => absurd ⟨e.1, e.2 ▸ hk⟩ h⟩
    unfold Right at hk
    omega
theorem getD_of {bs : List UInt8} {j : Nat} {x : UInt8} (h : bs[j]? = some x) : bs.getD j 0 = x := by simp [List.getD, h]

/-- what is put is got -/
theorem page_facts {k : Nat} (hk : Right (k : Int)) {ps : List UInt8} (hn : ps.length ≤ 58) : (sealed (body k ps)).length = 64 ∧ openE (sealed (body k ps)) = 0 ∧ openL (sealed (body k ps)) = body k ps ∧ kindL (body k ps) = k := by
  refine ⟨by rw [seal_length, body_length k ps hn], openE_seal _, openL_seal _, ?_⟩
  have h1 : k < 256 := by unfold Right at hk; omega
  have h2 : (UInt8.ofNat k).toNat = k := by simp; omega
  show kindV 213 (UInt8.ofNat k) = k
  unfold kindV
  rw [h2, if_pos ⟨rfl, hk⟩]
theorem page_get {k : Nat} (hk : Right (k : Int)) {ps : List UInt8} (hn : ps.length ≤ 58) : getE (sealed (body k ps)) (k : Int) = 0 := by
  obtain ⟨h1, h2, h3, h4⟩ := page_facts hk hn
  exact getE_ok h1 h2 hk (by rw [h3, h4])
theorem page_got {k : Nat} (hk : Right (k : Int)) {ps : List UInt8} (hn : ps.length ≤ 58) : getL (sealed (body k ps)) (k : Int) = ps ++ List.replicate (58 - ps.length) 0 := by
  rw [getL_ok (page_get hk hn), (page_facts hk hn).2.2.1]
  rfl
theorem page_other {k : Nat} (hk : Right (k : Int)) {ps : List UInt8} (hn : ps.length ≤ 58) {o : Int} (ho : o ≠ k) : getE (sealed (body k ps)) o = 31 := by
  obtain ⟨h1, h2, h3, h4⟩ := page_facts hk hn
  refine getE_form h1 h2 fun h => ho ?_
  rw [h3, h4] at h
  exact h.2.symm
theorem page_kind {k : Nat} (hk : Right (k : Int)) {ps : List UInt8} (hn : ps.length ≤ 58) : kindE (sealed (body k ps)) = k := kindE_get (page_get hk hn)
/-- are all octets 0? -/
def blank (xs : List UInt8) : Bool := xs.all (· == 0)
theorem blank_iff (xs : List UInt8) : blank xs = true ↔ xs = List.replicate xs.length 0 := by
  unfold blank
  rw [List.eq_replicate_iff]
  simp
theorem blank_zeros (n : Nat) : blank (List.replicate n 0) = true := by simp [blank]
theorem page_blank (k : Nat) (ps : List UInt8) : blank (sealed (body k ps)) = false := by
  simp [blank, sealed, body]
/-- bits turned within 32 in a row -/
theorem page_rots {k : Nat} {ps : List UInt8} (hn : ps.length ≤ 58) (at_ T : Nat) (h : ¬ sealed (body k ps) = turned (sealed (body k ps)) at_ T 32) (j : Int) :
    getE (turned (sealed (body k ps)) at_ T 32) j = 40 ∧ kindE (turned (sealed (body k ps)) at_ T 32) = 0 := by
  have hl : (turned (sealed (body k ps)) at_ T 32).length = 64 := by rw [turned_length, seal_length, body_length k ps hn]
  have he : openE (turned (sealed (body k ps)) at_ T 32) = 40 := by
    obtain ⟨ys, hys⟩ : ∃ ys, body k ps = ys := ⟨_, rfl⟩
    rw [hys] at h hl ⊢
    obtain ⟨U, hU, e⟩ := turned_num (sealed ys) at_ T 32
    have hl1 := turned_length (sealed ys) at_ T 32
    have hl2 := seal_length ys
    obtain ⟨cs, hcs⟩ : ∃ cs, turned (sealed ys) at_ T 32 = cs := ⟨_, rfl⟩
    rw [hcs] at e h hl hl1 ⊢
    have hc : cs.length - 4 = ys.length := by omega
    refine openE_no (by omega) fun hq => h ?_
    rw [hc] at hq
    have e2 : cs.take ys.length ++ cs.drop ys.length = cs := List.take_append_drop _ _
    have h3 := burst_seal (xs := ys) (zs := octs (sum ys) 4) (xs' := cs.take ys.length) (zs' := cs.drop ys.length) (by rw [List.length_take]; omega) (by rw [List.length_drop, octs_length]; omega) at_ U hU (by rw [e2]; exact e) (num_sum ys) hq
    rw [e2] at h3
    exact h3
  refine ⟨by rw [getE_sum hl (by rw [he]; decide), he], ?_⟩
  unfold kindE
  rw [if_neg (fun h2 => by rw [he] at h2; cases h2.2)]
end Go.Proofs.YtapklelkcicjlaaGreatDoor.W

/-! Contracts of the calls of page, and of the reference's. No conditions. -/
namespace Go.Proofs.YtapklelkcicjlaaGreatDoor.W
set_option maxRecDepth 100000
open Go.RowKit Oc
set_option linter.unusedVariables false


theorem kind_yes (k : Int) (w : World) (h : Right k) : Calls Tryz.prog 132 #[.int .i64 k] w fun e w' => e = .returned (.bool true) ∧ w = w' := by
  obtain ⟨h1, h2⟩ := h
  go_enter Tryz.func132, Tryz.ntmps132
  go_wp2
  go_ret
  exact ⟨rfl, rfl⟩
theorem kind_no (k : Int) (w : World) (h : ¬ Right k) : Calls Tryz.prog 132 #[.int .i64 k] w fun e w' => e = .returned (.bool false) ∧ w = w' := by
  unfold Right at h
  by_cases h1 : 1 ≤ k
  · have h2 : ¬ k ≤ 7 := fun h2 => h ⟨h1, h2⟩
    clear h
    go_enter Tryz.func132, Tryz.ntmps132
    go_wp2
    go_ret
    exact ⟨rfl, rfl⟩
  · clear h
    go_enter Tryz.func132, Tryz.ntmps132
    go_wp2
    go_ret
    exact ⟨rfl, rfl⟩
theorem rright_yes (k : Int) (w : World) (h : Right k) : Calls Tryz.prog 128 #[.int .i64 k] w fun e w' => e = .returned (.bool true) ∧ w = w' := by
  obtain ⟨h1, h2⟩ := h
  go_enter Tryz.func128, Tryz.ntmps128
  go_wp2
  go_ret
  exact ⟨rfl, rfl⟩
theorem rright_no (k : Int) (w : World) (h : ¬ Right k) : Calls Tryz.prog 128 #[.int .i64 k] w fun e w' => e = .returned (.bool false) ∧ w = w' := by
  unfold Right at h
  by_cases h1 : 1 ≤ k
  · have h2 : ¬ k ≤ 7 := fun h2 => h ⟨h1, h2⟩
    clear h
    go_enter Tryz.func128, Tryz.ntmps128
    go_wp2
    go_ret
    exact ⟨rfl, rfl⟩
  · clear h
    go_enter Tryz.func128, Tryz.ntmps128
    go_wp2
    go_ret
    exact ⟨rfl, rfl⟩

/-- what a call leaves that puts a page -/
def PTold (w : World) (k : Int) (ps : List UInt8) (e : Ending) (w' : World) : Prop := ∃ v, e = .returned (.tuple #[v, .int .i64 (putE k ps.length)]) ∧ Own w' 5 w.heap.size v (putL k ps) ∧ Below w.heap.size w w'
theorem ptold_no {w w' : World} {k : Int} {ps : List UInt8} {z : Int} (h : putE k ps.length = z) (hz : z ≠ 0) (hb : Below w.heap.size w w') : PTold w k ps (.returned (.tuple #[.slice none 0 0, .int .i64 z])) w' := by
  subst h
  refine ⟨_, rfl, ?_, hb⟩
  rw [putL_no hz]
  exact Own.nil _ _ _
theorem ptold_ok {w w' : World} {k : Nat} {ps xs : List UInt8} {v : Value} (hk : Right (k : Int)) (hn : ps.length ≤ 58) (hx : xs = body k ps) (ho : Own w' 5 w.heap.size v (sealed xs)) (hb : Below w.heap.size w w') : PTold w k ps (.returned (.tuple #[v, .int .i64 0])) w' := by
  refine ⟨v, by rw [putE_ok hk hn], ?_, hb⟩
  rw [putL_ok hk hn, ← hx]
  exact ho

theorem body_made (k : Nat) (ps : List UInt8) (hn : ps.length ≤ 58) : (((List.replicate 60 (0 : UInt8)).set 0 213).set 1 (UInt8.ofNat k)).take 2 ++ (ps ++ (((List.replicate 60 (0 : UInt8)).set 0 213).set 1 (UInt8.ofNat k)).drop (2 + ps.length)) = body k ps := by
  have e : ((List.replicate 60 (0 : UInt8)).set 0 213).set 1 (UInt8.ofNat k) = 213 :: UInt8.ofNat k :: List.replicate 58 0 := rfl
  rw [e, Nat.add_comm 2]
  show 213 :: UInt8.ofNat k :: (ps ++ (List.replicate 58 (0 : UInt8)).drop ps.length) = body k ps
  rw [List.drop_replicate]
  rfl

theorem below_two {w w1 : World} (h : Below w.heap.size w w1) {i j : Nat} {u v : Value} : Below w.heap.size w ((w1.setCell ⟨w.heap.size, i, none⟩ u).setCell ⟨w.heap.size, j, none⟩ v) :=
  (h.grown (grown_set w1 w.heap.size i u) h.size fun g e => by injection e with e; omega).grown (grown_set _ w.heap.size j v) (by rw [World.size_setCell]; exact h.size) fun g e => by injection e with e; omega
theorem oct_two {w w1 : World} {A : Option Addr} {n : Nat} {xs : List UInt8} (h : Oct w A n xs) (hb : Below w.heap.size w w1) {i j : Nat} {u v : Value} : Oct ((w1.setCell ⟨w.heap.size, i, none⟩ u).setCell ⟨w.heap.size, j, none⟩ v) A n xs := h.below (below_two hb)

set_option maxHeartbeats 1000000 in
theorem pput_any (A : Option Addr) (n c : Nat) (ps : List UInt8) (k : Int) (w : World) (hn : n ≤ 1000000) (ho : Oct w A n ps) (he : Env w) :
    Calls Tryz.prog 111 #[.int .i64 k, .slice A n c] w (PTold w k ps) := by
  have HO := Lib.hid ho
  have HE := Lib.hid he
  have hl := ho.len
  by_cases hk : Right k
  · by_cases h58 : 58 < n
    · have hq := Lib.hid (putE_long hk (n := ps.length) (by omega))
      have HK := Lib.hid hk
      clear ho he hl hk
      go_enter Tryz.func111, Tryz.ntmps111
      go_wp2_with fail
      refine (kind_yes k _ HK.out).mono ?_; rintro e w' ⟨rfl, rfl⟩
      go_wp2
      go_ret2
      exact ptold_no hq.out (by decide) (Below.refl _ _)
    · obtain ⟨κ, rfl⟩ : ∃ κ : Nat, k = (κ : Int) := ⟨k.toNat, by unfold Right at hk; omega⟩
      have hκ : κ ≤ 7 := by unfold Right at hk; omega
      have HK := Lib.hid hk
      have HL := Lib.hid hl
      have HN : Hid (ps.length ≤ 58) := by show _ ≤ _; omega
      have HB := Lib.hid (body_made κ ps HN.out)
      clear ho he hl hk
      go_enter Tryz.func111, Tryz.ntmps111
      go_wp2_with fail
      refine (kind_yes _ _ HK.out).mono ?_; rintro e w' ⟨rfl, rfl⟩
      have hκb : (κ : Int) = ((UInt8.ofNat κ).toNat : Int) := by simp; omega
      have HKB := Lib.hid hκb
      clear hκb
      go_wp2_with (first
        | (at_make; refine wpList_make_zero rfl _ _ 57 rfl bt 60 60 60 rfl rfl rfl rfl (by omega) ?_; intro w1 o1 b1; have c0 := own_at (j := 0) o1 (by rw [List.length_replicate]) (by omega); have c1 := own_at (j := 1) o1 (by rw [List.length_replicate]) (by omega); obtain ⟨⟨z0, d0⟩, f0⟩ := c0; obtain ⟨⟨z1, d1⟩, f1⟩ := c1; have O1 := Lib.hid o1; have B1 := Lib.hid b1; clear o1 b1)
        | ((with_reducible apply wpList_copy_at w bt); (case hd => rfl); (case hs => rfl); (case hdl => rfl); (case hown => exact (own_set (own_set O1.out (by rw [List.length_replicate]) 0 213 rfl).1 (by rw [List.length_set, List.length_replicate]) 1 (UInt8.ofNat κ) HKB.out).1); (case hxl => rw [List.length_set, List.length_set, List.length_replicate]); (case hb => exact below_two B1.out); (case hr => exact oct_two HO.out B1.out); (case hle => omega); intro w2 o2 b2; rw [← HL.out, HB.out] at o2; obtain ⟨A3, c3, hv3, l3, s3⟩ := o2.form (n := 60) (body_length κ ps HN.out); injection hv3 with hv3 hv4 hv5; have S2 := Lib.hid s3; have B2 := Lib.hid b2; have HA := Lib.hid hv3; clear o2 b2 s3 l3 hv3 hv4 hv5))
      refine (seal_any _ _ _ (body κ ps) _ (by omega) (by rw [HA.out]; exact S2.out) (HE.out.below B2.out)).mono ?_; rintro e w3 ⟨v3, rfl, o3, b3⟩
      have O3 := Lib.hid (o3.more B2.out.size)
      have B3 := Lib.hid (bthen B2.out b3)
      clear o3 b3
      go_wp2
      go_ret2
      exact ptold_ok HK.out HN.out rfl O3.out B3.out
  · have hq := Lib.hid (putE_arg hk ps.length)
    have HK := Lib.hid hk
    clear ho he hl hk
    go_enter Tryz.func111, Tryz.ntmps111
    go_wp2_with fail
    refine (kind_no k _ HK.out).mono ?_; rintro e w' ⟨rfl, rfl⟩
    go_wp2
    go_ret2
    exact ptold_no hq.out (by decide) (Below.refl _ _)
end Go.Proofs.YtapklelkcicjlaaGreatDoor.W

/-! Contracts of the reference's Put, and of Blank on both sides. No conditions. -/
namespace Go.Proofs.YtapklelkcicjlaaGreatDoor.W
set_option maxRecDepth 100000
open Go.RowKit Oc
set_option linter.unusedVariables false

theorem three_cells (w : World) (u v x : Value) (T : TypeId) (b : Nat) (hb : b = w.heap.size) : ∀ (j : Nat) (y : Value), [u, v, x][j]? = some y → (w.alloc (.cells #[u, v, x] T)).cell? ⟨b, j, none⟩ = some y := by
  subst hb
  intro j y hy
  rw [cell_of_row _ _ _ _ _ _ (heap_alloc_new w (.cells #[u, v, x] T))]
  simpa using hy
theorem body_joined (k : Nat) (ps : List UInt8) (A1 A2 A3 : Option Addr) (c1 n2 c2 n3 c3 : Nat) : joined [⟨A1, 2, c1, [213, UInt8.ofNat k]⟩, ⟨A2, n2, c2, ps⟩, ⟨A3, n3, c3, List.replicate (58 - ps.length) 0⟩] = body k ps := by
  simp [joined, body]

set_option maxHeartbeats 1000000 in
theorem rput_any (A : Option Addr) (n c : Nat) (ps : List UInt8) (k : Int) (w : World) (hn : n ≤ 1000000) (ho : Oct w A n ps) :
    Calls Tryz.prog 103 #[.int .i64 k, .slice A n c] w (PTold w k ps) := by
  have HO := Lib.hid ho
  have hl := ho.len
  by_cases hk : Right k
  · by_cases h58 : 58 < n
    · have hq := Lib.hid (putE_long hk (n := ps.length) (by omega))
      have HK := Lib.hid hk
      clear ho hl hk
      go_enter Tryz.func103, Tryz.ntmps103
      go_wp2_with fail
      refine (rright_yes k _ HK.out).mono ?_; rintro e w' ⟨rfl, rfl⟩
      go_wp2
      go_ret2
      exact ptold_no hq.out (by decide) (Below.refl _ _)
    · obtain ⟨κ, rfl⟩ : ∃ κ : Nat, k = (κ : Int) := ⟨k.toNat, by unfold Right at hk; omega⟩
      have hκ : κ ≤ 7 := by unfold Right at hk; omega
      have HK := Lib.hid hk
      have HL := Lib.hid hl
      have HN : Hid (ps.length ≤ 58) := by show _ ≤ _; omega
      have HB : Hid ((body κ ps).length = 60) := body_length κ ps HN.out
      obtain ⟨m, hm⟩ : ∃ m, m = 58 - n := ⟨_, rfl⟩
      have hm2 : (58 : Int) - (n : Int) = (m : Int) := by omega
      have HM : Hid (58 - ps.length = m) := by show _ = _; omega
      have hκb : (κ : Int) = ((UInt8.ofNat κ).toNat : Int) := by simp; omega
      have HKB := Lib.hid hκb
      have hm3 : m ≤ 58 := by omega
      clear ho hl hk hκb hm
      go_enter Tryz.func103, Tryz.ntmps103
      go_wp2_with fail
      refine (rright_yes _ _ HK.out).mono ?_; rintro e w' ⟨rfl, rfl⟩
      go_wp2_with (at_make; refine wpList_make_zero rfl _ _ 57 rfl bt _ _ m rfl rfl (by omega) (by omega) (by omega) ?_; intro w1 o1 b1; have O1 := Lib.hid o1; have B1 := Lib.hid b1; clear o1 b1)
      have hz : Oct w1 (some ⟨w.heap.size, 0, none⟩) 2 [213, UInt8.ofNat κ] := (Oct.cells w 5 [213, UInt8.ofNat κ] #[.int .u8 213, .int .u8 (κ : Int)] (by rw [HKB.out]; rfl)).below B1.out
      have Z := Lib.hid hz
      have B1' : Hid (Below w.heap.size w w1) := bthen (balloc _ _) B1.out
      obtain ⟨A3, c3, hv3, l3, s3⟩ := O1.out.form (n := m) (by rw [List.length_replicate])
      injection hv3 with hv3 hv4 hv5
      have S3 := Lib.hid s3
      have HA := Lib.hid hv3
      clear hz hv3 hv4 hv5 s3
      have hj := join_any [⟨some ⟨w.heap.size, 0, none⟩, 2, 2, [213, UInt8.ofNat κ]⟩, ⟨A, n, c, ps⟩, ⟨some ⟨(w.alloc (.cells #[.int .u8 213, .int .u8 (κ : Int)] 5)).heap.size, 0, none⟩, m, m, List.replicate m 0⟩] w1.heap.size 3 3
        (w1.alloc (.cells #[.slice (some ⟨w.heap.size, 0, none⟩) 2 2, .slice A n c, .slice (some ⟨(w.alloc (.cells #[.int .u8 213, .int .u8 (κ : Int)] 5)).heap.size, 0, none⟩) m m] 57)) (by simp) rfl (by decide) (by
          intro j p hp
          match j, hp with
          | 0, hp => injection hp with hp; subst hp; exact ⟨three_cells w1 _ _ _ _ _ rfl 0 _ rfl, Z.out.alloc _, by show 2 ≤ _; omega⟩
          | 1, hp => injection hp with hp; subst hp; exact ⟨three_cells w1 _ _ _ _ _ rfl 1 _ rfl, (HO.out.below B1'.out).alloc _, hn⟩
          | 2, hp => injection hp with hp; subst hp; exact ⟨three_cells w1 _ _ _ _ _ rfl 2 _ rfl, by rw [HA.out]; exact S3.out.alloc _, by show m ≤ _; omega⟩)
      have ej := body_joined κ ps (some ⟨w.heap.size, 0, none⟩) A (some ⟨(w.alloc (.cells #[.int .u8 213, .int .u8 (κ : Int)] 5)).heap.size, 0, none⟩) 2 n c m m
      rw [HM.out] at ej
      rw [ej] at hj
      have hsz : (w.alloc (.cells #[.int .u8 213, .int .u8 (κ : Int)] 5)).heap.size = w.heap.size + 1 := by simp
      rw [hsz] at hj
      have HJ := Lib.hid hj
      clear hj ej
      refine HJ.out.mono ?_; rintro e w2 ⟨v2, rfl, o2, b2⟩
      obtain ⟨A2, c2, rfl, l2, s2⟩ := o2.form (n := 60) HB.out
      have S2 := Lib.hid s2
      have B2 : Hid (Below w.heap.size w w2) := bthen (bthen B1'.out (balloc _ _)) b2
      clear o2 b2 s2
      go_wp2_with fail
      refine (rseal_any _ _ _ _ _ (by omega) S2.out).mono ?_; rintro e w3 ⟨v3, rfl, o3, b3⟩
      have O3 := Lib.hid (o3.more B2.out.size)
      have B3 := Lib.hid (bthen B2.out b3)
      clear o3 b3
      go_wp2
      go_ret2
      exact ptold_ok HK.out HN.out rfl O3.out B3.out
  · have hq := Lib.hid (putE_arg hk ps.length)
    have HK := Lib.hid hk
    clear ho hl hk
    go_enter Tryz.func103, Tryz.ntmps103
    go_wp2_with fail
    refine (rright_no k _ HK.out).mono ?_; rintro e w' ⟨rfl, rfl⟩
    go_wp2
    go_ret2
    exact ptold_no hq.out (by decide) (Below.refl _ _)

end Go.Proofs.YtapklelkcicjlaaGreatDoor.W

/-! Contracts of Get and Kind, and of the reference's Get, Kind and Blank. No conditions. -/
namespace Go.Proofs.YtapklelkcicjlaaGreatDoor.W
set_option maxRecDepth 100000
open Go.RowKit Oc
set_option linter.unusedVariables false

theorem popen_short (A : Option Addr) (n c : Nat) (w : World) (hn : n ≤ 1000000) (h : n ≠ 64) :
    Calls Tryz.prog 146 #[.slice A n c] w fun e w' => e = .returned (.tuple #[.slice none 0 0, .int .i64 30]) ∧ w = w' := by
  go_enter Tryz.func146, Tryz.ntmps146
  go_wp2
  go_ret2
  exact ⟨rfl, rfl⟩
theorem popen_any (A : Option Addr) (c : Nat) (ys : List UInt8) (w : World) (hc : 64 ≤ c) (ho : Oct w A 64 ys) (he : Env w) :
    Calls Tryz.prog 146 #[.slice A 64 c] w (Opened w ys) := by
  have HO := Lib.hid ho
  have HE := Lib.hid he
  clear ho he
  go_enter Tryz.func146, Tryz.ntmps146
  go_wp2_with fail
  refine (open_any _ _ _ ys _ (by omega) hc HO.out HE.out).mono ?_; rintro e w1 ⟨v1, rfl, o, b⟩
  have O := Lib.hid o
  have B := Lib.hid b
  clear o b
  obtain ⟨E, hE⟩ : ∃ E, openE ys = E := ⟨_, rfl⟩
  rw [hE]
  go_wp2
  go_ret2
  exact ⟨v1, by rw [hE]; rfl, O.out, B.out⟩

set_option maxHeartbeats 1000000 in
theorem kindOf_any (A : Option Addr) (c r : Nat) (bs : List UInt8) (w : World) (ho : Oct w A 60 bs) (hr : kindL bs = r) :
    Calls Tryz.prog 147 #[.slice A 60 c] w fun e w' => e = .returned (.int .i64 (r : Int)) ∧ w = w' := by
  obtain ⟨b, off, x, rfl, hx, c0⟩ := ho.at_ (k := 0) (by decide)
  obtain ⟨b', off', y, e, hy, c1⟩ := ho.at_ (k := 1) (by decide)
  injection e with e
  injection e with e1 e2
  subst e1 e2
  rw [Nat.add_zero] at c0
  unfold kindL at hr
  rw [getD_of hx, getD_of hy] at hr
  have hyl := y.toNat_lt
  clear ho hx hy
  by_cases h1 : x = 213
  · have hx0 : (x.toNat : Int) = 213 := by rw [h1]; rfl
    rw [hx0] at c0
    obtain ⟨N, hN⟩ : ∃ N, y.toNat = N := ⟨_, rfl⟩
    rw [hN] at c1 hyl
    by_cases h2 : Right (N : Int)
    · have hq : r = N := by rw [← hr]; unfold kindV; rw [if_pos ⟨h1, by rw [hN]; exact h2⟩, hN]
      subst hq
      have HK := Lib.hid h2
      clear hr hx0 h1 h2 hN
      go_enter Tryz.func147, Tryz.ntmps147
      go_wp2_with fail
      refine (kind_yes _ _ HK.out).mono ?_; rintro e w' ⟨rfl, rfl⟩
      go_wp2
      go_ret
      exact ⟨rfl, rfl⟩
    · have hq : r = 0 := by rw [← hr]; unfold kindV; rw [if_neg (fun h => h2 (by rw [← hN]; exact h.2))]
      subst hq
      have HK := Lib.hid h2
      clear hr hx0 h1 h2 hN
      go_enter Tryz.func147, Tryz.ntmps147
      go_wp2_with fail
      refine (kind_no _ _ HK.out).mono ?_; rintro e w' ⟨rfl, rfl⟩
      go_wp2
      go_ret
      exact ⟨rfl, rfl⟩
  · have hx0 : ¬ (x.toNat : Int) = 213 := fun h => h1 (UInt8.toNat_inj.1 (by have : x.toNat = 213 := by omega
                                                                             exact this))
    have hq : r = 0 := by rw [← hr]; unfold kindV; rw [if_neg (fun h => h1 h.1)]
    subst hq
    clear hr h1
    go_enter Tryz.func147, Tryz.ntmps147
    go_wp2
    go_ret
    exact ⟨rfl, rfl⟩

/-- what a call leaves that gets a payload -/
def GTold (w : World) (ys : List UInt8) (k : Int) (e : Ending) (w' : World) : Prop := ∃ v, e = .returned (.tuple #[v, .int .i64 (getE ys k)]) ∧ Own w' 5 w.heap.size v (getL ys k) ∧ Below w.heap.size w w'
theorem gtold_no {w w' : World} {k : Int} {ys : List UInt8} {z : Int} (h : getE ys k = z) (hz : z ≠ 0) (hb : Below w.heap.size w w') : GTold w ys k (.returned (.tuple #[.slice none 0 0, .int .i64 z])) w' := by
  subst h
  refine ⟨_, rfl, ?_, hb⟩
  rw [getL_no hz]
  exact Own.nil _ _ _
theorem gtold_ok {w w' : World} {k : Int} {ys zs : List UInt8} {v : Value} (h : getE ys k = 0) (hz : (openL ys).drop 2 = zs) (ho : Own w' 5 w.heap.size v zs) (hb : Below w.heap.size w w') : GTold w ys k (.returned (.tuple #[v, .int .i64 0])) w' := by
  refine ⟨v, by rw [h], ?_, hb⟩
  rw [getL_ok h, hz]
  exact ho
theorem all_new (bs : List UInt8) (h : bs.length = 60) : (List.replicate 58 (0 : UInt8)).take 0 ++ (bs.drop 2 ++ (List.replicate 58 (0 : UInt8)).drop (0 + 58)) = bs.drop 2 := by simp

set_option maxHeartbeats 1000000 in
theorem pget_any (A : Option Addr) (n c : Nat) (ys : List UInt8) (k : Int) (w : World) (hn : n ≤ 1000000) (hc : n ≤ c) (ho : Oct w A n ys) (he : Env w) :
    Calls Tryz.prog 120 #[.slice A n c, .int .i64 k] w (GTold w ys k) := by
  have HO := Lib.hid ho
  have HE := Lib.hid he
  have hl := ho.len
  by_cases h64 : n = 64
  · subst h64
    rcases openE_some ys hl with h0 | h0
    · have hbl := openL_length hl h0
      obtain ⟨bs, hbs⟩ : ∃ bs, openL ys = bs := ⟨_, rfl⟩
      rw [hbs] at hbl
      by_cases hk : Right k
      · obtain ⟨r, hr⟩ : ∃ r, kindL bs = r := ⟨_, rfl⟩
        by_cases hq : (r : Int) = k
        · have hz := getE_ok hl h0 hk (by rw [hbs, hr]; exact hq)
          have HZ := Lib.hid hz
          have H0 := Lib.hid h0
          have HBL := Lib.hid hbl
          have HBS := Lib.hid hbs
          have HK := Lib.hid hk
          have HR := Lib.hid hr
          subst hq
          clear ho he hl h0 hbl hbs hk hr hz
          go_enter Tryz.func120, Tryz.ntmps120
          go_wp2_with fail
          refine (popen_any _ _ ys _ hc HO.out HE.out).mono ?_; rintro e w1 ⟨v1, rfl, o, b⟩
          rw [H0.out]
          rw [HBS.out] at o
          obtain ⟨A1, c1, rfl, l1, s1⟩ := o.form HBL.out
          have S1 := Lib.hid s1
          have B1 := Lib.hid b
          clear o b s1
          go_wp2_with fail
          refine (kind_yes _ _ HK.out).mono ?_; rintro e w' ⟨rfl, rfl⟩
          go_wp2_with fail
          refine (kindOf_any _ _ r bs _ S1.out HR.out).mono ?_; rintro e w' ⟨rfl, rfl⟩
          go_wp2_with (first
            | (at_make; refine wpList_make_zero rfl _ _ 57 rfl bt 58 58 58 rfl rfl rfl rfl (by omega) ?_; intro w2 o2 b2; have O2 := Lib.hid o2; have B2 := Lib.hid b2; clear o2 b2)
            | ((with_reducible apply wpList_copy_at w1 bt); (case hd => rfl); (case hs => rfl); (case hdl => rfl); (case hown => exact O2.out); (case hxl => rw [List.length_replicate]); (case hb => exact B2.out); (case hr => exact (S1.out.map (k := 2) (by omega)).below B2.out); (case hle => omega); intro w3 o3 b3; rw [all_new bs HBL.out] at o3; have O3 := Lib.hid (o3.more B1.out.size); have B3 := Lib.hid (bthen B1.out b3); clear o3 b3))
          go_ret2
          exact gtold_ok HZ.out (by rw [HBS.out]) O3.out B3.out
        · have hz := getE_form (k := k) hl h0 (fun h => hq (by rw [← hr, ← hbs]; exact h.2))
          have HZ := Lib.hid hz
          have H0 := Lib.hid h0
          have HBL := Lib.hid hbl
          have HBS := Lib.hid hbs
          have HK := Lib.hid hk
          have HR := Lib.hid hr
          clear ho he hl h0 hbl hbs hk hr hz
          go_enter Tryz.func120, Tryz.ntmps120
          go_wp2_with fail
          refine (popen_any _ _ ys _ hc HO.out HE.out).mono ?_; rintro e w1 ⟨v1, rfl, o, b⟩
          rw [H0.out]
          rw [HBS.out] at o
          obtain ⟨A1, c1, rfl, l1, s1⟩ := o.form HBL.out
          have S1 := Lib.hid s1
          have B1 := Lib.hid b
          clear o b s1
          go_wp2_with fail
          refine (kind_yes _ _ HK.out).mono ?_; rintro e w' ⟨rfl, rfl⟩
          go_wp2_with fail
          refine (kindOf_any _ _ r bs _ S1.out HR.out).mono ?_; rintro e w' ⟨rfl, rfl⟩
          go_wp2
          go_ret2
          exact gtold_no HZ.out (by decide) B1.out
      · have hz := getE_form (k := k) hl h0 (fun h => hk h.1)
        have HZ := Lib.hid hz
        have H0 := Lib.hid h0
        have HK := Lib.hid hk
        clear ho he hl h0 hbl hbs hk hz
        go_enter Tryz.func120, Tryz.ntmps120
        go_wp2_with fail
        refine (popen_any _ _ ys _ hc HO.out HE.out).mono ?_; rintro e w1 ⟨v1, rfl, o, b⟩
        rw [H0.out]
        have B1 := Lib.hid b
        clear o b
        go_wp2_with fail
        refine (kind_no _ _ HK.out).mono ?_; rintro e w' ⟨rfl, rfl⟩
        go_wp2
        go_ret2
        exact gtold_no HZ.out (by decide) B1.out
    · have hz := getE_sum hl (by rw [h0]; decide) k
      rw [h0] at hz
      have HZ := Lib.hid hz
      have H0 := Lib.hid h0
      clear ho he hl h0 hz
      go_enter Tryz.func120, Tryz.ntmps120
      go_wp2_with fail
      refine (popen_any _ _ ys _ hc HO.out HE.out).mono ?_; rintro e w1 ⟨v1, rfl, o, b⟩
      rw [H0.out]
      have B1 := Lib.hid b
      clear o b
      go_wp2
      go_ret2
      exact gtold_no HZ.out (by decide) B1.out
  · have hz := getE_short (ys := ys) (by omega) k
    have HZ := Lib.hid hz
    clear ho he hl hz
    go_enter Tryz.func120, Tryz.ntmps120
    go_wp2_with fail
    refine (popen_short _ _ _ _ hn h64).mono ?_; rintro e w1 ⟨rfl, rfl⟩
    go_wp2
    go_ret2
    exact gtold_no HZ.out (by decide) (Below.refl _ _)

/-- the reference tells a part of what it got -/
def RGTold (w : World) (ys : List UInt8) (k : Int) (e : Ending) (w' : World) : Prop := ∃ A m c, e = .returned (.tuple #[.slice A m c, .int .i64 (getE ys k)]) ∧ Oct w A m (getL ys k) ∧ ∃ j, w' = w.drewN j
theorem rgtold_no {w : World} {k : Int} {ys : List UInt8} {z : Int} (h : getE ys k = z) (hz : z ≠ 0) (j : Nat) : RGTold w ys k (.returned (.tuple #[.slice none 0 0, .int .i64 z])) (w.drewN j) := by
  subst h
  refine ⟨none, 0, 0, rfl, ?_, j, rfl⟩
  rw [getL_no hz]
  exact Oct.nil _ _
theorem rgtold_ok {w : World} {k : Int} {ys zs : List UInt8} {A : Option Addr} {m c : Nat} (h : getE ys k = 0) (hz : (openL ys).drop 2 = zs) (ho : Oct w A m zs) (j : Nat) : RGTold w ys k (.returned (.tuple #[.slice A m c, .int .i64 0])) (w.drewN j) := by
  refine ⟨A, m, c, by rw [h], ?_, j, rfl⟩
  rw [getL_ok h, hz]
  exact ho

set_option maxHeartbeats 1000000 in
theorem rget_any (A : Option Addr) (n c : Nat) (ys : List UInt8) (k : Int) (w : World) (hn : n ≤ 1000000) (hc : n ≤ c) (ho : Oct w A n ys) :
    Calls Tryz.prog 126 #[.slice A n c, .int .i64 k] w (RGTold w ys k) := by
  have HO := Lib.hid ho
  have hl := ho.len
  by_cases h64 : n = 64
  · subst h64
    rcases openE_some ys hl with h0 | h0
    · have hbl := openL_length hl h0
      obtain ⟨bs, hbs⟩ : ∃ bs, openL ys = bs := ⟨_, rfl⟩
      rw [hbs] at hbl
      by_cases hk : Right k
      · obtain ⟨x, hx⟩ : ∃ x, bs[0]? = some x := ⟨_, List.getElem?_eq_getElem (by omega)⟩
        obtain ⟨y, hy⟩ : ∃ y, bs[1]? = some y := ⟨_, List.getElem?_eq_getElem (by omega)⟩
        have hyl := y.toNat_lt
        have hkl : kindL bs = kindV x y := by unfold kindL; rw [getD_of hx, getD_of hy]
        have his := kindV_is (x := x) (y := y) hk
        rw [← hkl, ← hbs] at his
        have hq : (getE ys k = 0 ∧ (x.toNat : Int) = 213 ∧ (y.toNat : Int) = k) ∨ (getE ys k = 31 ∧ ¬ (x.toNat : Int) = 213) ∨ (getE ys k = 31 ∧ (x.toNat : Int) = 213 ∧ ¬ (y.toNat : Int) = k) := by
          by_cases h1 : x = 213
          · have h2 : (x.toNat : Int) = 213 := by rw [h1]; rfl
            by_cases h3 : (y.toNat : Int) = k
            · exact .inl ⟨getE_ok hl h0 hk (his.2 ⟨h1, h3⟩), h2, h3⟩
            · exact .inr (.inr ⟨getE_form hl h0 (fun h => h3 (his.1 h.2).2), h2, h3⟩)
          · refine .inr (.inl ⟨getE_form hl h0 (fun h => h1 (his.1 h.2).1), fun h => h1 (UInt8.toNat_inj.1 (by have : x.toNat = 213 := by omega
                                                                                                               exact this))⟩)
        have H0 := Lib.hid h0
        have HBL := Lib.hid hbl
        have HBS := Lib.hid hbs
        have HK := Lib.hid hk
        have HX := Lib.hid hx
        have HY := Lib.hid hy
        have HQ := Lib.hid hq
        clear ho hl h0 hbl hbs hk hx hy his hkl hq
        go_enter Tryz.func126, Tryz.ntmps126
        go_wp2_with fail
        refine (ropen2_any _ _ _ ys _ (by omega) hc HO.out).mono ?_; rintro e w1 ⟨A1, m1, c1, hmc, rfl, o, kk, rfl⟩
        rw [H0.out]
        rw [HBS.out] at o
        have hm1 : m1 = 60 := by rw [← o.len]; exact HBL.out
        subst hm1
        obtain ⟨b, off, rfl, hcs⟩ := o.2 (by decide)
        have d0 : w.cell? ⟨b, off, none⟩ = some (.int .u8 (x.toNat : Int)) := hcs 0 x HX.out
        have d1 : w.cell? ⟨b, off + 1, none⟩ = some (.int .u8 (y.toNat : Int)) := hcs 1 y HY.out
        have O := Lib.hid o
        clear o hcs
        rcases HQ.out with ⟨hz, q1, q2⟩ | ⟨hz, q1⟩ | ⟨hz, q1, q2⟩
        · rw [q1] at d0
          have HZ := Lib.hid hz
          subst q2
          clear hz q1
          have o2 := O.out.map (k := 2) (by omega)
          have O2 := Lib.hid o2
          clear o2
          go_wp2_with fail
          refine (rright_yes _ _ HK.out).mono ?_; rintro e w' ⟨rfl, rfl⟩
          go_wp2
          go_ret2
          exact rgtold_ok HZ.out (by rw [HBS.out]) O2.out _
        · have HZ := Lib.hid hz
          clear hz
          go_wp2_with fail
          refine (rright_yes _ _ HK.out).mono ?_; rintro e w' ⟨rfl, rfl⟩
          go_wp2
          go_ret2
          exact rgtold_no HZ.out (by decide) _
        · rw [q1] at d0
          have HZ := Lib.hid hz
          clear hz q1
          go_wp2_with fail
          refine (rright_yes _ _ HK.out).mono ?_; rintro e w' ⟨rfl, rfl⟩
          go_wp2
          go_ret2
          exact rgtold_no HZ.out (by decide) _
      · have hz := getE_form (k := k) hl h0 (fun h => hk h.1)
        have HZ := Lib.hid hz
        have H0 := Lib.hid h0
        have HK := Lib.hid hk
        clear ho hl h0 hbl hbs hk hz
        go_enter Tryz.func126, Tryz.ntmps126
        go_wp2_with fail
        refine (ropen_any _ _ _ ys _ (by omega) hc HO.out).mono ?_; rintro e w1 ⟨A1, m1, c1, rfl, o, kk, rfl⟩
        rw [H0.out]
        clear o
        go_wp2_with fail
        refine (rright_no _ _ HK.out).mono ?_; rintro e w' ⟨rfl, rfl⟩
        go_wp2
        go_ret2
        exact rgtold_no HZ.out (by decide) _
    · have hz := getE_sum hl (by rw [h0]; decide) k
      rw [h0] at hz
      have HZ := Lib.hid hz
      have H0 := Lib.hid h0
      clear ho hl h0 hz
      go_enter Tryz.func126, Tryz.ntmps126
      go_wp2_with fail
      refine (ropen_any _ _ _ ys _ (by omega) hc HO.out).mono ?_; rintro e w1 ⟨A1, m1, c1, rfl, o, kk, rfl⟩
      rw [H0.out]
      clear o
      go_wp2
      go_ret2
      exact rgtold_no HZ.out (by decide) _
  · have hz := getE_short (ys := ys) (by omega) k
    have HZ := Lib.hid hz
    clear ho hl hz
    go_enter Tryz.func126, Tryz.ntmps126
    go_wp2
    go_ret2
    exact rgtold_no HZ.out (by decide) 0

theorem zeros_eq (xs : List UInt8) (n : Nat) (p : Bool) (hl : xs.length = n) (hp : blank xs = p) : ((bstr xs).toList == (bstr (List.replicate n 0)).toList) = p := by
  rw [ByteArray.toList_eq, ByteArray.toList_eq]
  show (xs == List.replicate n 0) = p
  rw [← hp]
  have h := blank_iff xs
  rw [hl] at h
  by_cases h2 : xs = List.replicate n 0
  · rw [h.2 h2]; simp [h2]
  · have h3 : blank xs = false := by
      cases h4 : blank xs
      · rfl
      · exact absurd (h.1 h4) h2
    rw [h3]
    simp [h2]

theorem below_of_drew {w w' : World} (h : Below w.drew.heap.size w.drew w') : Below w.heap.size w w' := ⟨h.os, h.tape, h.output, h.size, h.block⟩
theorem made_zero (w : World) (n : Nat) (hn : n ≤ 1000000) : ∃ w', (Instr.makeSlice 57 (.int .i64 (n : Int)) (.int .i64 (n : Int))).run Tryz.prog w = .ok (.slice (some ⟨w.heap.size, 0, none⟩) n n) w' ∧ Own w' 5 w.heap.size (.slice (some ⟨w.heap.size, 0, none⟩) n n) (List.replicate n 0) ∧ Below w.heap.size w w' := by
  obtain ⟨i, hi, hz0, hz1, hz2⟩ := info_parts bt.info
  obtain ⟨w', hrun, h1, h2⟩ := run_make_full (P := Tryz.prog) w w.heap.size 57 5 i (.int .u8 0) 1 bt.sl hi hz0 hz1 .i64 .i64 n (by rw [hz2]; omega) (by unfold maxLen; omega) (Nat.le_refl _)
  refine ⟨w', hrun, ?_, (Below.refl _ _).grown h2 (Nat.le_refl _) (fun _ h => by cases h)⟩
  unfold Own
  rw [List.length_replicate, zeros_map]
  rwa [show (Value.int .u8 0).cells = #[.int .u8 0] from rfl, Nat.mul_one, toList_madeCells_one] at h1
end Go.Proofs.YtapklelkcicjlaaGreatDoor.W
