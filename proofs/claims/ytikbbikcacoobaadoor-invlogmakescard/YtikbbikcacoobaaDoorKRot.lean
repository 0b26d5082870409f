/-
  Elder texts, one behind the other: DvTurn, DvRot, DvRrot. No conditions.
-/
import Derived.Test.YtikbbikcacoobaaDoorKDs
import Derived.Laws.BitsAllLaws
import Derived.IntWalk
import Derived.Test.YtikbbikcacoobaaDoorKDw
import Derived.Stop.BytesEq
import Derived.Test.YtikbbikcacoobaaDoorKDr
import Derived.Lib.ConvBytes
/-! Turned bits: plain facts, and the contracts of crc.Turn and of the reference's. No conditions. -/
namespace Go.Proofs.YtikbbikcacoobaaDoor.Tn
set_option maxRecDepth 100000
open Go.RowKit Oc Dm
set_option linter.unusedVariables false

def flipB (k : Nat) (x : UInt8) : UInt8 := x ^^^ UInt8.ofNat (2 ^ (k % 8))
def flipAt (xs : List UInt8) (k : Nat) : List UInt8 := xs.modify (k / 8) (flipB k)
theorem flip_length (xs : List UInt8) (k : Nat) : (flipAt xs k).length = xs.length := List.length_modify ..
theorem pow_mod8 (k : Nat) : 2 ^ (k % 8) < 256 := by
  have h : k % 8 < 8 := by omega
  have := Nat.pow_lt_pow_right (a := 2) (by decide) h
  omega
theorem flipB_nat (k : Nat) (x : UInt8) : (flipB k x).toNat = x.toNat ^^^ 2 ^ (k % 8) := by
  unfold flipB
  rw [UInt8.toNat_xor]
  congr 1
  have := pow_mod8 k
  simp
  omega
theorem flipB_eight (k : Nat) (x : UInt8) : flipB (k + 8) x = flipB k x := by
  unfold flipB
  rw [Nat.add_mod_right]
abbrev hit (n : Nat) (at_ : Int) (T i : Nat) : Prop := T / 2 ^ i % 2 = 1 ∧ 0 ≤ at_ + i ∧ at_ + i < 8 * n
def turned (xs : List UInt8) (at_ : Int) (T : Nat) : Nat → List UInt8
  | 0 => xs
  | i + 1 => if hit xs.length at_ T i then flipAt (turned xs at_ T i) (at_ + i).toNat else turned xs at_ T i
theorem turned_length (xs : List UInt8) (at_ : Int) (T i : Nat) : (turned xs at_ T i).length = xs.length := by
  induction i with
  | zero => rfl
  | succ i ih => unfold turned; split; · rw [flip_length, ih]
                 · exact ih
theorem turned_yes {xs : List UInt8} {at_ : Int} {T i : Nat} (h : hit xs.length at_ T i) : turned xs at_ T (i + 1) = flipAt (turned xs at_ T i) (at_ + i).toNat := if_pos h
theorem turned_no {xs : List UInt8} {at_ : Int} {T i : Nat} (h : ¬ hit xs.length at_ T i) : turned xs at_ T (i + 1) = turned xs at_ T i := if_neg h
theorem turned_far (xs : List UInt8) (at_ : Int) (T i : Nat) (hi : i ≤ 32) (h : at_ ≤ -32 ∨ (8 * xs.length : Int) ≤ at_) : turned xs at_ T i = xs := by
  induction i with
  | zero => rfl
  | succ i ih => rw [turned_no (by unfold hit; omega), ih (by omega)]

/-- what a call leaves that hands back octets in new memory -/
def Made (w : World) (xs : List UInt8) (e : Ending) (w' : World) : Prop := ∃ v, e = .returned v ∧ Own w' 5 w.heap.size v xs ∧ Below w.heap.size w w'
theorem balloc (w : World) (o : Obj) : Below w.heap.size w (w.alloc o) := (Below.refl _ _).alloc (Nat.le_refl _) _
theorem half_more (x j : Nat) : x / 2 ^ j / 2 = x / 2 ^ (j + 1) := by rw [Nat.div_div_eq_div_mul, Nat.pow_succ]
theorem own_here {w : World} {e : TypeId} {B n : Nat} {v : Value} {xs : List UInt8} (h : Own w e B v xs) (hn : xs.length = n) (h0 : 0 < n) : ∃ g cap, v = .slice (some ⟨g, 0, none⟩) n cap ∧ B ≤ g := by
  rcases h.2 with ⟨_, hn⟩ | ⟨g, cap, cur, hv, hb, _⟩
  · omega
  · exact ⟨g, cap, by rw [hv, hn], hb⟩
theorem own_cell {w : World} {e : TypeId} {B g cap n j : Nat} {xs : List UInt8} {x : UInt8} (h : Own w e B (.slice (some ⟨g, 0, none⟩) n cap) xs) (hn : xs.length = n) (hx : xs[j]? = some x) : w.cell? ⟨g, j, none⟩ = some (.int .u8 (x.toNat : Int)) ∧ w.frozen? ⟨g, j, none⟩ = false := by
  subst hn
  have hj : j < xs.length := (List.getElem?_eq_some_iff.1 hx).1
  refine ⟨?_, World.ownsRow.frozenAt (base := B) (e := e) (size := 1) (xs := xs.map ov) h j⟩
  have := World.ownsRow.cellAt (w := w) (base := B) (e := e) (size := 1) (xs := xs.map ov) h j (by omega)
  rw [this, List.getElem?_map, hx]
  rfl
theorem flip_set (xs : List UInt8) (k : Nat) (x : UInt8) (hx : xs[k / 8]? = some x) : flipAt xs k = xs.set (k / 8) (flipB k x) := by
  apply List.ext_getElem?
  intro j
  unfold flipAt
  rw [List.getElem?_modify, List.getElem?_set]
  obtain ⟨hk, hx2⟩ := List.getElem?_eq_some_iff.1 hx
  by_cases h : k / 8 = j
  · subst h
    simp [hk, hx2]
  · simp [h]
theorem own_flipped {w : World} {e : TypeId} {B g cap n k : Nat} {xs : List UInt8} {x : UInt8} {z : Int} (h : Own w e B (.slice (some ⟨g, 0, none⟩) n cap) xs) (hn : xs.length = n) (hx : xs[k / 8]? = some x) (hz : z = ((flipB k x).toNat : Int)) :
    Own (w.setCell ⟨g, k / 8, none⟩ (.int .u8 z)) e B (.slice (some ⟨g, 0, none⟩) n cap) (flipAt xs k) ∧ w.grownBy (w.setCell ⟨g, k / 8, none⟩ (.int .u8 z)) (some g) := by
  subst hn hz
  obtain ⟨h1, h2⟩ := World.ownsRow.stored (w := w) (base := B) (e := e) (size := 1) (xs := xs.map ov) h (k / 8) (ov (flipB k x))
  refine ⟨?_, h2⟩
  rw [flip_set xs k x hx]
  unfold Own
  rw [List.length_set, List.map_set]
  exact h1

/-- what a call leaves that turns bits -/
theorem and1 {y : Nat} (h : y < 4294967296) : bits BinOp.and IntKind.u32 (y : Int) 1 = ((y % 2 : Nat) : Int) := by
  rw [← nat_mask1]
  exact u32_and_nat y 1 h (by decide)

theorem shr_int (T j : Nat) : (T : Int) / 2 ^ j = ((T / 2 ^ j : Nat) : Int) := by rw [Int.natCast_ediv, Int.natCast_pow]; rfl
theorem flip_val (x : UInt8) (k : Nat) : bits BinOp.xor IntKind.u8 (x.toNat : Int) (2 ^ (k % 8) % 256) = ((flipB k x).toNat : Int) := by
  have h := pow_mod8 k
  have e : (2 : Int) ^ (k % 8) % 256 = ((2 ^ (k % 8) : Nat) : Int) := by
    have h3 : ((2 : Int) ^ (k % 8)) = ((2 ^ (k % 8) : Nat) : Int) := by rw [Int.natCast_pow]; rfl
    rw [h3]
    generalize 2 ^ (k % 8) = p at h ⊢
    omega
  rw [e, u8_xor_nat _ _ (by have := x.toNat_lt; omega) h, flipB_nat]
theorem own_empty (w : World) (B : Nat) (hB : B ≤ w.heap.size) : Own (w.alloc (.cells #[] 5)) 5 B (.slice (some ⟨w.heap.size, 0, none⟩) 0 0) [] := World.ownsRow_lit (base := B) (e := 5) (size := 1) w #[] 0 hB (by decide) rfl
theorem flip_val2 (x : UInt8) (k a : Nat) (ha : a = 2 ^ (k % 8)) : bits BinOp.xor IntKind.u8 (x.toNat : Int) (a : Int) = ((flipB k x).toNat : Int) := by
  subst ha
  rw [u8_xor_nat _ _ (by have := x.toNat_lt; omega) (pow_mod8 k), flipB_nat]
theorem dbl_lt {i k a : Nat} (h : i < k % 8) (ha : a = 2 ^ i) : a * 2 < 256 := by
  have := Nat.pow_le_pow_right (n := 2) (by decide) (show i + 1 ≤ 7 by omega)
  rw [Nat.pow_succ] at this
  omega

end Go.Proofs.YtikbbikcacoobaaDoor.Tn

/-! The contract of Rot. No conditions. -/
namespace Go.Proofs.YtikbbikcacoobaaDoor.Dw
set_option maxRecDepth 100000
open Go.RowKit Oc Dm Gt Tn
set_option linter.unusedVariables false

theorem run_eq_sec (w : World) (xs ys : List UInt8) (hx : xs.length = 64) (hy : ys.length = 64) : (binOp .eql 103 (sv xs) (sv ys)).run Tryd.prog w = .ok (.bool (xs == ys)) w :=
  run_eql_bytes w 103 5 64 Tryd.underlying103 Tryd.underlying5 Tryd.sizeOf5 xs ys hx hy
theorem sec_guard : Tryd.prog.eqGuardType Tryd.prog.depth 103 = false := by kernel_rfl
theorem L_eq {ops : Array Oper} {rest : List Oper} {a : Act} {w : World} {Q : Exit → Act → World → Prop} {dst : Option Tmp} {ty : TypeId} {pos : String} {af : Array Edge} {x y : Operand} {xs ys : List UInt8} (hx : a.eval x = sv xs) (hy : a.eval y = sv ys) (h1 : xs.length = 64) (h2 : ys.length = 64)
    (hK : wpList Tryd.prog ops Q rest (a.put dst (.bool (xs == ys))) w) : wpList Tryd.prog ops Q (⟨dst, .binOp .eql 103 x y 103, ty, pos, af, none⟩ :: rest) a w := by
  refine wpList_plain rfl fun K hK' => ?_
  have hg := run_eqGuard_agg (P := Tryd.prog) w .eql 103 x y (xs.map ov).toArray (ys.map ov).toArray sec_guard
  have hr := run_eq_sec w xs ys h1 h2
  unfold sv at hr hx hy
  unfold Oper.wp
  simp [execOp, hx, hy, hg, hr, Result.andThen]
  exact hK' _ _ hK
section
variable {w w' : World} {F : Nat → Prop} {D p n N : Nat} {S : Nat → Sec} {rd wr fx m r : Nat} {g : Nat → Option Pl} {s : PS}
/-- the sector with those bits turned -/
def rotTo (S : Nat → Sec) (i : Nat) (bit : Int) (T : Nat) : List UInt8 := turned (S i).fixed bit T 32
end
end Go.Proofs.YtikbbikcacoobaaDoor.Dw

/-! The document's devices: Rot. No conditions. -/
namespace Go.Proofs.YtikbbikcacoobaaDoor.Dw
set_option maxRecDepth 100000
open Go.RowKit Oc Dm Gt Tn
set_option linter.unusedVariables false

theorem bytes_of (w : World) (xs : List UInt8) (B : ByteArray) (hB : tx xs = .string B) (hx : xs.length = 64) : ∃ c w', (convert 9 83 (.string B)).run Tryd.prog w = .ok (.slice (some ⟨w.heap.size, 0, none⟩) 64 c) w' ∧ Oct w' (some ⟨w.heap.size, 0, none⟩) 64 xs ∧ Below w.heap.size w w' := by
  have e : B = bstr xs := by unfold tx at hB; injection hB with hB; exact hB.symm
  subst e
  have hs : (bstr xs).size = 64 := hx
  have hrun := Lib.run_convert_string_bytes (P := Tryd.prog) w 9 83 5 (bstr xs) Tryd.underlying9 bt.sl bt.u8
  rw [hs] at hrun
  refine ⟨_, _, hrun, ⟨hx, fun _ => ⟨_, 0, rfl, fun j x hj => ?_⟩⟩, ⟨?_, ?_, ?_, ?_, fun k hk => Lib.bytesWorld_at_old w _ _ k hk⟩⟩
  · have hjl : j < xs.length := (List.getElem?_eq_some_iff.1 hj).1
    rw [Nat.zero_add, Lib.bytesWorld_cell w _ _ j (by rw [hs]; omega)]
    have : (bstr xs).data.toList = xs := by simp [bstr]
    rw [this]
    simp [List.getD, hj, ov]
  · simp [Lib.bytesWorld, World.freeze, World.alloc, World.drew, -World.alloc_eq, -World.drew_eq]
  · simp [Lib.bytesWorld, World.freeze, World.alloc, World.drew, -World.alloc_eq, -World.drew_eq]
  · simp [Lib.bytesWorld, World.freeze, World.alloc, World.drew, -World.alloc_eq, -World.drew_eq]
  · rw [Lib.bytesWorld_size]; omega
theorem tx_beq {xs ys : List UInt8} {B C : ByteArray} (hB : tx xs = .string B) (hC : tx ys = .string C) (p : Bool) (hp : decide (xs = ys) = p) : (B.toList == C.toList) = p := by
  have e : B = bstr xs := by unfold tx at hB; injection hB with hB; exact hB.symm
  have e2 : C = bstr ys := by unfold tx at hC; injection hC with hC; exact hC.symm
  subst e e2
  rw [ByteArray.toList_eq, ByteArray.toList_eq]
  show (xs == ys) = p
  rw [← hp]
  by_cases h : xs = ys <;> simp [h]
section
variable {w w' : World} {G G' : Nat → Prop} {E q n : Nat} {S : Nat → Sec} {rd wx gs : Nat} {vs : Nat → Value} {s : PS}
theorem put3_plain (h : RvAt w G E q n S rd wx gs vs) {i : Nat} (hi : i < n) (x : Sec) (hx : x.loose = []) {B : ByteArray} (hB : tx x.fixed = .string B) :
    RvAt (((w.setCell ⟨gs, i * 3, none⟩ (.string B)).setCell ⟨gs, i * 3 + 1, none⟩ (.slice none 0 0)).setCell ⟨gs, i * 3 + 2, none⟩ (.bool x.rotten)) G E q n (upd S i x) rd wx gs (upd vs i (.slice none 0 0)) ∧ Chg (fun k => k = gs) w (((w.setCell ⟨gs, i * 3, none⟩ (.string B)).setCell ⟨gs, i * 3 + 1, none⟩ (.slice none 0 0)).setCell ⟨gs, i * 3 + 2, none⟩ (.bool x.rotten)) := by
  obtain ⟨h1, h2, h3⟩ := put3_at h hi x hx hB (w' := (((w.setCell ⟨gs, i * 3, none⟩ (.string B)).setCell ⟨gs, i * 3 + 1, none⟩ (.slice none 0 0)).setCell ⟨gs, i * 3 + 2, none⟩ (.bool x.rotten)).drew) rfl
  exact ⟨h1.frame (fun _ y => y) h1.bound (fun _ _ => rfl), ⟨h3.os, h3.tape, h3.output, h3.size, h3.block⟩⟩
end
end Go.Proofs.YtikbbikcacoobaaDoor.Dw
