/-
  Elder texts, one behind the other: DvFill, DvNil, DvAwake, DvRef, DvRnew, DvQw. No conditions.
-/
import Derived.Test.YtapklelkcicjlaaGreatDoorKDc
import Derived.Laws.StructEq
import Derived.Deep.RegionHeld
import Derived.Deep.DrawnRows
import Derived.Deep.OwnRows
/-! Contracts of the law's Fill and of SameLoose, and of devices that nobody made. No conditions. -/
namespace Go.Proofs.YtapklelkcicjlaaGreatDoor.Dw
set_option maxRecDepth 100000
open Go.RowKit Oc Dm
set_option linter.unusedVariables false
/-- how long a filled slice is -/
def fillLen (z : Int) : Nat := if z = 0 then 64 else if z < 0 then 0 else if 100 < z then 100 else z.toNat
theorem fillLen_le (z : Int) : fillLen z ≤ 100 := by unfold fillLen; split; · decide
                                                     · split; · decide
                                                       · split; · decide
                                                         · omega
theorem u8t : Rw.ElTy Tryz.prog 57 5 (.int .u8 0) 1 := ⟨Tryz.underlying57, by kernel_rfl, rfl, by decide⟩
/-- a slice of one octet, again and again, in new memory -/
def Filled (w : World) (c : UInt8) (k : Nat) (e : Ending) (w' : World) : Prop := ∃ b, e = .returned (.slice (some ⟨b, 0, none⟩) k k) ∧ w.heap.size ≤ b ∧ Rw.OwnV w' 5 w.heap.size (.slice (some ⟨b, 0, none⟩) k k) (List.replicate k (ov c)) ∧ Below w.heap.size w w'
theorem oct_own {w : World} {B b k c : Nat} {xs : List UInt8} (h : Rw.OwnV w 5 B (.slice (some ⟨b, 0, none⟩) k c) (xs.map ov)) (hk : xs.length = k) : Oct w (some ⟨b, 0, none⟩) k xs :=
  ⟨hk, fun _ => ⟨b, 0, rfl, fun j x hx => by rw [Nat.zero_add]; exact (h.cell (by simpa using hk) (by rw [List.getElem?_map, hx]; rfl)).1⟩⟩
theorem rep_step (k j : Nat) (c : UInt8) (hj : j < k) : (List.replicate j (ov c) ++ List.replicate (k - j) (Value.int .u8 0)).set j (ov c) = List.replicate (j + 1) (ov c) ++ List.replicate (k - (j + 1)) (Value.int .u8 0) := by
  rw [show k - j = (k - (j + 1)) + 1 by omega, List.replicate_succ, List.set_append_right _ _ (by simp), List.length_replicate, Nat.sub_self, List.set_cons_zero, List.replicate_succ' (n := j), List.append_assoc]
  rfl
set_option maxRecDepth 100000 in
set_option maxHeartbeats 4000000 in
theorem fill_walk (w : World) (c : UInt8) (z : Int) (k : Nat) (hz : (z = 0 ∧ k = 64) ∨ (z ≠ 0 ∧ min (max z 0) 100 = (k : Int))) : Calls Tryz.prog 13 #[.int .u8 (c.toNat : Int), .int .i64 z] w (Filled w c k) := by
  rcases hz with ⟨rfl, rfl⟩ | ⟨hz, hm⟩
  · skip
    go_enter Tryz.func13, Tryz.ntmps13
    go_wp2_with (at_make; refine Rw.wpList_make_row rfl _ _ 57 rfl u8t _ _ 64 rfl rfl rfl rfl (by omega) ?_; intro w1 o1 b1; have O1 := Lib.hid o1; have B1 := Lib.hid b1; clear o1 b1)
    go_loopw [7] (fun q wr => ∃ j : Nat, j ≤ 64 ∧ q = .int .i64 j ∧ Hid (Rw.OwnV wr 5 w.heap.size (.slice (some ⟨w.heap.size, 0, none⟩) 64 64) (List.replicate j (ov c) ++ List.replicate (64 - j) (Value.int .u8 0))) ∧ Hid (Below w.heap.size w wr)) (fun q _ => 64 - (intOf q).toNat)
    case atStart => exact ⟨0, Nat.zero_le _, rfl, O1, B1⟩
    case round =>
      obtain ⟨j, hj, rfl, OJ, BJ⟩ := hrel
      by_cases hlt : j < 64
      · have hl : (List.replicate j (ov c) ++ List.replicate (64 - j) (Value.int .u8 0)).length = 64 := by simp; omega
        obtain ⟨hc, hf⟩ := OJ.out.cell hl (j := j) (u := .int .u8 0) (by rw [List.getElem?_append_right (by simp), List.length_replicate, Nat.sub_self, List.getElem?_replicate, if_pos (by omega)])
        obtain ⟨o2, g2⟩ := OJ.out.set hl (j := j) (.int .u8 (c.toNat : Int))
        have O2 := Lib.hid o2
        have G2 := Lib.hid g2
        have hlt2 : (j : Int) < (64 : Int) := by omega
        clear o2 g2 hl
        go_wp2
        go_roundw
        case rel => exact ⟨j + 1, by omega, rfl, by rw [← rep_step 64 j c hlt]; exact O2, BJ.out.grown G2.out BJ.out.size (fun g e => by injection e with e; omega)⟩
        case measure => simp [intOf]; omega
      · have hlt2 : ¬ (j : Int) < (64 : Int) := by omega
        have HE : Hid (j = 64) := Lib.hid (by omega)
        clear hlt hj
        go_wp2
        go_ret
        refine ⟨_, rfl, Nat.le_refl _, ?_, BJ.out⟩
        have := OJ.out
        rw [HE.out] at this
        simpa using this
  · have hz0 : (z != 0) = true := by simpa using hz
    have hk : k ≤ 100 := by omega
    go_enter Tryz.func13, Tryz.ntmps13
    go_wp2_with (at_make; refine Rw.wpList_make_row rfl _ _ 57 rfl u8t _ _ k rfl rfl rfl rfl (by omega) ?_; intro w1 o1 b1; have O1 := Lib.hid o1; have B1 := Lib.hid b1; clear o1 b1)
    go_loopw [7] (fun q wr => ∃ j : Nat, j ≤ k ∧ q = .int .i64 j ∧ Hid (Rw.OwnV wr 5 w.heap.size (.slice (some ⟨w.heap.size, 0, none⟩) k k) (List.replicate j (ov c) ++ List.replicate (k - j) (Value.int .u8 0))) ∧ Hid (Below w.heap.size w wr)) (fun q _ => k - (intOf q).toNat)
    case atStart => exact ⟨0, Nat.zero_le _, rfl, O1, B1⟩
    case round =>
      obtain ⟨j, hj, rfl, OJ, BJ⟩ := hrel
      by_cases hlt : j < k
      · have hl : (List.replicate j (ov c) ++ List.replicate (k - j) (Value.int .u8 0)).length = k := by simp; omega
        obtain ⟨hc, hf⟩ := OJ.out.cell hl (j := j) (u := .int .u8 0) (by rw [List.getElem?_append_right (by simp), List.length_replicate, Nat.sub_self, List.getElem?_replicate, if_pos (by omega)])
        obtain ⟨o2, g2⟩ := OJ.out.set hl (j := j) (.int .u8 (c.toNat : Int))
        have O2 := Lib.hid o2
        have G2 := Lib.hid g2
        have hlt2 : (j : Int) < ((k : Int) : Int) := by omega
        clear o2 g2 hl
        go_wp2
        go_roundw
        case rel => exact ⟨j + 1, by omega, rfl, by rw [← rep_step k j c hlt]; exact O2, BJ.out.grown G2.out BJ.out.size (fun g e => by injection e with e; omega)⟩
        case measure => simp [intOf]; omega
      · have hlt2 : ¬ (j : Int) < ((k : Int) : Int) := by omega
        have HE : Hid (j = k) := Lib.hid (by omega)
        clear hlt hj
        go_wp2
        go_ret
        refine ⟨_, rfl, Nat.le_refl _, ?_, BJ.out⟩
        have := OJ.out
        rw [HE.out] at this
        simpa using this
theorem fill_any (w : World) (c : UInt8) (z : Int) : Calls Tryz.prog 13 #[.int .u8 (c.toNat : Int), .int .i64 z] w (Filled w c (fillLen z)) := by
  refine fill_walk w c z _ ?_
  unfold fillLen
  by_cases h0 : z = 0
  · exact .inl ⟨h0, if_pos h0⟩
  · refine .inr ⟨h0, ?_⟩
    rw [if_neg h0]
    by_cases h1 : z < 0
    · rw [if_pos h1]; omega
    · rw [if_neg h1]
      by_cases h2 : 100 < z
      · rw [if_pos h2]; omega
      · rw [if_neg h2]; omega
end Go.Proofs.YtapklelkcicjlaaGreatDoor.Dw

/-! Contracts at devices that nobody made, and of SameLoose. No conditions. -/
namespace Go.Proofs.YtapklelkcicjlaaGreatDoor.Dw
set_option maxRecDepth 100000
open Go.RowKit Oc Dm
set_option linter.unusedVariables false
theorem ready_nil (w : World) : Calls Tryz.prog 67 #[.pointer none] w fun e w' => e = .returned (.int .i64 2) ∧ w = w' := by
  go_enter Tryz.func67, Tryz.ntmps67
  go_wp2_with fail
  refine (dmade_nil w).mono ?_; rintro e w' ⟨rfl, rfl⟩
  go_wp2
  go_ret
  exact ⟨rfl, rfl⟩
theorem ready_odd (w : World) (D : Nat) (c0 : w.cell? ⟨D, 0, none⟩ = some (.pointer none)) : Calls Tryz.prog 67 #[.pointer (some ⟨D, 0, none⟩)] w fun e w' => e = .returned (.int .i64 2) ∧ w = w' := by
  go_enter Tryz.func67, Tryz.ntmps67
  go_wp2_with fail
  refine (dmade_odd w D c0).mono ?_; rintro e w' ⟨rfl, rfl⟩
  go_wp2
  go_ret
  exact ⟨rfl, rfl⟩
theorem size_nil (w : World) : Calls Tryz.prog 119 #[.pointer none] w fun e w' => e = .returned (.int .i64 0) ∧ w = w' := by
  go_enter Tryz.func119, Tryz.ntmps119
  go_wp2_with fail
  refine (dmade_nil w).mono ?_; rintro e w' ⟨rfl, rfl⟩
  go_wp2
  go_ret
  exact ⟨rfl, rfl⟩
theorem size_odd (w : World) (D : Nat) (c0 : w.cell? ⟨D, 0, none⟩ = some (.pointer none)) : Calls Tryz.prog 119 #[.pointer (some ⟨D, 0, none⟩)] w fun e w' => e = .returned (.int .i64 0) ∧ w = w' := by
  go_enter Tryz.func119, Tryz.ntmps119
  go_wp2_with fail
  refine (dmade_odd w D c0).mono ?_; rintro e w' ⟨rfl, rfl⟩
  go_wp2
  go_ret
  exact ⟨rfl, rfl⟩
theorem has_nil (w : World) (z : Int) : Calls Tryz.prog 78 #[.pointer none, .int .i64 z] w fun e w' => e = .returned (.bool false) ∧ w = w' := by
  by_cases h : z < 0
  · go_enter Tryz.func78, Tryz.ntmps78
    go_wp2
    go_ret
    exact ⟨rfl, rfl⟩
  · have h2 : (0 : Int) ≤ z := by omega
    have hd : decide (z < 0) = false := by simp; omega
    go_enter Tryz.func78, Tryz.ntmps78
    go_wp2_with fail
    refine (size_nil w).mono ?_; rintro e w' ⟨rfl, rfl⟩
    go_wp2
    go_ret
    exact ⟨rfl, rfl⟩
theorem fail_nil (w : World) (u v : Value) : Calls Tryz.prog 46 #[.pointer none, u, v] w fun e w' => e = .returned (.tuple #[]) ∧ w = w' := by
  go_enter Tryz.func46, Tryz.ntmps46
  go_wp2_with fail
  refine (dmade_nil w).mono ?_; rintro e w' ⟨rfl, rfl⟩
  go_wp2
  go_end0
  exact ⟨rfl, rfl⟩
theorem fail_odd (w : World) (D : Nat) (c0 : w.cell? ⟨D, 0, none⟩ = some (.pointer none)) (u v : Value) : Calls Tryz.prog 46 #[.pointer (some ⟨D, 0, none⟩), u, v] w fun e w' => e = .returned (.tuple #[]) ∧ w = w' := by
  go_enter Tryz.func46, Tryz.ntmps46
  go_wp2_with fail
  refine (dmade_odd w D c0).mono ?_; rintro e w' ⟨rfl, rfl⟩
  go_wp2
  go_end0
  exact ⟨rfl, rfl⟩
theorem read_nil (w : World) (u : Value) : Calls Tryz.prog 118 #[.pointer none, u] w fun e w' => e = .returned (.tuple #[.slice none 0 0, .int .i64 2]) ∧ w = w' := by
  go_enter Tryz.func118, Tryz.ntmps118
  go_wp2_with fail
  refine (ready_nil w).mono ?_; rintro e w' ⟨rfl, rfl⟩
  go_wp2
  go_ret2
  exact ⟨rfl, rfl⟩
theorem write_nil (w : World) (u v : Value) : Calls Tryz.prog 51 #[.pointer none, u, v] w fun e w' => e = .returned (.int .i64 2) ∧ w = w' := by
  go_enter Tryz.func51, Tryz.ntmps51
  go_wp2_with fail
  refine (ready_nil w).mono ?_; rintro e w' ⟨rfl, rfl⟩
  go_wp2
  go_ret
  exact ⟨rfl, rfl⟩
theorem flush_odd (w : World) (D : Nat) (c0 : w.cell? ⟨D, 0, none⟩ = some (.pointer none)) : Calls Tryz.prog 16 #[.pointer (some ⟨D, 0, none⟩)] w fun e w' => e = .returned (.int .i64 2) ∧ w = w' := by
  go_enter Tryz.func16, Tryz.ntmps16
  go_wp2_with fail
  refine (ready_odd w D c0).mono ?_; rintro e w' ⟨rfl, rfl⟩
  go_wp2
  go_ret
  exact ⟨rfl, rfl⟩
theorem rot_nil (w : World) (u v x : Value) : Calls Tryz.prog 22 #[.pointer none, u, v, x] w fun e w' => e = .returned (.int .i64 2) ∧ w = w' := by
  go_enter Tryz.func22, Tryz.ntmps22
  go_wp2_with fail
  refine (dmade_nil w).mono ?_; rintro e w' ⟨rfl, rfl⟩
  go_wp2
  go_ret
  exact ⟨rfl, rfl⟩
theorem rotten_odd (w : World) (D : Nat) (c0 : w.cell? ⟨D, 0, none⟩ = some (.pointer none)) (u : Value) : Calls Tryz.prog 79 #[.pointer (some ⟨D, 0, none⟩), u] w fun e w' => e = .returned (.bool false) ∧ w = w' := by
  go_enter Tryz.func79, Tryz.ntmps79
  go_wp2_with fail
  refine (dmade_odd w D c0).mono ?_; rintro e w' ⟨rfl, rfl⟩
  go_wp2
  go_ret
  exact ⟨rfl, rfl⟩
theorem loose_odd (w : World) (D : Nat) (c0 : w.cell? ⟨D, 0, none⟩ = some (.pointer none)) : Calls Tryz.prog 20 #[.pointer (some ⟨D, 0, none⟩)] w fun e w' => e = .returned (.slice none 0 0) ∧ w = w' := by
  go_enter Tryz.func20, Tryz.ntmps20
  go_wp2_with fail
  refine (dmade_odd w D c0).mono ?_; rintro e w' ⟨rfl, rfl⟩
  go_wp2
  go_ret
  exact ⟨rfl, rfl⟩
theorem crash_odd (w : World) (D : Nat) (c0 : w.cell? ⟨D, 0, none⟩ = some (.pointer none)) (u v : Value) : Calls Tryz.prog 17 #[.pointer (some ⟨D, 0, none⟩), u, v] w fun e w' => e = .returned (.tuple #[.pointer none, .int .i64 2]) ∧ w = w' := by
  go_enter Tryz.func17, Tryz.ntmps17
  go_wp2_with fail
  refine (dmade_odd w D c0).mono ?_; rintro e w' ⟨rfl, rfl⟩
  go_wp2
  go_ret2
  exact ⟨rfl, rfl⟩
/-- two rows that are one -/
theorem neqL (w : World) (a b : Int) : (binOp .neq 131 (.agg #[.int .i64 a, .int .i64 b]) (.agg #[.int .i64 a, .int .i64 b])).run Tryz.prog w = .ok (.bool false) w := by
  have u3 := Tryz.underlying3
  have a3 := Tryz.isAgg3
  have z3 := Tryz.sizeOf3
  have hS : Tryz.prog.underlying 131 = some (.struct (Tryz.prog.fieldsOf 131)) := by kernel_rfl
  have hp : Tryz.prog.stoodInHeld 131 = false := by kernel_rfl
  simp only [binOp, show Op.equal 131 (.agg #[.int .i64 a, .int .i64 b]) (.agg #[.int .i64 a, .int .i64 b]) = Op.equalIn (9999 + 1) 131 (.agg #[.int .i64 a, .int .i64 b]) (.agg #[.int .i64 a, .int .i64 b]) from rfl, Sem.run_bind]
  rw [run_equalIn_struct w 9999 131 _ _ hS hp]
  simp only [Program.fieldsOf, Tryz.underlying131]
  go_simp
end Go.Proofs.YtapklelkcicjlaaGreatDoor.Dw

/-! The page's example. No conditions. -/
namespace Go.Proofs.YtapklelkcicjlaaGreatDoor.Dw
set_option maxRecDepth 100000
open Go.RowKit Oc Dm
set_option linter.unusedVariables false
attribute [local go_sem ↓] Go.wp_at_zero Go.wp_at_succ

theorem below_drewN {B : Nat} {a w : World} (h : Below B a w) (n : Nat) : Below B a (w.drewN n) := ⟨h.os, h.tape, h.output, h.size, h.block⟩
theorem below_of_drew {B : Nat} {a b : World} (h : Below B a.drew b) : Below B a b := ⟨h.os, h.tape, h.output, h.size, h.block⟩
theorem balloc (w : World) (o : Obj) : Below w.heap.size w (w.alloc o) := (Below.refl _ w).alloc (Nat.le_refl _) o
/-- the writes of the example -/
def ex1 : List UInt8 := List.replicate 64 1
def ex2 : List UInt8 := List.replicate 64 2
theorem rep_map (c : UInt8) : List.replicate 64 (ov c) = (List.replicate 64 c).map ov := by rw [List.map_replicate]
def exS : Nat → Sec := wrote (wrote (fun _ => sec0) 0 ex1) 0 ex2
theorem ex_loose : (exS 0).loose = [ex1, ex2] := rfl
theorem ex_row : looseOf 2 exS = [(0, 2)] := by
  have h1 : (exS 1).loose = [] := rfl
  unfold looseOf
  rw [show List.range 2 = [0, 1] from rfl]
  simp only [List.filterMap_cons, List.filterMap_nil, h1, if_true, ex_loose]
  rfl
theorem ex_crash : (crashTo 2 exS [1] 1 0).stands = ex1 := by
  rw [crashTo_yes (f := 1) (x := (0, 2)) rfl (by rw [ex_row]; rfl) (by decide), upd_same, Sec.stands_fixed rfl, ex_loose]
  rfl
theorem chg_below {w a b : World} {F : Nat → Prop} (h : Below w.heap.size w a) (c : Chg F a b) (hF : ∀ k, F k → w.heap.size ≤ k) : Below w.heap.size w b := h.trans (c.below h.size (fun k hk x => by have := hF k x; omega))
theorem lo_new (w : World) (a b : Nat) : Lo (w.alloc (.cells #[.int .i64 (a : Int), .int .i64 (b : Int)] 131)) (some ⟨w.heap.size, 0, none⟩) 1 [(a, b)] := by
  refine ⟨rfl, fun _ => ⟨_, rfl, fun j x hx => ?_⟩⟩
  have hj : j = 0 := by
    have := (List.getElem?_eq_some_iff.1 hx).1
    simpa using this
  subst hj
  simp at hx
  subst hx
  refine ⟨?_, ?_⟩ <;> rw [cell_of_row _ _ _ _ _ (0, 0) (heap_alloc_new w _)] <;> rfl
theorem fill1 (w : World) : Calls Tryz.prog 13 #[.int .u8 1, .int .i64 0] w (Filled w 1 64) := fill_any w 1 0
theorem own_one {w : World} {B b : Nat} (h : Rw.OwnV w 5 B (.slice (some ⟨b, 0, none⟩) 64 64) (List.replicate 64 (ov 1))) : Oct w (some ⟨b, 0, none⟩) 64 ex1 := oct_own (xs := ex1) (rep_map 1 ▸ h) rfl
theorem lo_new2 (w : World) : Lo ((w.alloc (.cells #[.int .i64 0, .int .i64 2] 131)).drew) (some ⟨w.heap.size, 0, none⟩) 1 [(0, 2)] := lo_new w 0 2
theorem fi_new (w : World) (z : Int) : Fi (w.alloc (.cells #[.int .i64 z] 3)) (some ⟨w.heap.size, 0, none⟩) 1 [z] := Rw.Sl.one w 3 (.int .i64 z)
end Go.Proofs.YtapklelkcicjlaaGreatDoor.Dw

/-! The document's devices behind pointers; the contract of New. No conditions. -/
namespace Go.Proofs.YtapklelkcicjlaaGreatDoor.Dw
set_option maxRecDepth 100000
open Go.RowKit Oc Dm Gt
set_option linter.unusedVariables false
/-- a sector's text -/
def tx (x : List UInt8) : Value := .string (bstr x)
/-- sectors as cells, three each -/
def oc (S : Nat → Sec) (vs : Nat → Value) (j : Nat) : Value := if j % 3 = 0 then tx (S (j / 3)).fixed else if j % 3 = 1 then vs (j / 3) else .bool (S (j / 3)).rotten
theorem oc0 (S : Nat → Sec) (vs : Nat → Value) (i : Nat) : oc S vs (i * 3) = tx (S i).fixed := by unfold oc; rw [if_pos (by omega), show i * 3 / 3 = i by omega]
theorem oc1 (S : Nat → Sec) (vs : Nat → Value) (i : Nat) : oc S vs (i * 3 + 1) = vs i := by unfold oc; rw [if_neg (by omega), if_pos (by omega), show (i * 3 + 1) / 3 = i by omega]
theorem oc2 (S : Nat → Sec) (vs : Nat → Value) (i : Nat) : oc S vs (i * 3 + 2) = .bool (S i).rotten := by unfold oc; rw [if_neg (by omega), if_neg (by omega), show (i * 3 + 2) / 3 = i by omega]
/-- A DEVICE OF THE DOCUMENT's BEHIND A POINTER, with its parts -/
structure RvAt (w : World) (G : Nat → Prop) (E q n : Nat) (S : Nat → Sec) (rd wr gs : Nat) (vs : Nat → Value) : Prop where
  head : w.heap[E]? = some (.cells #[.pointer (some ⟨q, 0, none⟩), .slice (some ⟨gs, 0, none⟩) n n, .int .u64 (rd : Int), .int .u64 (wr : Int)] 103 (0, 0))
  row : w.rowIs gs 151 (n * 3) (oc S vs)
  loose : ∀ i, i < n → ∃ A c, vs i = .slice A (S i).loose.length c ∧ (S i).loose.length ≤ c ∧ c ≤ maxLen ∧ Rw.Sl w A (S i).loose.length ((S i).loose.map tx) ∧ ∀ b off, 0 < (S i).loose.length → A = some ⟨b, off, none⟩ → G b ∧ b ≠ gs
  hn : n ≤ 4096
  hrd : rd < 18446744073709551616
  hwr : wr < 18446744073709551616
  inG : G E ∧ G gs
  bound : ∀ k, G k → k < w.heap.size
section
variable {w w' : World} {G G' : Nat → Prop} {E q n : Nat} {S : Nat → Sec} {rd wr gs : Nat} {vs : Nat → Value}
theorem RvAt.frame (h : RvAt w G E q n S rd wr gs vs) (hG : ∀ k, G k → G' k) (hb : ∀ k, G' k → k < w'.heap.size) (hk : ∀ k, G k → w'.heap[k]? = w.heap[k]?) : RvAt w' G' E q n S rd wr gs vs where
  head := (hk _ h.inG.1).trans h.head
  row := h.row.of_block (hk _ h.inG.2)
  loose := fun i hi => by
    obtain ⟨A, c, e, h1, h2, h3, h4⟩ := h.loose i hi
    exact ⟨A, c, e, h1, h2, h3.heap (fun b off hn e => hk _ (h4 b off hn e).1), fun b off hn e => ⟨hG _ (h4 b off hn e).1, (h4 b off hn e).2⟩⟩
  hn := h.hn
  hrd := h.hrd
  hwr := h.hwr
  inG := ⟨hG _ h.inG.1, hG _ h.inG.2⟩
  bound := hb
theorem RvAt.kept (h : RvAt w G E q n S rd wr gs vs) {F : Nat → Prop} (hc : Chg F w w') (hF : ∀ k, G k → ¬ F k) : RvAt w' G E q n S rd wr gs vs :=
  h.frame (fun _ x => x) (fun k x => Nat.lt_of_lt_of_le (h.bound k x) hc.size) (fun k x => hc.block k (h.bound k x) (hF k x))
theorem RvAt.below (h : RvAt w G E q n S rd wr gs vs) (hc : Below w.heap.size w w') : RvAt w' G E q n S rd wr gs vs := h.kept (F := fun _ => False) (Chg.of_below hc) (fun _ _ x => x)
end
theorem gate_cell {P : Program} {md : Region.Mode} {ops : Array Oper} {Q : Exit → Act → World → Prop} {S : World → Prop} {t j fuel : Nat} {listed : Array Bool} {a : Act} {w w' : World} {dst : Option Tmp} {ty0 ty : TypeId} {pos : String} {af : Array Edge} {x y : Operand} {p : Value} (hr : Region.ready md ops listed = [j]) (hr2 : Region.ready md ops (listed.setIfInBounds j true) = []) (hit : j = t) (ho : ops[j]? = some ⟨dst, .store ty0 x y, ty, pos, af, none⟩)
    (hx : a.eval x = p) (hrun : (Instr.storeAt ty0 p (a.eval y)).run P w = .ok () w') (hK : Q .normal (a.put dst undef) w') : Gate P md ops Q S t (fuel + 1) listed a w :=
  gate_last hr hr2 hit ho rfl (fun K hK' => by
    unfold Oper.wp
    simp [execOp, hx, hrun, Result.andThen]
    exact hK' _ _ hK)
theorem one_info : (Tryz.prog.info? 151).map (fun i => (i.zero, i.size, i.bytes)) = some (some (.agg #[.string ⟨#[]⟩, .slice none 0 0, .bool false]), 3, 48) := by kernel_rfl
/-- a row of sectors that nobody wrote on, as it is made: k of them have their noughts -/
def madeS (k : Nat) (i : Nat) : Sec := if i < k then sec0 else ⟨[], [], false⟩
def nilv (_ : Nat) : Value := .slice none 0 0
theorem made_row {w w' : World} {n : Nat} {i0 : TypeInfo} (hi : Tryz.prog.info? 151 = some i0) (hz : i0.zero = some (.agg #[.string ⟨#[]⟩, .slice none 0 0, .bool false])) (hs : i0.size = 3) (hb : i0.bytes = 48) (hn : n ≤ 4096) :
    (Instr.makeSlice 101 (.int .i64 (n : Int)) (.int .i64 (n : Int))).run Tryz.prog w = .ok (.slice (some ⟨w.heap.size, 0, none⟩) n n) (w.alloc (.cells (madeCells #[.string ⟨#[]⟩, .slice none 0 0, .bool false] (n * 3)) 151)) ∧
    (w.alloc (.cells (madeCells #[.string ⟨#[]⟩, .slice none 0 0, .bool false] (n * 3)) 151)).rowIs w.heap.size 151 (n * 3) (oc (madeS 0) nilv) := by
  constructor
  · have := run_make (P := Tryz.prog) w 101 151 i0 (.agg #[.string ⟨#[]⟩, .slice none 0 0, .bool false]) Tryz.underlying101 hi hz .i64 .i64 (n : Int) (n : Int) (by omega) (Int.le_refl _) (by rw [hb]; omega) (by omega)
    rw [Int.toNat_natCast, hs] at this
    exact this
  · have := World.rowIs_alloc w (madeCells #[.string ⟨#[]⟩, .slice none 0 0, .bool false] (n * 3)) 151 (oc (madeS 0) nilv) (fun j hj => by
      rw [size_madeCells] at hj
      unfold madeCells
      rw [Array.getElem?_map]
      simp only [Array.getElem?_range, hj, if_true, Option.map_some]
      have hm : j % 3 = 0 ∨ j % 3 = 1 ∨ j % 3 = 2 := by omega
      unfold oc
      rcases hm with h | h | h
      · simp [h, madeS, tx, bstr]
      · simp [h, nilv]
      · simp [h, madeS])
    rw [size_madeCells] at this
    exact this
end Go.Proofs.YtapklelkcicjlaaGreatDoor.Dw

/-! The contract of the document's New. No conditions. -/
namespace Go.Proofs.YtapklelkcicjlaaGreatDoor.Dw
set_option maxRecDepth 100000
open Go.RowKit Oc Dm Gt
set_option linter.unusedVariables false
/-- 64 noughts, as they are made -/
def z64 : Array Value := madeCells #[.int .u8 0] 64
theorem z64_eq : z64 = (zs.map ov).toArray := by
  rw [zs_cells]
  apply Array.ext_getElem?
  intro j
  unfold z64 madeCells
  rw [Array.getElem?_map]
  by_cases h : j < 64
  · simp [h, Nat.mod_one]
  · simp [h]
theorem make64 (w : World) : (Instr.makeSlice 57 (.int .i64 64) (.int .i64 64)).run Tryz.prog w = .ok (.slice (some ⟨w.heap.size, 0, none⟩) 64 64) (w.alloc (.cells z64 5)) := by
  obtain ⟨i, hi, hz0, hz1, hz2⟩ := info_parts bt.info
  have := run_make (P := Tryz.prog) w 57 5 i (.int .u8 0) Tryz.underlying57 hi hz0 .i64 .i64 64 64 (by omega) (Int.le_refl _) (by rw [hz2]; omega) (by omega)
  rw [hz1] at this
  exact this
theorem conv64 (w : World) : (convert 57 9 (.slice (some ⟨w.heap.size, 0, none⟩) 64 64)).run Tryz.prog (w.alloc (.cells z64 5)) = .ok (.string (bstr zs)) (w.alloc (.cells z64 5)) := by
  have := Oct.cells w 5 zs z64 z64_eq
  exact this.conv bt Tryz.underlying9 64
theorem madeS_rot (k i : Nat) : (madeS k i).rotten = false := by unfold madeS; split <;> rfl
theorem madeS_step (j : Nat) : ∀ i, (fun k => if k = j * 3 then tx zs else oc (madeS j) nilv k) i = oc (madeS (j + 1)) nilv i := by
  intro i
  have hm : i % 3 = 0 ∨ i % 3 = 1 ∨ i % 3 = 2 := by omega
  show (if i = j * 3 then tx zs else oc (madeS j) nilv i) = _
  by_cases h : i = j * 3
  · subst h
    rw [if_pos rfl, oc0]
    unfold madeS
    rw [if_pos (by omega)]
    rfl
  · rw [if_neg h]
    unfold oc
    rcases hm with h0 | h0 | h0
    · rw [if_pos h0, if_pos h0]
      unfold madeS
      by_cases h1 : i / 3 < j
      · rw [if_pos h1, if_pos (by omega)]
      · rw [if_neg h1, if_neg (by omega)]
    · rw [if_neg (by omega), if_pos h0, if_neg (by omega), if_pos h0]
    · have n0 : ¬ i % 3 = 0 := by omega
      have n1 : ¬ i % 3 = 1 := by omega
      rw [if_neg n0, if_neg n1, if_neg n0, if_neg n1, madeS_rot, madeS_rot]
/-- a device of the document's is told -/
def RNew (w : World) (q n : Nat) (e : Ending) (w' : World) : Prop := ∃ E gs, e = .returned (.pointer (some ⟨E, 0, none⟩)) ∧ w.heap.size ≤ E ∧ RvAt w' (Fresh w w') E q n (fun _ => sec0) 0 0 gs nilv ∧ Below w.heap.size w w'
set_option maxRecDepth 100000 in
set_option maxHeartbeats 4000000 in
theorem rnew_any (w : World) (n q : Nat) (hn : n ≤ 4096) : Calls Tryz.prog 39 #[.int .i64 (n : Int), .pointer (some ⟨q, 0, none⟩)] w (RNew w q n) := by
  obtain ⟨i0, hi0, hz0, hz1, hz2⟩ := info_parts one_info
  obtain ⟨hmk, hrow⟩ := made_row (w := w) (w' := w) (n := n) hi0 hz0 hz1 hz2 hn
  have HR := Lib.hid hrow
  have b1 := balloc w (.cells (madeCells #[.string ⟨#[]⟩, .slice none 0 0, .bool false] (n * 3)) 151)
  have BW := Lib.hid b1
  have ZW : Hid ((w.alloc (.cells (madeCells #[.string ⟨#[]⟩, .slice none 0 0, .bool false] (n * 3)) 151)).heap.size = w.heap.size + 1) := Lib.hid (by simp)
  generalize w.alloc (.cells (madeCells #[.string ⟨#[]⟩, .slice none 0 0, .bool false] (n * 3)) 151) = w1 at hmk HR BW ZW
  clear hrow b1 hi0 hz0 hz1 hz2
  go_enter Tryz.func39, Tryz.ntmps39
  go_wp2
  have HD := Lib.hid (heap_alloc_new w1 (.cells #[.pointer (some ⟨q, 0, none⟩), .slice (some ⟨w.heap.size, 0, none⟩) n n, .int .u64 0, .int .u64 0] 103 (0, 0)))
  have HR2 := Lib.hid (HR.out.alloc (.cells #[.pointer (some ⟨q, 0, none⟩), .slice (some ⟨w.heap.size, 0, none⟩) n n, .int .u64 0, .int .u64 0] 103 (0, 0)))
  have B2 := Lib.hid (BW.out.alloc BW.out.size (.cells #[.pointer (some ⟨q, 0, none⟩), .slice (some ⟨w.heap.size, 0, none⟩) n n, .int .u64 0, .int .u64 0] 103 (0, 0)))
  clear hmk
  go_loopw [6] (fun v wr' => ∃ j : Nat, j ≤ n ∧ v = .int .i64 j ∧ Hid (wr'.heap[w1.heap.size]? = some (.cells #[.pointer (some ⟨q, 0, none⟩), .slice (some ⟨w.heap.size, 0, none⟩) n n, .int .u64 0, .int .u64 0] 103 (0, 0))) ∧ Hid (wr'.rowIs w.heap.size 151 (n * 3) (oc (madeS j) nilv)) ∧ Hid (Below w.heap.size w wr')) (fun v _ => n - (intOf v).toNat)
  case atStart => exact ⟨0, Nat.zero_le _, rfl, HD, HR2, B2⟩
  case round =>
    obtain ⟨j, hj, rfl, HJ, RJ, BJ⟩ := hrel
    by_cases hlt : j < n
    · have hlt2 : (j : Int) < (n : Int) := by omega
      go_wp2_with fail
      have d1 : wr.cell? ⟨w1.heap.size, 1, none⟩ = some (.slice (some ⟨w.heap.size, 0, none⟩) n n) := by rw [cell_of_row wr _ _ _ _ (0, 0) HJ.out]; rfl
      refine gate (fun w' => w'.cell? ⟨w1.heap.size, 1, none⟩ = some (.slice (some ⟨w.heap.size, 0, none⟩) n n)) 9 [0, 1, 2, 3, 4] 5 (by kernel_rfl) (by kernel_rfl) (by kernel_rfl) rfl ?_ d1 ?_
      · intro d v c a w h
        cases d <;> exact h
      iterate 5
        refine yields_step ?_ rfl rfl ?_ ?_
        rotate_left
        · intro w' hS; go_simp; rfl
      have hmk := make64
      refine Gate.next (i := 5) (by kernel_rfl) rfl rfl (fun K hK => ?_)
      go_simp
      have b3 : Below wr.heap.size wr ((wr.alloc (.cells z64 5)).drew) := (balloc wr _).drew
      have H3 := Lib.hid ((b3.block _ (lt_of_heap HJ.out)).trans HJ.out)
      have R3 := Lib.hid (RJ.out.of_block (b3.block _ RJ.out.lt))
      have B3 := Lib.hid (bthen BJ.out b3)
      have d3 : ((wr.alloc (.cells z64 5)).drew).cell? ⟨w1.heap.size, 1, none⟩ = some (.slice (some ⟨w.heap.size, 0, none⟩) n n) := by rw [cell_of_row _ _ _ _ _ (0, 0) H3.out]; rfl
      have cv : (convert 57 9 (.slice (some ⟨wr.heap.size, 0, none⟩) 64 64)).run Tryz.prog ((wr.alloc (.cells z64 5)).drew) = .ok (.string (bstr zs)) ((wr.alloc (.cells z64 5)).drew) := (Oct.cells wr 5 zs z64 z64_eq).drew.conv bt Tryz.underlying9 64
      refine hK _ _ (fun _ => d3) ?_
      clear hK K hmk b3
      refine Gate.next (i := 6) (by kernel_rfl) rfl rfl (fun K hK => ?_)
      go_simp
      refine hK _ _ (fun _ => d3) ?_
      clear hK K cv
      refine Gate.next (i := 7) (by kernel_rfl) rfl rfl (fun K hK => ?_)
      go_simp
      refine hK _ _ (fun _ => d3) ?_
      clear hK K
      refine Gate.next (i := 8) (by kernel_rfl) rfl rfl (fun K hK => ?_)
      go_simp
      refine hK _ _ (fun _ => d3) ?_
      clear hK K
      have c4 := R3.out.cell (i := j * 3) (by omega)
      have f4 := R3.out.frozen (j * 3)
      refine gate_cell (j := 9) (w' := ((wr.alloc (.cells z64 5)).drew).setCell ⟨w.heap.size, j * 3, none⟩ (.string (bstr zs))) (p := .pointer (some ⟨w.heap.size, j * 3, none⟩)) (by kernel_rfl) (by kernel_rfl) rfl rfl (by go_simp) (by go_simp) ?_
      have H5 := Lib.hid ((heap_setCell_other ((wr.alloc (.cells z64 5)).drew) ⟨w.heap.size, j * 3, none⟩ w1.heap.size (.string (bstr zs)) (show w1.heap.size ≠ w.heap.size by have := ZW.out; omega)).trans H3.out)
      have R5 := Lib.hid ((R3.out.set (j * 3) (.string (bstr zs))).congr (fun i _ => madeS_step j i))
      have B5 := Lib.hid (B3.out.grown (grown_cell ((wr.alloc (.cells z64 5)).drew) w.heap.size (j * 3) (.string (bstr zs))) B3.out.size (fun k e => by injection e with e; omega))
      generalize ((wr.alloc (.cells z64 5)).drew).setCell ⟨w.heap.size, j * 3, none⟩ (.string (bstr zs)) = w5 at H5 R5 B5 ⊢
      clear c4 f4 d3 d1
      go_wp2
      go_roundw
      case rel => exact ⟨j + 1, by omega, rfl, H5, R5, B5⟩
      case measure => simp [intOf]; omega
    · have hlt2 : ¬ (j : Int) < (n : Int) := by omega
      have HE : Hid (j = n) := Lib.hid (by omega)
      clear hj hlt
      go_wp2
      go_ret
      have r5 := RJ.out
      rw [HE.out] at r5
      have hE := lt_of_heap HJ.out
      have hg := RJ.out.lt
      have hz := ZW.out
      refine ⟨w1.heap.size, w.heap.size, rfl, by omega, ?_, BJ.out⟩
      exact {
        head := HJ.out
        row := r5.congr (fun i hi => by
          unfold oc madeS
          rw [if_pos (show i / 3 < n by omega)])
        loose := fun i hi => ⟨none, 0, rfl, Nat.le_refl _, Nat.zero_le _, Rw.Sl.nil _ _, fun b off h => absurd h (by decide)⟩
        hn := hn
        hrd := by decide
        hwr := by decide
        inG := ⟨⟨by omega, hE⟩, ⟨Nat.le_refl _, hg⟩⟩
        bound := fun k x => x.2 }
end Go.Proofs.YtapklelkcicjlaaGreatDoor.Dw

/-! The document's power behind a pointer. No conditions. -/
namespace Go.Proofs.YtapklelkcicjlaaGreatDoor.Dw
set_option maxRecDepth 100000
open Go.RowKit Oc Dm
set_option linter.unusedVariables false
/-- the document's power behind a pointer -/
structure Qw (w : World) (q : Nat) (s : PS) : Prop where
  head : ∃ l : Int, w.heap[q]? = some (.cells #[.bool s.off, .bool s.fuse.isSome, .int .i64 l, .int .i64 (s.done : Int)] 96 (0, 0)) ∧ ∀ k, s.fuse = some k → l = (k : Int)
theorem Qw.heap {w w' : World} {q : Nat} {s : PS} (h : Qw w q s) (e : w'.heap[q]? = w.heap[q]?) : Qw w' q s := by
  obtain ⟨l, h1, h2⟩ := h.head
  exact ⟨l, e.trans h1, h2⟩
theorem Qw.lt {w : World} {q : Nat} {s : PS} (h : Qw w q s) : q < w.heap.size := by
  obtain ⟨l, h1, h2⟩ := h.head
  exact lt_of_heap h1
end Go.Proofs.YtapklelkcicjlaaGreatDoor.Dw
