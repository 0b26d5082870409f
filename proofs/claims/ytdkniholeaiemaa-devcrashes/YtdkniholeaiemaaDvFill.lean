/-
  Contracts of the law's Fill and of SameLoose, and of devices that nobody made. No conditions.
-/
import Derived.Test.YtdkniholeaiemaaDvCrash
import Derived.Laws.StructEq
namespace Go.Proofs.Ytdkniholeaiemaa.W
open Go.RowKit Oc Dm
set_option linter.unusedVariables false
/-- how long a filled slice is -/
def fillLen (z : Int) : Nat := if z = 0 then 64 else if z < 0 then 0 else if 100 < z then 100 else z.toNat
theorem fillLen_le (z : Int) : fillLen z ≤ 100 := by unfold fillLen; split; · decide
                                                     · split; · decide
                                                       · split; · decide
                                                         · omega
theorem u8t : Rw.ElTy Try.prog 52 5 (.int .u8 0) 1 := ⟨Try.underlying52, by kernel_rfl, rfl, by decide⟩
/-- a slice of one octet, again and again, in new memory -/
def Filled (w : World) (c : UInt8) (k : Nat) (e : Ending) (w' : World) : Prop := ∃ b, e = .returned (.slice (some ⟨b, 0, none⟩) k k) ∧ w.heap.size ≤ b ∧ Rw.OwnV w' 5 w.heap.size (.slice (some ⟨b, 0, none⟩) k k) (List.replicate k (ov c)) ∧ Below w.heap.size w w'
theorem oct_own {w : World} {B b k c : Nat} {xs : List UInt8} (h : Rw.OwnV w 5 B (.slice (some ⟨b, 0, none⟩) k c) (xs.map ov)) (hk : xs.length = k) : Oct w (some ⟨b, 0, none⟩) k xs :=
  ⟨hk, fun _ => ⟨b, 0, rfl, fun j x hx => by rw [Nat.zero_add]; exact (h.cell (by simpa using hk) (by rw [List.getElem?_map, hx]; rfl)).1⟩⟩
theorem rep_step (k j : Nat) (c : UInt8) (hj : j < k) : (List.replicate j (ov c) ++ List.replicate (k - j) (Value.int .u8 0)).set j (ov c) = List.replicate (j + 1) (ov c) ++ List.replicate (k - (j + 1)) (Value.int .u8 0) := by
  rw [show k - j = (k - (j + 1)) + 1 by omega, List.replicate_succ, List.set_append_right _ _ (by simp), List.length_replicate, Nat.sub_self, List.set_cons_zero, List.replicate_succ' (n := j), List.append_assoc]
  rfl
set_option maxRecDepth 100000 in
set_option maxHeartbeats 4000000 in
theorem fill_walk (w : World) (c : UInt8) (z : Int) (k : Nat) (hz : (z = 0 ∧ k = 64) ∨ (z ≠ 0 ∧ min (max z 0) 100 = (k : Int))) : Calls Try.prog 22 #[.int .u8 (c.toNat : Int), .int .i64 z] w (Filled w c k) := by
  rcases hz with ⟨rfl, rfl⟩ | ⟨hz, hm⟩
  · skip
    go_enter Try.func22, Try.ntmps22
    go_wp2_with (at_make; refine Rw.wpList_make_row rfl _ _ 52 rfl u8t _ _ 64 rfl rfl rfl rfl (by omega) ?_; intro w1 o1 b1; have O1 := Lib.hid o1; have B1 := Lib.hid b1; clear o1 b1)
    go_loopw [7] (fun q wr => ∃ j : Nat, j ≤ 64 ∧ q = .int .i64 j ∧ Hid (Rw.OwnV wr 5 w.heap.size (.slice (some ⟨w.heap.size, 0, none⟩) 64 64) (List.replicate j (ov c) ++ List.replicate (64 - j) (Value.int .u8 0))) ∧ Hid (Below w.heap.size w wr)) (fun q _ => 64 - (intOf q).toNat)
    case atStart => exact ⟨0, Nat.zero_le _, rfl, O1, B1⟩
    case round =>
      obtain ⟨j, hj, rfl, OJ, BJ⟩ := hrel
      by_cases hlt : j < 64
      · have hl : (List.replicate j (ov c) ++ List.replicate (64 - j) (Value.int .u8 0)).length = 64 := by simp; omega
        obtain ⟨hc, hf⟩ := OJ.out.cell hl (j := j) (u := .int .u8 0) (by rw [List.getElem?_append_right (by simp), List.length_replicate, Nat.sub_self, List.getElem?_replicate, if_pos (by omega)])
        obtain ⟨o2, g2⟩ := OJ.out.set hl (j := j) (.int .u8 (c.toNat : Int))
        have O2 := Lib.hid o2
        have G2 := Lib.hid g2
        have hlt2 : (j : Int) < (64 : Int) := by omega
        clear o2 g2 hl
        go_wp2
        go_roundw
        case rel => exact ⟨j + 1, by omega, rfl, by rw [← rep_step 64 j c hlt]; exact O2, BJ.out.grown G2.out BJ.out.size (fun g e => by injection e with e; omega)⟩
        case measure => simp [intOf]; omega
      · have hlt2 : ¬ (j : Int) < (64 : Int) := by omega
        have HE : Hid (j = 64) := Lib.hid (by omega)
        clear hlt hj
        go_wp2
        go_ret
        refine ⟨_, rfl, Nat.le_refl _, ?_, BJ.out⟩
        have := OJ.out
        rw [HE.out] at this
        simpa using this
  · have hz0 : (z != 0) = true := by simpa using hz
    have hk : k ≤ 100 := by omega
    go_enter Try.func22, Try.ntmps22
    go_wp2_with (at_make; refine Rw.wpList_make_row rfl _ _ 52 rfl u8t _ _ k rfl rfl rfl rfl (by omega) ?_; intro w1 o1 b1; have O1 := Lib.hid o1; have B1 := Lib.hid b1; clear o1 b1)
    go_loopw [7] (fun q wr => ∃ j : Nat, j ≤ k ∧ q = .int .i64 j ∧ Hid (Rw.OwnV wr 5 w.heap.size (.slice (some ⟨w.heap.size, 0, none⟩) k k) (List.replicate j (ov c) ++ List.replicate (k - j) (Value.int .u8 0))) ∧ Hid (Below w.heap.size w wr)) (fun q _ => k - (intOf q).toNat)
    case atStart => exact ⟨0, Nat.zero_le _, rfl, O1, B1⟩
    case round =>
      obtain ⟨j, hj, rfl, OJ, BJ⟩ := hrel
      by_cases hlt : j < k
      · have hl : (List.replicate j (ov c) ++ List.replicate (k - j) (Value.int .u8 0)).length = k := by simp; omega
        obtain ⟨hc, hf⟩ := OJ.out.cell hl (j := j) (u := .int .u8 0) (by rw [List.getElem?_append_right (by simp), List.length_replicate, Nat.sub_self, List.getElem?_replicate, if_pos (by omega)])
        obtain ⟨o2, g2⟩ := OJ.out.set hl (j := j) (.int .u8 (c.toNat : Int))
        have O2 := Lib.hid o2
        have G2 := Lib.hid g2
        have hlt2 : (j : Int) < ((k : Int) : Int) := by omega
        clear o2 g2 hl
        go_wp2
        go_roundw
        case rel => exact ⟨j + 1, by omega, rfl, by rw [← rep_step k j c hlt]; exact O2, BJ.out.grown G2.out BJ.out.size (fun g e => by injection e with e; omega)⟩
        case measure => simp [intOf]; omega
      · have hlt2 : ¬ (j : Int) < ((k : Int) : Int) := by omega
        have HE : Hid (j = k) := Lib.hid (by omega)
        clear hlt hj
        go_wp2
        go_ret
        refine ⟨_, rfl, Nat.le_refl _, ?_, BJ.out⟩
        have := OJ.out
        rw [HE.out] at this
        simpa using this
theorem fill_any (w : World) (c : UInt8) (z : Int) : Calls Try.prog 22 #[.int .u8 (c.toNat : Int), .int .i64 z] w (Filled w c (fillLen z)) := by
  refine fill_walk w c z _ ?_
  unfold fillLen
  by_cases h0 : z = 0
  · exact .inl ⟨h0, if_pos h0⟩
  · refine .inr ⟨h0, ?_⟩
    rw [if_neg h0]
    by_cases h1 : z < 0
    · rw [if_pos h1]; omega
    · rw [if_neg h1]
      by_cases h2 : 100 < z
      · rw [if_pos h2]; omega
      · rw [if_neg h2]; omega
end Go.Proofs.Ytdkniholeaiemaa.W
