/-
  Contracts of count.Text and count.Parse, where the library's variables hold what its text lays.
-/
import Derived.Test.YtmfljibmnplkiaaDoorShelf
import Derived.Test.YtmfljibmnplkiaaDoorCountTextNum
import Derived.Test.YtmfljibmnplkiaaDoorCountNumText
import Derived.Lib.AppendIntMem
import Derived.Lib.AtoiErrMem
import Derived.WalkSmall
import Derived.Lib.AtoiAllCases
import Derived.BigCall
namespace Go.Proofs.YtmfljibmnplkiaaDoor.W
open Go.RowKit Num

/-- the library's table and its two errors, as its text lays them -/
structure Env (w : World) : Prop where
  tab : Lib.TabIs Tryd.prog w "internal/strconv.uint64pow10" .u64 Lib.pow10Tab
  syn : ∃ tp p, w.var? Tryd.prog "strconv.ErrSyntax" = some #[.iface tp p]
  rng : ∃ tp p, w.var? Tryd.prog "strconv.ErrRange" = some #[.iface tp p]

theorem gSyn : Tryd.prog.globalNamed "strconv.ErrSyntax" = some 0 := by kernel_rfl
theorem gRng : Tryd.prog.globalNamed "strconv.ErrRange" = some 1 := by kernel_rfl
theorem var_lt {w : World} {n : String} {g : Nat} {x : Value} (hg : Tryd.prog.globalNamed n = some g) (h : w.var? Tryd.prog n = some #[x]) : g < w.heap.size := by
  have h0 := World.var?_cell hg h 0
  have h1 : w.cell? ⟨g, 0, none⟩ = some x := by simpa using h0
  exact World.block_lt_of_cell? w _ h1

theorem Env.below {w w' : World} (h : Env w) (hb : Below w.heap.size w w') : Env w' := by
  obtain ⟨t1, p1, v1⟩ := h.syn
  obtain ⟨t2, p2, v2⟩ := h.rng
  exact ⟨Lib.tabBelow_of_tabIs h.tab w' hb, ⟨t1, p1, var?_below hb gSyn (var_lt gSyn v1) v1⟩, ⟨t2, p2, var?_below hb gRng (var_lt gRng v2) v2⟩⟩

set_option maxHeartbeats 400000 in
theorem text_any (n : Int) (h0 : -9223372036854775808 ≤ n) (h1 : n ≤ 9223372036854775807) (w : World) (hE : Env w) :
    Calls Tryd.prog 5 #[.int .i64 n] w fun e w' => e = .returned (.string (bs (Lib.itoa n))) ∧ Below w.heap.size w w' := by
  have HE := Lib.hid hE
  clear hE
  go_enter Tryd.func5, Tryd.ntmps5
  go_wp2_with fail
  refine (Any.strconv_Itoa Tryd.laysM171 n h0 h1 _ HE.out.tab).mono ?_
  rintro e w' ⟨rfl, k, os, rfl⟩
  have HB := Lib.hid (Lib.below_grow w.heap.size w (Nat.le_refl _) k os)
  generalize Sort.grow (w.drewN k) os = w1 at *
  go_wp2
  go_ret
  exact ⟨rfl, HB.out⟩


set_option maxHeartbeats 1000000 in
theorem parse_yes (n : Int) (h0 : -9223372036854775808 ≤ n) (h1 : n ≤ 9223372036854775807) (w : World) (hE : Env w) :
    Calls Tryd.prog 4 #[.string (bs (Lib.itoa n))] w fun e w' => e = .returned (.tuple #[.int .i64 n, .bool true]) ∧ Below w.heap.size w w' := by
  have HE := Lib.hid hE
  clear hE
  have hlen : (bs (Lib.itoa n)).size ≤ 21 := by rw [bs_size]; exact Lib.itoa_length_le n h0 h1
  have A : Hid (Lib.atoiAll (bs (Lib.itoa n)).data.toList = .ok n) := by
    show Lib.atoiAll (bs (Lib.itoa n)).data.toList = .ok n
    simp only [bs]; exact atoi_itoa n h0 h1
  generalize hs : bs (Lib.itoa n) = s at *
  have HS := Lib.hid hs
  clear hs
  go_enter Tryd.func4, Tryd.ntmps4
  go_wp2_with fail
  refine (Any.strconv_Atoi_ok Tryd.laysC172 s (by omega) n A.out _).mono ?_
  rintro e w1 ⟨rfl, hw⟩
  have hb : Below w.heap.size w w1 := by
    rcases hw with rfl | ⟨t, rfl⟩
    · exact Below.refl _ _
    · exact Lib.bytesWorld_below _ _ _
  clear hw
  have HB := Lib.hid hb
  clear hb
  go_wp2_with fail
  refine (text_any n h0 h1 _ (HE.out.below HB.out)).mono ?_
  rw [HS.out]
  rintro e w2 ⟨rfl, hb2⟩
  have HB2 := Lib.hid hb2
  clear hb2
  go_wp2
  go_ret2
  exact ⟨rfl, HB.out.trans (HB2.out.mono HB.out.size)⟩

set_option maxHeartbeats 1000000 in
theorem parse_no (s : ByteArray) (hl : s.size ≤ 60) (hno : ∀ n : Int, -9223372036854775808 ≤ n → n ≤ 9223372036854775807 → Lib.itoa n ≠ s.data.toList) (w : World) (hE : Env w) :
    Calls Tryd.prog 4 #[.string s] w fun e w' => e = .returned (.tuple #[.int .i64 0, .bool false]) ∧ Below w.heap.size w w' := by
  have HE := Lib.hid hE
  have HN := Lib.hid hno
  clear hE hno
  cases h : Lib.atoiAll s.data.toList with
  | ok v =>
    have hb := Lib.atoiAll_bounds h
    have b1 : -9223372036854775808 ≤ v := by omega
    have b2 : v ≤ 9223372036854775807 := by omega
    have HA := Lib.hid h
    have hne : ((bs (Lib.itoa v)).toList == s.toList) = false := by
      rw [beq_eq_false_iff_ne]; intro e
      rw [ByteArray.toList_eq, ByteArray.toList_eq] at e
      exact HN.out v b1 b2 (by simpa [bs] using e)
    clear h hb
    generalize hs : bs (Lib.itoa v) = t at *
    have HS := Lib.hid hs
    clear hs
    go_enter Tryd.func4, Tryd.ntmps4
    go_wp2_with fail
    refine (Any.strconv_Atoi_ok Tryd.laysC172 s (by omega) v HA.out _).mono ?_
    rintro e w1 ⟨rfl, hw⟩
    have hb : Below w.heap.size w w1 := by
      rcases hw with rfl | ⟨t, rfl⟩
      · exact Below.refl _ _
      · exact Lib.bytesWorld_below _ _ _
    clear hw
    have HB := Lib.hid hb
    clear hb
    go_wp2_with fail
    refine (text_any v b1 b2 _ (HE.out.below HB.out)).mono ?_
    rw [HS.out]
    rintro e w2 ⟨rfl, hb2⟩
    have HB2 := Lib.hid hb2
    clear hb2
    go_wp2
    go_ret2
    exact ⟨rfl, HB.out.trans (HB2.out.mono HB.out.size)⟩
  | range =>
    obtain ⟨tp, p, hv⟩ := HE.out.rng
    have HA := Lib.hid h
    have HV := Lib.hid hv
    clear h hv
    go_enter Tryd.func4, Tryd.ntmps4
    go_wp2_with fail
    refine (Any.strconv_Atoi_range_var Tryd.laysC172 s (by omega) HA.out tp p _ HV.out).mono ?_
    rintro e w1 ⟨N, rfl, -, -, hb⟩
    have HB := Lib.hid hb
    clear hb
    go_wp2
    go_ret2
    exact ⟨rfl, HB.out⟩
  | _ =>
    obtain ⟨tp, p, hv⟩ := HE.out.syn
    have HA := Lib.hid h
    have HV := Lib.hid hv
    clear h hv
    go_enter Tryd.func4, Tryd.ntmps4
    go_wp2_with fail
    refine (Any.strconv_Atoi_syntax_var Tryd.laysC172 s (by omega) HA.out tp p _ HV.out).mono ?_
    rintro e w1 ⟨N, rfl, -, -, hb⟩
    have HB := Lib.hid hb
    clear hb
    go_wp2
    go_ret2
    exact ⟨rfl, HB.out⟩
end Go.Proofs.YtmfljibmnplkiaaDoor.W
