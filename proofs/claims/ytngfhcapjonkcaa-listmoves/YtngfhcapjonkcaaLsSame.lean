/-
  The law's own comparison (same), the reference's New and Same. No conditions.
-/
import Derived.Test.YtngfhcapjonkcaaLsRapp
namespace Go.Proofs.Ytngfhcapjonkcaa.W
open Go.RowKit Rw Ls
set_option linter.unusedVariables false

/-- rows that are alike are told so -/
theorem same_yes (A A2 : Option Addr) (n c c2 : Nat) (r : List Nat) (w : World) (hl : r.length = n) (hn : n ≤ 5000) (h1 : Sl w A n (nv r)) (h2 : Sl w A2 n (nv r)) :
    Calls Try.prog 22 #[.slice A n c, .slice A2 n c2] w fun e w' => e = .returned (.bool true) ∧ Below w.heap.size w w' := by
  have H1 : Hid (Sl w A r.length (nv r)) := by show Sl _ _ _ _; rw [hl]; exact h1
  have H2 : Hid (Sl w A2 r.length (nv r)) := by show Sl _ _ _ _; rw [hl]; exact h2
  have HL := Lib.hid hl
  clear h1 h2 hl
  go_enter Try.func22, Try.ntmps22
  go_wp2
  go_loopw [5] (fun q wr => ∃ j : Nat, j ≤ n ∧ q = .int .i64 (j : Int) ∧ Hid (∃ m, wr = w.drewN m)) (fun q _ => n - (intOf q).toNat)
  case atStart => exact ⟨0, by omega, rfl, 0, rfl⟩
  case round =>
    obtain ⟨j, hj, rfl, HD⟩ := hrel
    obtain ⟨m, rfl⟩ := HD.out
    by_cases hlt : j < n
    · obtain ⟨z, hz⟩ : ∃ z, r[j]? = some z := ⟨_, List.getElem?_eq_getElem (by rw [HL.out]; exact hlt)⟩
      obtain ⟨b, off, rfl, hcell⟩ := sl_int H1.out hz
      obtain ⟨b2, off2, rfl, hcell2⟩ := sl_int H2.out hz
      clear hz
      go_wp2
      go_quiet (fail)
      go_wp2
      go_roundw
      case rel => exact ⟨j + 1, by omega, rfl, _, rfl⟩
      case measure => simp [intOf]; omega
    · have : j = n := by omega
      subst this
      go_wp2
      go_ret
      exact ⟨rfl, below_drewN (Below.refl _ _) _⟩

theorem row_info : (Try.prog.info? 37).map (fun i => (i.zero, i.size, i.bytes)) = some (some (.slice none 0 0), 1, 24) := by kernel_rfl
theorem make_rows (m : Nat) (hm : m ≤ 5000) (w : World) : (Instr.makeSlice 51 (.int .i64 (m : Int)) (.int .i64 (m : Int))).run Try.prog w = .ok (.slice (some ⟨w.heap.size, 0, none⟩) m m) (w.alloc (.cells (madeCells #[Value.slice none 0 0] m) 37)) := by
  obtain ⟨i, hi, hz0, hz1, hz2⟩ := info_parts row_info
  have := run_make (P := Try.prog) w 51 37 i _ Try.underlying51 hi hz0 .i64 .i64 (m : Int) (m : Int) (by omega) (Int.le_refl _) (by rw [hz2]; omega) (by omega)
  rw [Int.toNat_natCast, hz1, Nat.mul_one] at this
  exact this
/-- what the reference's New leaves -/
def ROpened (w : World) (n m : Nat) (e : Ending) (w' : World) : Prop :=
  ∃ RR gL, e = .returned (.pointer (some ⟨RR, 0, none⟩)) ∧ Ref w' RR gL n m w.heap.size (List.replicate m []) ∧ w.heap.size ≤ gL ∧ Below w.heap.size w w'
theorem rowOf_rep (m k : Nat) : rowOf (List.replicate m []) k = [] := by
  unfold rowOf
  rw [List.getElem?_replicate]
  split <;> rfl
theorem ref_new (w : World) (n m : Nat) (hn : n ≤ 1024) (hm : m ≤ 16) : ROpened w n m (.returned (.pointer (some ⟨w.heap.size + 1, 0, none⟩)))
    ((w.alloc (.cells (madeCells #[Value.slice none 0 0] m) 37)).alloc (.cells #[.int .i64 (n : Int), .slice (some ⟨w.heap.size, 0, none⟩) m m] 53)) := by
  refine ⟨_, w.heap.size, rfl, ⟨fun _ => .slice none 0 0, ?_, (World.rowIs_made w (.slice none 0 0) m 37).alloc _, fun k hk => ?_, List.length_replicate .., by omega, Nat.le_refl _, hm, hn, ok_new _ _⟩, Nat.le_refl _, (((Below.refl _ w).alloc (Nat.le_refl _) _).alloc (by simp) _)⟩
  · have := heap_alloc_new (w.alloc (.cells (madeCells #[Value.slice none 0 0] m) 37)) (.cells #[.int .i64 (n : Int), .slice (some ⟨w.heap.size, 0, none⟩) m m] 53)
    rw [World.size_alloc] at this
    exact this
  · rw [rowOf_rep]; exact RowV.nil _ _
theorem rnew_any (n m : Nat) (w : World) (hn : n ≤ 1024) (hm : m ≤ 16) : Calls Try.prog 7 #[.int .i64 (n : Int), .int .i64 (m : Int)] w (ROpened w n m) := by
  have mk := make_rows m (by omega)
  have RN := Lib.hid (ref_new w n m hn hm)
  go_enter Try.func7, Try.ntmps7
  go_wp2
  go_ret
  exact RN.out

theorem where_int (L : List (List Nat)) (i : Int) : (∃ (a k : Nat) (u v : List Nat), i = (a : Int) ∧ L[k]? = some (u ++ a :: v)) ∨ ∀ (k : Nat) (r : List Nat), L[k]? = some r → ∀ x ∈ r, (x : Int) ≠ i := by
  by_cases h : 0 ≤ i
  · obtain ⟨a, rfl⟩ := Int.eq_ofNat_of_zero_le h
    rcases where_is L a with ⟨k, u, v, hk⟩ | hno
    · exact .inl ⟨a, k, u, v, rfl, hk⟩
    · exact .inr (no_int hno)
  · exact .inr fun k r hk x hx e => by omega
theorem below_tells {w w1 : World} {u : Value} {e : Ending} (h : Tells w u e w1) : e = .returned u ∧ Below w.heap.size w w1 := by
  obtain ⟨rfl, k, rfl⟩ := h
  exact ⟨rfl, below_drewN (Below.refl _ _) k⟩
theorem rowI_len {n : Nat} {L : List (List Nat)} (hO : Ok n L) (hn : n ≤ 1024) (k : Int) : (rowI L k).length ≤ 1024 := by
  by_cases h0 : 0 ≤ k ∧ k < (L.length : Int)
  · obtain ⟨j, rfl, hj, e⟩ := rowI_in h0
    rw [e]; exact row_len hO hn hj
  · rw [rowI_out h0]; simp

set_option maxRecDepth 100000 in
set_option maxHeartbeats 8000000 in
theorem lsame_any {w : World} {R g1 g2 n RR gL m B : Nat} {L : List (List Nat)} (hx : Rows w R g1 g2 n L) (hr : Ref w RR gL n m B L) (at_ node : Int) :
    Calls Try.prog 14 #[.pointer (some ⟨R, 0, none⟩), .pointer (some ⟨RR, 0, none⟩), .int .i64 at_, .int .i64 node] w fun e w' => e = .returned (.bool true) ∧ Below w.heap.size w w' := by
  have HX := Lib.hid hx
  have HR := Lib.hid hr
  obtain ⟨row, hrow⟩ : ∃ row, rowI L at_ = row := ⟨_, rfl⟩
  have hlen : row.length ≤ 1024 := by
    obtain ⟨vs, h⟩ := hr
    rw [← hrow]
    exact rowI_len h.ok h.hn at_
  have HROW := Lib.hid hrow
  clear hx hr hrow
  cases row with
  | nil =>
    have HLEN : Hid (([] : List Nat).length = 0) := rfl
    have HFIRST : Hid (firstV [] = .tuple #[.int .i64 0, .bool false]) := rfl
    have HLAST : Hid (lastV [] = .tuple #[.int .i64 0, .bool false]) := rfl
    rcases where_int L node with ⟨nd, kk, u, v, rfl, hk⟩ | hno
    · have HK := Lib.hid hk
      clear hk
      go_enter Try.func14, Try.ntmps14
      go_wp2_with fail
      refine (rrow_any HR.out at_ 0 (by rw [HROW.out]; exact HLEN.out)).mono ?_; rintro e w' ⟨⟨A, c, rfl, sl⟩, rfl⟩
      rw [HROW.out] at sl
      have SLR := Lib.hid sl
      clear sl
      go_wp2_with fail
      refine (front_any HX.out at_).mono ?_; rintro e w1 ht1
      obtain ⟨rfl, b1⟩ := below_tells ht1
      rw [HROW.out, HFIRST.out]
      have X1 := Lib.hid (HX.out.below b1)
      have B1 := Lib.hid b1
      clear ht1 b1
      go_wp2_with fail
      refine (back_any X1.out at_).mono ?_; rintro e w2 ht2
      obtain ⟨rfl, b2⟩ := below_tells ht2
      rw [HROW.out, HLAST.out]
      have X2 := Lib.hid (X1.out.below b2)
      have B2 := Lib.hid (then_below B1.out b2)
      clear ht2 b2
      go_wp2_with fail
      refine (of_in X2.out nd kk u v HK.out).mono ?_; rintro e w' ⟨rfl, rfl⟩
      have R2 := Lib.hid (HR.out.below B2.out)
      go_wp2_with fail
      refine (rof_in R2.out nd kk u v HK.out).mono ?_; rintro e w' ⟨rfl, rfl⟩
      go_wp2_with fail
      refine (len_any X2.out at_ 0 (by rw [HROW.out]; exact HLEN.out)).mono ?_; rintro e w' ⟨rfl, rfl⟩
      go_wp2_with fail
      refine (all_any X2.out at_).mono ?_; rintro e w3 ⟨v3, rfl, o3, b3⟩
      rw [HROW.out] at o3
      obtain ⟨A3, c3, rfl, _, _, s3⟩ := o3.form ((nv_len _).trans HLEN.out)
      have S3 := Lib.hid s3
      have B3 := Lib.hid (then_below B2.out b3)
      have X3 := Lib.hid (X2.out.below b3)
      have SR3 := Lib.hid (SLR.out.below B3.out)
      clear o3 b3 s3
      go_wp2_with fail
      refine (same_yes _ _ 0 c3 c _ _ HLEN.out (by omega) S3.out SR3.out).mono ?_; rintro e w4 ⟨rfl, b4⟩
      have B4 := Lib.hid (then_below B3.out b4)
      have X4 := Lib.hid (X3.out.below b4)
      clear b4
      go_wp2_with fail
      refine (right_any X4.out).mono ?_; rintro e w5 ⟨rfl, b5⟩
      have B5 := Lib.hid (then_below B4.out b5)
      clear b5
      go_wp2
      go_ret
      exact ⟨rfl, B5.out⟩
    · have HNO := Lib.hid hno
      clear hno
      go_enter Try.func14, Try.ntmps14
      go_wp2_with fail
      refine (rrow_any HR.out at_ 0 (by rw [HROW.out]; exact HLEN.out)).mono ?_; rintro e w' ⟨⟨A, c, rfl, sl⟩, rfl⟩
      rw [HROW.out] at sl
      have SLR := Lib.hid sl
      clear sl
      go_wp2_with fail
      refine (front_any HX.out at_).mono ?_; rintro e w1 ht1
      obtain ⟨rfl, b1⟩ := below_tells ht1
      rw [HROW.out, HFIRST.out]
      have X1 := Lib.hid (HX.out.below b1)
      have B1 := Lib.hid b1
      clear ht1 b1
      go_wp2_with fail
      refine (back_any X1.out at_).mono ?_; rintro e w2 ht2
      obtain ⟨rfl, b2⟩ := below_tells ht2
      rw [HROW.out, HLAST.out]
      have X2 := Lib.hid (X1.out.below b2)
      have B2 := Lib.hid (then_below B1.out b2)
      clear ht2 b2
      go_wp2_with fail
      refine (of_no X2.out node HNO.out).mono ?_; rintro e w' ⟨rfl, rfl⟩
      have R2 := Lib.hid (HR.out.below B2.out)
      go_wp2_with fail
      refine (rof_no R2.out node HNO.out).mono ?_; rintro e w' ⟨rfl, rfl⟩
      go_wp2_with fail
      refine (len_any X2.out at_ 0 (by rw [HROW.out]; exact HLEN.out)).mono ?_; rintro e w' ⟨rfl, rfl⟩
      go_wp2_with fail
      refine (all_any X2.out at_).mono ?_; rintro e w3 ⟨v3, rfl, o3, b3⟩
      rw [HROW.out] at o3
      obtain ⟨A3, c3, rfl, _, _, s3⟩ := o3.form ((nv_len _).trans HLEN.out)
      have S3 := Lib.hid s3
      have B3 := Lib.hid (then_below B2.out b3)
      have X3 := Lib.hid (X2.out.below b3)
      have SR3 := Lib.hid (SLR.out.below B3.out)
      clear o3 b3 s3
      go_wp2_with fail
      refine (same_yes _ _ 0 c3 c _ _ HLEN.out (by omega) S3.out SR3.out).mono ?_; rintro e w4 ⟨rfl, b4⟩
      have B4 := Lib.hid (then_below B3.out b4)
      have X4 := Lib.hid (X3.out.below b4)
      clear b4
      go_wp2_with fail
      refine (right_any X4.out).mono ?_; rintro e w5 ⟨rfl, b5⟩
      have B5 := Lib.hid (then_below B4.out b5)
      clear b5
      go_wp2
      go_ret
      exact ⟨rfl, B5.out⟩
  | cons a0 t =>
    obtain ⟨y, hy⟩ : ∃ y, t.length = y := ⟨_, rfl⟩
    obtain ⟨b0, hb0⟩ : ∃ b0, (a0 :: t).getLast? = some b0 := ⟨_, List.getLast?_eq_some_getLast (by simp)⟩
    have HLEN : Hid ((a0 :: t).length = y + 1) := by show _ = _; rw [List.length_cons, hy]
    have HFIRST : Hid (firstV (a0 :: t) = .tuple #[.int .i64 (a0 : Int), .bool true]) := rfl
    have HLAST : Hid (lastV (a0 :: t) = .tuple #[.int .i64 (b0 : Int), .bool true]) := by show _ = _; unfold lastV; rw [hb0]
    have HF0 : Hid ((nv (a0 :: t))[0]? = some (.int .i64 (a0 : Int))) := rfl
    have HF9 : Hid ((nv (a0 :: t))[y]? = some (.int .i64 (b0 : Int))) := by
      show _ = _
      unfold nv
      rw [List.getElem?_map]
      have : (a0 :: t)[y]? = some b0 := by rw [List.getLast?_eq_getElem?, List.length_cons, hy] at hb0; exact hb0
      rw [this]; rfl
    have hy2 : y ≤ 1024 := by rw [List.length_cons, hy] at hlen; omega
    clear hy hb0 hlen
    rcases where_int L node with ⟨nd, kk, u, v, rfl, hk⟩ | hno
    · have HK := Lib.hid hk
      clear hk
      go_enter Try.func14, Try.ntmps14
      go_wp2_with fail
      refine (rrow_any HR.out at_ (y + 1) (by rw [HROW.out]; exact HLEN.out)).mono ?_; rintro e w' ⟨⟨A, c, rfl, sl⟩, rfl⟩
      rw [HROW.out] at sl
      have SLR := Lib.hid sl
      obtain ⟨bk, off, rfl, hc0⟩ := sl.at_ (k := 0) (u := .int .i64 (a0 : Int)) (HF0.out)
      obtain ⟨bk', off', eA, hc9⟩ := sl.at_ (k := y) (u := .int .i64 (b0 : Int)) (HF9.out)
      injection eA with eA
      injection eA with e1 e2
      subst e1 e2
      rw [Nat.add_zero] at hc0
      clear sl
      go_wp2_with fail
      refine (front_any HX.out at_).mono ?_; rintro e w1 ht1
      obtain ⟨rfl, b1⟩ := below_tells ht1
      rw [HROW.out, HFIRST.out]
      have X1 := Lib.hid (HX.out.below b1)
      have B1 := Lib.hid b1
      clear ht1 b1
      go_wp2_with fail
      refine (back_any X1.out at_).mono ?_; rintro e w2 ht2
      obtain ⟨rfl, b2⟩ := below_tells ht2
      rw [HROW.out, HLAST.out]
      have X2 := Lib.hid (X1.out.below b2)
      have B2 := Lib.hid (then_below B1.out b2)
      clear ht2 b2
      go_wp2_with fail
      refine (of_in X2.out nd kk u v HK.out).mono ?_; rintro e w' ⟨rfl, rfl⟩
      have R2 := Lib.hid (HR.out.below B2.out)
      have hd0 := (B2.out.cell (p := ⟨bk, off, none⟩) (World.block_lt_of_cell? w ⟨bk, off, none⟩ hc0)).trans hc0
      have hd9 := (B2.out.cell (p := ⟨bk, off + y, none⟩) (World.block_lt_of_cell? w ⟨bk, off + y, none⟩ hc9)).trans hc9
      clear hc0 hc9
      go_wp2_with fail
      refine (rof_in R2.out nd kk u v HK.out).mono ?_; rintro e w' ⟨rfl, rfl⟩
      go_wp2_with fail
      refine (len_any X2.out at_ (y + 1) (by rw [HROW.out]; exact HLEN.out)).mono ?_; rintro e w' ⟨rfl, rfl⟩
      go_wp2_with fail
      refine (all_any X2.out at_).mono ?_; rintro e w3 ⟨v3, rfl, o3, b3⟩
      rw [HROW.out] at o3
      obtain ⟨A3, c3, rfl, _, _, s3⟩ := o3.form ((nv_len _).trans HLEN.out)
      have S3 := Lib.hid s3
      have B3 := Lib.hid (then_below B2.out b3)
      have X3 := Lib.hid (X2.out.below b3)
      have SR3 := Lib.hid (SLR.out.below B3.out)
      clear o3 b3 s3
      go_wp2_with fail
      refine (same_yes _ _ (y + 1) c3 c _ _ HLEN.out (by omega) S3.out SR3.out).mono ?_; rintro e w4 ⟨rfl, b4⟩
      have B4 := Lib.hid (then_below B3.out b4)
      have X4 := Lib.hid (X3.out.below b4)
      clear b4
      go_wp2_with fail
      refine (right_any X4.out).mono ?_; rintro e w5 ⟨rfl, b5⟩
      have B5 := Lib.hid (then_below B4.out b5)
      clear b5
      go_wp2
      go_ret
      exact ⟨rfl, B5.out⟩
    · have HNO := Lib.hid hno
      clear hno
      go_enter Try.func14, Try.ntmps14
      go_wp2_with fail
      refine (rrow_any HR.out at_ (y + 1) (by rw [HROW.out]; exact HLEN.out)).mono ?_; rintro e w' ⟨⟨A, c, rfl, sl⟩, rfl⟩
      rw [HROW.out] at sl
      have SLR := Lib.hid sl
      obtain ⟨bk, off, rfl, hc0⟩ := sl.at_ (k := 0) (u := .int .i64 (a0 : Int)) (HF0.out)
      obtain ⟨bk', off', eA, hc9⟩ := sl.at_ (k := y) (u := .int .i64 (b0 : Int)) (HF9.out)
      injection eA with eA
      injection eA with e1 e2
      subst e1 e2
      rw [Nat.add_zero] at hc0
      clear sl
      go_wp2_with fail
      refine (front_any HX.out at_).mono ?_; rintro e w1 ht1
      obtain ⟨rfl, b1⟩ := below_tells ht1
      rw [HROW.out, HFIRST.out]
      have X1 := Lib.hid (HX.out.below b1)
      have B1 := Lib.hid b1
      clear ht1 b1
      go_wp2_with fail
      refine (back_any X1.out at_).mono ?_; rintro e w2 ht2
      obtain ⟨rfl, b2⟩ := below_tells ht2
      rw [HROW.out, HLAST.out]
      have X2 := Lib.hid (X1.out.below b2)
      have B2 := Lib.hid (then_below B1.out b2)
      clear ht2 b2
      go_wp2_with fail
      refine (of_no X2.out node HNO.out).mono ?_; rintro e w' ⟨rfl, rfl⟩
      have R2 := Lib.hid (HR.out.below B2.out)
      have hd0 := (B2.out.cell (p := ⟨bk, off, none⟩) (World.block_lt_of_cell? w ⟨bk, off, none⟩ hc0)).trans hc0
      have hd9 := (B2.out.cell (p := ⟨bk, off + y, none⟩) (World.block_lt_of_cell? w ⟨bk, off + y, none⟩ hc9)).trans hc9
      clear hc0 hc9
      go_wp2_with fail
      refine (rof_no R2.out node HNO.out).mono ?_; rintro e w' ⟨rfl, rfl⟩
      go_wp2_with fail
      refine (len_any X2.out at_ (y + 1) (by rw [HROW.out]; exact HLEN.out)).mono ?_; rintro e w' ⟨rfl, rfl⟩
      go_wp2_with fail
      refine (all_any X2.out at_).mono ?_; rintro e w3 ⟨v3, rfl, o3, b3⟩
      rw [HROW.out] at o3
      obtain ⟨A3, c3, rfl, _, _, s3⟩ := o3.form ((nv_len _).trans HLEN.out)
      have S3 := Lib.hid s3
      have B3 := Lib.hid (then_below B2.out b3)
      have X3 := Lib.hid (X2.out.below b3)
      have SR3 := Lib.hid (SLR.out.below B3.out)
      clear o3 b3 s3
      go_wp2_with fail
      refine (same_yes _ _ (y + 1) c3 c _ _ HLEN.out (by omega) S3.out SR3.out).mono ?_; rintro e w4 ⟨rfl, b4⟩
      have B4 := Lib.hid (then_below B3.out b4)
      have X4 := Lib.hid (X3.out.below b4)
      clear b4
      go_wp2_with fail
      refine (right_any X4.out).mono ?_; rintro e w5 ⟨rfl, b5⟩
      have B5 := Lib.hid (then_below B4.out b5)
      clear b5
      go_wp2
      go_ret
      exact ⟨rfl, B5.out⟩
end Go.Proofs.Ytngfhcapjonkcaa.W
