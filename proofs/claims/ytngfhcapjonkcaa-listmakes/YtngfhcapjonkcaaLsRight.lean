/-
  Contract of Right. No conditions.
-/
import Derived.Test.YtngfhcapjonkcaaLsRow
namespace Go.Proofs.Ytngfhcapjonkcaa.W
open Go.RowKit Rw Ls
set_option linter.unusedVariables false

theorem Rows.set {w : World} {R g1 g2 n b i : Nat} {L : List (List Nat)} (h : Rows w R g1 g2 n L) (u : Value) (h0 : R ≠ b) (h1 : g1 ≠ b) (h2 : g2 ≠ b) : Rows (w.setCell ⟨b, i, none⟩ u) R g1 g2 n L := by
  obtain ⟨f, s, h⟩ := h
  exact ⟨f, s, h.st.blocks (Below.heap_setCell _ _ _ _ h0) (Below.heap_setCell _ _ _ _ h1) (Below.heap_setCell _ _ _ _ h2), h.ok, h.fit, h.len⟩
theorem below_of_drew {a b : World} (h : Below a.drew.heap.size a.drew b) : Below a.heap.size a b := ⟨h.os, h.tape, h.output, h.size, h.block⟩
theorem then_below {a b c : World} (h : Below a.heap.size a b) (k : Below b.heap.size b c) : Below a.heap.size a c := h.trans (k.mono h.size)
theorem rowIs_below {w w' : World} {b : Nat} {t : TypeId} {n : Nat} {f : Nat → Value} (h : w.rowIs b t n f) (hb : Below w.heap.size w w') : w'.rowIs b t n f := h.of_block (hb.block b h.lt)
theorem cnt_hit {j : Nat} {r : List Nat} (h : j ∈ r) : cnt (j + 1) r = cnt j r + 1 := by show cnt j r + (if j ∈ r then 1 else 0) = _; rw [if_pos h]
theorem cnt_miss {j : Nat} {r : List Nat} (h : j ∉ r) : cnt (j + 1) r = cnt j r := by show cnt j r + (if j ∈ r then 1 else 0) = _; rw [if_neg h]; rfl
theorem no_int {L : List (List Nat)} {a : Nat} (h : ∀ (k : Nat) (r : List Nat), L[k]? = some r → a ∉ r) : ∀ (k : Nat) (r : List Nat), L[k]? = some r → ∀ x ∈ r, (x : Int) ≠ (a : Int) := fun k r hk x hx e => h k r hk (by
  have : x = a := by omega
  exact this ▸ hx)
theorem many_step {w : World} {b m j k : Nat} {L : List (List Nat)} {u v : List Nat} {n : Nat} (hO : Ok n L) (hm : L.length = m) (h : w.rowIs b 3 m (sc fun i => cnt j (rowOf L i))) (hk : L[k]? = some (u ++ j :: v)) (z : Nat) (hz : cnt j (rowOf L k) = z) :
    (w.setCell ⟨b, k, none⟩ (.int .i64 ((z + 1 : Nat) : Int))).rowIs b 3 m (sc fun i => cnt (j + 1) (rowOf L i)) := by
  refine (h.set k _).congr fun i hi => ?_
  by_cases e : i = k
  · subst e
    rw [if_pos rfl]
    have hj : j ∈ rowOf L i := by unfold rowOf; rw [hk]; simp
    show Value.int .i64 ((z + 1 : Nat) : Int) = Value.int .i64 ((cnt (j + 1) (rowOf L i) : Nat) : Int)
    rw [cnt_hit hj, hz]
  · rw [if_neg e]
    have hj : j ∉ rowOf L i := fun hx => e (hO.one i k _ _ j (rowOf_at (by omega)) hk hx (by simp))
    show Value.int .i64 ((cnt j (rowOf L i) : Nat) : Int) = Value.int .i64 ((cnt (j + 1) (rowOf L i) : Nat) : Int)
    rw [cnt_miss hj]
theorem many_same {w : World} {b m j : Nat} {L : List (List Nat)} (hm : L.length = m) (h : w.rowIs b 3 m (sc fun i => cnt j (rowOf L i))) (hno : ∀ (k : Nat) (r : List Nat), L[k]? = some r → j ∉ r) : w.rowIs b 3 m (sc fun i => cnt (j + 1) (rowOf L i)) := by
  refine h.congr fun i hi => ?_
  show Value.int .i64 ((cnt j (rowOf L i) : Nat) : Int) = Value.int .i64 ((cnt (j + 1) (rowOf L i) : Nat) : Int)
  rw [cnt_miss (hno i _ (rowOf_at (by omega)))]

theorem right_nil (w : World) : Calls Try.prog 21 #[.pointer none] w fun e w' => e = .returned (.bool true) ∧ w = w' := by
  go_enter Try.func21, Try.ntmps21
  go_wp2
  go_ret
  exact ⟨rfl, rfl⟩

set_option maxHeartbeats 4000000 in
theorem right_any {w : World} {R g1 g2 n : Nat} {L : List (List Nat)} (h : Rows w R g1 g2 n L) :
    Calls Try.prog 21 #[.pointer (some ⟨R, 0, none⟩)] w fun e w' => e = .returned (.bool true) ∧ Below w.heap.size w w' := by
  have H := Lib.hid h
  obtain ⟨f, s, h⟩ := h
  have OK := Lib.hid h.ok
  obtain ⟨c0, c1, c2⟩ := h.st.cells
  obtain ⟨l0, l1, l2⟩ := h.st.lt
  have hn := h.st.hn
  have hm := h.st.hm
  obtain ⟨m, hme⟩ : ∃ m, L.length = m := ⟨_, rfl⟩
  obtain ⟨N, hNe⟩ : ∃ N, n + m = N := ⟨_, rfl⟩
  rw [hme, hNe] at c1
  rw [hme] at c2 hm
  have HM := Lib.hid hme
  have HN := Lib.hid hNe
  have mk := make_sizes m (by omega)
  have r0 : R ≠ w.heap.size := by omega
  have r1 : g1 ≠ w.heap.size := by omega
  have r2 : g2 ≠ w.heap.size := by omega
  have M0 : Hid ((w.alloc (.cells (szArr m) 3)).rowIs w.heap.size 3 m (sc fun i => cnt 0 (rowOf L i))) := by
    have := World.rowIs_alloc w (szArr m) 3 (sc fun _ => 0) (fun i hi => sz_cell m i (by rw [sz_size] at hi; exact hi))
    rw [sz_size] at this
    exact this
  have B0 : Hid (Below w.heap.size w (w.alloc (.cells (szArr m) 3))) := (Below.refl _ _).alloc (Nat.le_refl _) _
  have H0 := Lib.hid (H.out.below B0.out)
  have hNN : N ≤ 1040 := by omega
  clear h hme c0 hNe
  go_enter Try.func21, Try.ntmps21
  go_wp2
  go_loopw [21] (fun q wr => ∃ j : Nat, j ≤ N ∧ q = .int .i64 (j : Int) ∧ Hid (Rows wr R g1 g2 n L) ∧ Hid (wr.rowIs w.heap.size 3 m (sc fun i => cnt j (rowOf L i))) ∧ Hid (Below w.heap.size w wr)) (fun q _ => N - (intOf q).toNat)
  case atStart => exact ⟨0, by omega, rfl, H0, M0, B0⟩
  case round =>
    clear M0 H0 B0 c1 c2 mk
    obtain ⟨j, hj, rfl, HJ, MJ, BJ⟩ := hrel
    by_cases hlt : j < N
    · obtain ⟨fj, sj, lj⟩ := HJ.out
      have LJ := Lib.hid lj
      clear lj
      go_wp2_with fail
      refine (fits_any LJ.out j (by rw [HM.out, HN.out]; exact hlt)).mono ?_; rintro e w2 ⟨rfl, b2⟩
      have H2 := Lib.hid (HJ.out.below b2)
      have M2 := Lib.hid (rowIs_below MJ.out b2)
      have B2 : Hid (Below w.heap.size w w2) := then_below BJ.out b2
      clear b2
      rcases where_is L j with ⟨k, u, v, hk⟩ | hno
      · have HK := Lib.hid hk
        have hkm : k < m := by have := (List.getElem?_eq_some_iff.1 hk).1; have := HM.out; omega
        obtain ⟨z, hz⟩ : ∃ z, cnt j (rowOf L k) = z := ⟨_, rfl⟩
        have hzl : z ≤ 1040 := by rw [← hz]; have := cnt_le j (rowOf L k); omega
        have hcell : w2.cell? ⟨w.heap.size, k, none⟩ = some (.int .i64 (z : Int)) := by rw [M2.out.cell hkm, ← hz]; rfl
        have fr : ∀ i, w2.frozen? ⟨w.heap.size, i, none⟩ = false := M2.out.frozen
        have HZ := Lib.hid hz
        clear hk hz
        go_wp2_with fail
        refine (of_in H2.out j k u v HK.out).mono ?_; rintro e w' ⟨rfl, rfl⟩
        go_wp2
        go_roundw
        case rel => exact ⟨j + 1, by omega, by go_num, H2.out.set _ r0 r1 r2, many_step OK.out HM.out M2.out HK.out z HZ.out, B2.out.setCell (p := ⟨w.heap.size, k, none⟩) (Nat.le_refl _) _⟩
        case measure => simp [intOf]; omega
      · have HNO := Lib.hid hno
        clear hno
        go_wp2_with fail
        refine (of_no H2.out j (no_int HNO.out)).mono ?_; rintro e w' ⟨rfl, rfl⟩
        go_wp2
        go_roundw
        case rel => exact ⟨j + 1, by omega, by go_num, H2, many_same HM.out M2.out HNO.out, B2⟩
        case measure => simp [intOf]; omega
    · have hjN : j = N := by omega
      have MF : Hid (wr.rowIs w.heap.size 3 m (sc fun i => (rowOf L i).length)) := MJ.out.congr fun i hi => by
        have hr := rowOf_at (L := L) (k := i) (by rw [HM.out]; exact hi)
        show Value.int .i64 ((cnt j (rowOf L i) : Nat) : Int) = Value.int .i64 (((rowOf L i).length : Nat) : Int)
        rw [cnt_all j (rowOf L i) (OK.out.nd i _ hr) (fun x hx => by have := OK.out.lt i _ hr x hx; have := HN.out; omega)]
      have hge : N ≤ j := by omega
      clear MJ hjN
      go_wp2
      go_loopw [44] (fun q wr => ∃ k : Nat, k ≤ m ∧ q = .int .i64 (k : Int) ∧ Hid (Rows wr R g1 g2 n L) ∧ Hid (wr.rowIs w.heap.size 3 m (sc fun i => (rowOf L i).length)) ∧ Hid (Below w.heap.size w wr)) (fun q _ => m - (intOf q).toNat)
      case atStart => exact ⟨0, by omega, rfl, HJ, MF, BJ⟩
      case round =>
        clear HJ MF BJ
        obtain ⟨k, hk, rfl, HK, MK, BK⟩ := hrel
        by_cases hkm : k < m
        · obtain ⟨z, hz⟩ : ∃ z, (rowOf L k).length = z := ⟨_, rfl⟩
          have hcell : wr.cell? ⟨w.heap.size, k, none⟩ = some (.int .i64 (z : Int)) := by rw [MK.out.cell hkm, ← hz]; rfl
          have hwl : w.heap.size < wr.heap.size := MK.out.lt
          have HZ := Lib.hid hz
          have hkl : Hid (k < L.length) := by show _ < _; rw [HM.out]; exact hkm
          have hb0 : (0 : Int) ≤ (k : Int) := by omega
          have hb1 : (k : Int) < (m : Int) := by omega
          clear hz
          go_wp2_with fail
          go_region_held (fun w' => w'.cell? ⟨w.heap.size, k, none⟩ = some (.int .i64 (z : Int))) (first | go_keep | exact (CB.out.cell (p := ⟨w.heap.size, k, none⟩) hwl).trans hcell)
            (first
              | (go_at_call 20; (with_reducible refine (all_row (HK.out.below (Below.refl _ _).drew) k hkl.out).mono ?_); rintro e w3 ⟨v3, rfl, o3, b3⟩; obtain ⟨A3, c3, rfl, l3, m3, s3⟩ := o3.form ((nv_len _).trans HZ.out); have CB : Hid (Below wr.heap.size wr w3) := below_of_drew b3; have B3 : Hid (Below w.heap.size w w3) := then_below BK.out CB.out; have H3 := Lib.hid (HK.out.below CB.out); have M3 := Lib.hid (rowIs_below MK.out CB.out); clear o3 b3 l3 m3 s3)
              | (go_at_call 19; (with_reducible refine (len_row H3.out k hkl.out z HZ.out).mono ?_); rintro e w4 ⟨rfl, rfl⟩))
          all_goals go_wp2
          all_goals
            go_roundw
            case rel => exact ⟨k + 1, by omega, by go_num, H3, M3, B3⟩
            case measure => simp [intOf]; omega
        · have : k = m := by omega
          subst this
          go_wp2
          go_ret
          exact ⟨rfl, BK.out⟩

/-- lists that nobody made -/
def Odd (w : World) (R : Nat) : Prop := w.heap[R]? = some (.cells #[.int .i64 0, .slice none 0 0, .slice none 0 0] 39 (0, 0))
theorem Odd.cells {w : World} {R : Nat} (h : Odd w R) : w.cell? ⟨R, 0, none⟩ = some (.int .i64 0) ∧ w.cell? ⟨R, 1, none⟩ = some (.slice none 0 0) ∧ w.cell? ⟨R, 2, none⟩ = some (.slice none 0 0) := by
  refine ⟨?_, ?_, ?_⟩
  · rw [cell_of_row w R 0 _ _ (0, 0) h]; rfl
  · rw [cell_of_row w R 1 _ _ (0, 0) h]; rfl
  · rw [cell_of_row w R 2 _ _ (0, 0) h]; rfl
theorem Odd.lt {w : World} {R : Nat} (h : Odd w R) : R < w.heap.size := (Array.getElem?_eq_some_iff.1 h).1
theorem Odd.below {w w' : World} {R : Nat} (h : Odd w R) (hb : Below w.heap.size w w') : Odd w' R := (hb.block R h.lt).trans h
theorem hasList_odd {w : World} {R : Nat} (h : Odd w R) (k : Int) : Calls Try.prog 25 #[.pointer (some ⟨R, 0, none⟩), .int .i64 k] w fun e w' => e = .returned (.bool false) ∧ w = w' := by
  obtain ⟨c0, c1, c2⟩ := h.cells
  clear h c0 c1
  by_cases h0 : k < 0
  · go_enter Try.func25, Try.ntmps25
    go_wp2
    go_ret
    exact ⟨rfl, rfl⟩
  · have hd : decide (k < 0) = false := by simpa using h0
    go_enter Try.func25, Try.ntmps25
    go_wp2
    go_ret
    exact ⟨rfl, rfl⟩
theorem hasNode_odd {w : World} {R : Nat} (h : Odd w R) (k : Int) : Calls Try.prog 26 #[.pointer (some ⟨R, 0, none⟩), .int .i64 k] w fun e w' => e = .returned (.bool false) ∧ w = w' := by
  obtain ⟨c0, c1, c2⟩ := h.cells
  clear h c1 c2
  by_cases h0 : k < 0
  · go_enter Try.func26, Try.ntmps26
    go_wp2
    go_ret
    exact ⟨rfl, rfl⟩
  · have hd : decide (k < 0) = false := by simpa using h0
    go_enter Try.func26, Try.ntmps26
    go_wp2
    go_ret
    exact ⟨rfl, rfl⟩
theorem len_odd {w : World} {R : Nat} (h : Odd w R) (k : Int) : Calls Try.prog 19 #[.pointer (some ⟨R, 0, none⟩), .int .i64 k] w fun e w' => e = .returned (.int .i64 0) ∧ w = w' := by
  have H := Lib.hid h
  clear h
  go_enter Try.func19, Try.ntmps19
  go_wp2_with fail
  refine (hasList_odd H.out _).mono ?_; rintro e w' ⟨rfl, rfl⟩
  go_wp2
  go_ret
  exact ⟨rfl, rfl⟩
theorem back_odd {w : World} {R : Nat} (h : Odd w R) (k : Int) : Calls Try.prog 17 #[.pointer (some ⟨R, 0, none⟩), .int .i64 k] w fun e w' => e = .returned (.tuple #[.int .i64 0, .bool false]) ∧ w = w' := by
  have H := Lib.hid h
  clear h
  go_enter Try.func17, Try.ntmps17
  go_wp2_with fail
  refine (len_odd H.out _).mono ?_; rintro e w' ⟨rfl, rfl⟩
  go_wp2
  go_ret2
  exact ⟨rfl, rfl⟩
theorem append_odd {w : World} {R : Nat} (h : Odd w R) (k a : Int) : Calls Try.prog 10 #[.pointer (some ⟨R, 0, none⟩), .int .i64 k, .int .i64 a] w fun e w' => e = .returned (.bool false) ∧ w = w' := by
  have H := Lib.hid h
  clear h
  go_enter Try.func10, Try.ntmps10
  go_wp2_with fail
  refine (hasList_odd H.out _).mono ?_; rintro e w' ⟨rfl, rfl⟩
  go_wp2
  go_ret
  exact ⟨rfl, rfl⟩
theorem of_odd {w : World} {R : Nat} (h : Odd w R) (i : Int) : Calls Try.prog 18 #[.pointer (some ⟨R, 0, none⟩), .int .i64 i] w fun e w' => e = .returned (.tuple #[.int .i64 0, .bool false]) ∧ w = w' := by
  have H := Lib.hid h
  clear h
  go_enter Try.func18, Try.ntmps18
  go_wp2_with fail
  refine (hasNode_odd H.out _).mono ?_; rintro e w' ⟨rfl, rfl⟩
  go_wp2
  go_ret2
  exact ⟨rfl, rfl⟩
theorem remove_odd {w : World} {R : Nat} (h : Odd w R) (i : Int) : Calls Try.prog 12 #[.pointer (some ⟨R, 0, none⟩), .int .i64 i] w fun e w' => e = .returned (.bool false) ∧ w = w' := by
  have H := Lib.hid h
  clear h
  go_enter Try.func12, Try.ntmps12
  go_wp2_with fail
  refine (of_odd H.out _).mono ?_; rintro e w' ⟨rfl, rfl⟩
  go_wp2
  go_ret
  exact ⟨rfl, rfl⟩
theorem all_odd {w : World} {R : Nat} (h : Odd w R) (k : Int) : Calls Try.prog 20 #[.pointer (some ⟨R, 0, none⟩), .int .i64 k] w fun e w' => e = .returned (.slice none 0 0) ∧ w = w' := by
  have H := Lib.hid h
  clear h
  go_enter Try.func20, Try.ntmps20
  go_wp2_with fail
  refine (hasList_odd H.out _).mono ?_; rintro e w' ⟨rfl, rfl⟩
  go_wp2
  go_ret
  exact ⟨rfl, rfl⟩
theorem all_none (k : Int) (w : World) : Calls Try.prog 20 #[.pointer none, .int .i64 k] w fun e w' => e = .returned (.slice none 0 0) ∧ w = w' := by
  go_enter Try.func20, Try.ntmps20
  go_wp2_with fail
  refine (hasList_nil _ _).mono ?_; rintro e w' ⟨rfl, rfl⟩
  go_wp2
  go_ret
  exact ⟨rfl, rfl⟩
set_option maxHeartbeats 1000000 in
theorem right_odd {w : World} {R : Nat} (h : Odd w R) : Calls Try.prog 21 #[.pointer (some ⟨R, 0, none⟩)] w fun e w' => e = .returned (.bool true) ∧ Below w.heap.size w w' := by
  obtain ⟨c0, c1, c2⟩ := h.cells
  have l0 := h.lt
  have r0 : R ≠ w.heap.size := by omega
  have mk : ∀ w, (Instr.makeSlice 37 (.int .i64 0) (.int .i64 0)).run Try.prog w = .ok (.slice (some ⟨w.heap.size, 0, none⟩) 0 0) (w.alloc (.cells (szArr 0) 3)) := make_sizes 0 (by omega)
  have B0 : Hid (Below w.heap.size w (w.alloc (.cells (szArr 0) 3))) := (Below.refl _ _).alloc (Nat.le_refl _) _
  clear h c0
  go_enter Try.func21, Try.ntmps21
  go_wp2
  go_loopw [21] (fun q wr => q = .int .i64 0 ∧ Hid (Below w.heap.size w wr)) (fun _ _ => 0)
  case atStart => exact ⟨rfl, B0⟩
  case round =>
    obtain ⟨rfl, BJ⟩ := hrel
    go_wp2
    go_loopw [44] (fun q wr => q = .int .i64 0 ∧ Hid (Below w.heap.size w wr)) (fun _ _ => 0)
    case atStart => exact ⟨rfl, BJ⟩
    case round =>
      clear BJ
      obtain ⟨rfl, BJ⟩ := hrel
      go_wp2
      go_ret
      exact ⟨rfl, BJ.out⟩
end Go.Proofs.Ytngfhcapjonkcaa.W
