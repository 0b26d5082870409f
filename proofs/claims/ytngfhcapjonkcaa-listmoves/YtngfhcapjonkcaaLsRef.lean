/-
  The reference's lists: rows behind a pointer; contracts of New, Index, Of, may, Row. No conditions.
-/
import Derived.Test.YtngfhcapjonkcaaLsRight
namespace Go.Proofs.Ytngfhcapjonkcaa.W
open Go.RowKit Rw Ls
set_option linter.unusedVariables false

/-- a value that reads as a row, in blocks from B on -/
def RowV (w : World) (B : Nat) (v : Value) (r : List Nat) : Prop :=
  ∃ A c, v = .slice A r.length c ∧ r.length ≤ c ∧ Sl w A r.length (nv r) ∧ ∀ b off, 0 < r.length → A = some ⟨b, off, none⟩ → B ≤ b
theorem RowV.nil (w : World) (B : Nat) : RowV w B (.slice none 0 0) [] := ⟨none, 0, rfl, Nat.le_refl _, Sl.nil _ _, fun b off h => absurd h (by simp)⟩
theorem RowV.keep {w w' : World} {B : Nat} {v : Value} {r : List Nat} (h : RowV w B v r) (hk : ∀ b, B ≤ b → b < w.heap.size → (∃ off z, w.cell? ⟨b, off, none⟩ = some (.int .i64 z)) → w'.heap[b]? = w.heap[b]?) : RowV w' B v r := by
  obtain ⟨A, c, rfl, hc, hs, hB⟩ := h
  refine ⟨A, c, rfl, hc, hs.heap fun b off h0 e => hk b (hB b off h0 e) (hs.lt h0 e) ?_, hB⟩
  have hl : 0 < (nv r).length := by rw [nv_len]; exact h0
  obtain ⟨b', off', e', hc⟩ := hs.at_ (k := 0) (u := (nv r)[0]) (List.getElem?_eq_getElem hl)
  rw [e] at e'
  injection e' with e'
  injection e' with e1 e2
  subst e1
  refine ⟨off' + 0, ((r[0]'(by rw [nv_len] at hl; exact hl) : Nat) : Int), ?_⟩
  rw [hc]
  simp [nv]
theorem RowV.own {w : World} {B : Nat} {v : Value} {r : List Nat} (h : OwnV w 3 B v (nv r)) : RowV w B v r := by
  obtain ⟨A, c, rfl, hc, _, hs⟩ := h.form (nv_len r)
  refine ⟨A, c, rfl, hc, hs, fun b off h0 e => ?_⟩
  subst e
  exact (h.ge b rfl).1
theorem RowV.more {w : World} {B B' : Nat} {v : Value} {r : List Nat} (h : RowV w B v r) (hB : B' ≤ B) : RowV w B' v r := by
  obtain ⟨A, c, e, hc, hs, hb⟩ := h
  exact ⟨A, c, e, hc, hs, fun b off h0 e => Nat.le_trans hB (hb b off h0 e)⟩

/-- THE REFERENCE'S LISTS -/
structure Rf (w : World) (RR gL n m B : Nat) (L : List (List Nat)) (vs : Nat → Value) : Prop where
  head : w.heap[RR]? = some (.cells #[.int .i64 (n : Int), .slice (some ⟨gL, 0, none⟩) m m] 53 (0, 0))
  row : w.rowIs gL 37 m vs
  rows : ∀ k, k < m → RowV w B (vs k) (rowOf L k)
  len : L.length = m
  hR : B ≤ RR
  hL : B ≤ gL
  hm : m ≤ 16
  hn : n ≤ 1024
  ok : Ok n L
def Ref (w : World) (RR gL n m B : Nat) (L : List (List Nat)) : Prop := ∃ vs, Rf w RR gL n m B L vs
section
variable {w w' : World} {RR gL n m B : Nat} {L : List (List Nat)} {vs : Nat → Value}
theorem Rf.lt (h : Rf w RR gL n m B L vs) : RR < w.heap.size ∧ gL < w.heap.size := ⟨(Array.getElem?_eq_some_iff.1 h.head).1, h.row.lt⟩
theorem Rf.ne (h : Rf w RR gL n m B L vs) : RR ≠ gL := by
  intro e
  obtain ⟨c, k1, _⟩ := h.row
  have k0 := h.head
  rw [e, k1] at k0
  injection k0 with k0
  injection k0 with _ k0
  exact absurd k0 (by decide)
theorem Rf.cells (h : Rf w RR gL n m B L vs) : w.cell? ⟨RR, 0, none⟩ = some (.int .i64 (n : Int)) ∧ w.cell? ⟨RR, 1, none⟩ = some (.slice (some ⟨gL, 0, none⟩) m m) := by
  refine ⟨?_, ?_⟩
  · rw [cell_of_row w RR 0 _ _ (0, 0) h.head]; rfl
  · rw [cell_of_row w RR 1 _ _ (0, 0) h.head]; rfl
theorem Rf.keep (h : Rf w RR gL n m B L vs) (hk : ∀ b, B ≤ b → b < w.heap.size → w'.heap[b]? = w.heap[b]?) : Rf w' RR gL n m B L vs :=
  ⟨(hk _ h.hR h.lt.1).trans h.head, h.row.of_block (hk _ h.hL h.lt.2), fun k hkm => (h.rows k hkm).keep fun b h1 h2 _ => hk b h1 h2, h.len, h.hR, h.hL, h.hm, h.hn, h.ok⟩
theorem Rf.below (h : Rf w RR gL n m B L vs) (hb : Below w.heap.size w w') : Rf w' RR gL n m B L vs := h.keep fun b _ h2 => hb.block b h2
theorem Rf.turn {g1 g2 : Nat} (h : Rf w RR gL n m B L vs) (ht : Turn2 w w' g1 g2) (h1 : g1 < B) (h2 : g2 < B) : Rf w' RR gL n m B L vs := h.keep fun b hb hlt => ht.block b hlt (by omega) (by omega)
theorem Ref.below (h : Ref w RR gL n m B L) (hb : Below w.heap.size w w') : Ref w' RR gL n m B L := by obtain ⟨vs, h⟩ := h; exact ⟨vs, h.below hb⟩
theorem Ref.turn {g1 g2 : Nat} (h : Ref w RR gL n m B L) (ht : Turn2 w w' g1 g2) (h1 : g1 < B) (h2 : g2 < B) : Ref w' RR gL n m B L := by obtain ⟨vs, h⟩ := h; exact ⟨vs, h.turn ht h1 h2⟩
/-- one row set anew -/
theorem Rf.set {k : Nat} {v : Value} {r : List Nat} (h : Rf w RR gL n m B L vs) (hb : Below w.heap.size w w') (hk : k < m) (hv : RowV w' B v r) (hO : Ok n (L.set k r)) :
    Ref (w'.setCell ⟨gL, k, none⟩ v) RR gL n m B (L.set k r) ∧ w.grownBy (w'.setCell ⟨gL, k, none⟩ v) (some gL) := by
  have h' := h.below hb
  have hkl : k < L.length := by rw [h.len]; exact hk
  have hint : ∀ (u : Value) (r' : List Nat), RowV w' B u r' → RowV (w'.setCell ⟨gL, k, none⟩ v) B u r' := fun u r' hu => hu.keep fun b h1 h2 hz => by
    obtain ⟨off, z, hz⟩ := hz
    refine Below.heap_setCell _ _ _ _ fun e => ?_
    subst e
    by_cases ho : off < m
    · rw [h'.row.cell ho] at hz
      obtain ⟨A, c, e, _⟩ := h'.rows off ho
      rw [e] at hz
      cases hz
    · obtain ⟨c, hc, hs, _⟩ := h'.row
      rw [cell_of_row _ _ _ _ _ _ hc, Array.getElem?_eq_none (by omega)] at hz
      cases hz
  refine ⟨⟨fun j => if j = k then v else vs j, (Below.heap_setCell _ _ _ _ h.ne).trans h'.head, h'.row.set k v, fun j hj => ?_, by rw [List.length_set]; exact h.len, h.hR, h.hL, h.hm, h.hn, hO⟩, ?_⟩
  · unfold rowOf
    rw [List.getElem?_set]
    by_cases e : j = k
    · subst e
      rw [if_pos rfl, if_pos rfl, if_pos hkl]
      exact hint _ _ hv
    · rw [if_neg e, if_neg (fun x => e x.symm)]
      exact hint _ _ (h'.rows j hj)
  · exact ⟨hb.os, hb.tape, hb.output, by simp [World.setCell]; exact hb.size, fun i hi hn => (Below.heap_setCell _ _ _ _ (fun e => hn (by rw [e]))).trans (hb.block i hi)⟩
end

theorem sl_int {w : World} {A : Option Addr} {r : List Nat} {j x : Nat} (h : Sl w A r.length (nv r)) (hx : r[j]? = some x) : ∃ b off, A = some ⟨b, off, none⟩ ∧ w.cell? ⟨b, off + j, none⟩ = some (.int .i64 (x : Int)) :=
  h.at_ (k := j) (by unfold nv; rw [List.getElem?_map, hx]; rfl)

theorem index_yes {w : World} (A : Option Addr) (c N : Nat) (u v : List Nat) (a : Nat) (h : Sl w A (u ++ a :: v).length (nv (u ++ a :: v))) (hN : (u ++ a :: v).length = N) (hN2 : N ≤ 5000) (hau : a ∉ u) :
    Calls Try.prog 30 #[.slice A N c, .int .i64 (a : Int)] w fun e w' => e = .returned (.int .i64 (u.length : Int)) ∧ w = w' := by
  have H := Lib.hid h
  have HA := Lib.hid hau
  obtain ⟨z, hz⟩ : ∃ z, u.length = z := ⟨_, rfl⟩
  have hzN : z < N := by rw [← hN, ← hz]; simp
  rw [hz]
  have HZ := Lib.hid hz
  clear h hN hau hz
  go_enter Try.func30, Try.ntmps30
  go_wp2
  go_loop [5] (fun q => ∃ j : Nat, j ≤ z ∧ q = .int .i64 (j : Int)) (fun q => N - (intOf q).toNat)
  case atStart => exact ⟨0, by omega, rfl⟩
  case round =>
    obtain ⟨j, hj, rfl⟩ := hrel
    by_cases hlt : j < z
    · obtain ⟨x, hx⟩ : ∃ x, u[j]? = some x := ⟨_, List.getElem?_eq_getElem (by rw [HZ.out]; exact hlt)⟩
      obtain ⟨b, off, rfl, hcell⟩ := sl_int H.out (x := x) (j := j) (by rw [List.getElem?_append_left (by rw [HZ.out]; exact hlt)]; exact hx)
      have hne : ((x : Int) == (a : Int)) = false := by
        have : x ≠ a := fun e => HA.out (e ▸ List.mem_of_getElem? hx)
        simp; omega
      clear hx
      go_wp2
      go_round
      case rel => exact ⟨j + 1, by omega, by go_num⟩
      case measure => simp [intOf]; omega
    · have : j = z := by omega
      subst this
      obtain ⟨b, off, rfl, hcell⟩ := sl_int H.out (x := a) (j := j) (by rw [List.getElem?_append_right (by have := HZ.out; omega), HZ.out, Nat.sub_self]; rfl)
      go_wp2
      go_ret
      exact ⟨rfl, rfl⟩
theorem index_no {w : World} (A : Option Addr) (c N : Nat) (r : List Nat) (i : Int) (h : Sl w A r.length (nv r)) (hN : r.length = N) (hN2 : N ≤ 5000) (hno : ∀ x ∈ r, (x : Int) ≠ i) :
    Calls Try.prog 30 #[.slice A N c, .int .i64 i] w fun e w' => e = .returned (.int .i64 (-1)) ∧ w = w' := by
  have H := Lib.hid h
  have HA := Lib.hid hno
  have HN := Lib.hid hN
  clear h hN hno
  go_enter Try.func30, Try.ntmps30
  go_wp2
  go_loop [5] (fun q => ∃ j : Nat, j ≤ N ∧ q = .int .i64 (j : Int)) (fun q => N - (intOf q).toNat)
  case atStart => exact ⟨0, by omega, rfl⟩
  case round =>
    obtain ⟨j, hj, rfl⟩ := hrel
    by_cases hlt : j < N
    · obtain ⟨x, hx⟩ : ∃ x, r[j]? = some x := ⟨_, List.getElem?_eq_getElem (by rw [HN.out]; exact hlt)⟩
      obtain ⟨b, off, rfl, hcell⟩ := sl_int H.out hx
      have hne : ((x : Int) == i) = false := by
        have := HA.out x (List.mem_of_getElem? hx)
        simp; omega
      clear hx
      go_wp2
      go_round
      case rel => exact ⟨j + 1, by omega, by go_num⟩
      case measure => simp [intOf]; omega
    · have : j = N := by omega
      subst this
      go_wp2
      go_ret
      exact ⟨rfl, rfl⟩

section
variable {w : World} {RR gL n m B : Nat} {L : List (List Nat)}
theorem row_len (hO : Ok n L) (hn : n ≤ 1024) {k : Nat} (hk : k < L.length) : (rowOf L k).length ≤ 1024 :=
  Nat.le_trans (row_le (n := n) n _ (hO.nd k _ (rowOf_at hk)) (hO.lt k _ (rowOf_at hk))) hn
set_option maxHeartbeats 1000000 in
theorem rof_in (h : Ref w RR gL n m B L) (a k : Nat) (u v : List Nat) (hk : L[k]? = some (u ++ a :: v)) :
    Calls Try.prog 29 #[.pointer (some ⟨RR, 0, none⟩), .int .i64 (a : Int)] w fun e w' => e = .returned (.int .i64 (k : Int)) ∧ w = w' := by
  obtain ⟨vs, h⟩ := h
  obtain ⟨c0, c1⟩ := h.cells
  have hkm : k < m := by have := (List.getElem?_eq_some_iff.1 hk).1; have := h.len; omega
  have hm := h.hm
  have H := Lib.hid h
  have HK := Lib.hid hk
  have hk2 : rowOf L k = u ++ a :: v := by unfold rowOf; rw [hk]; rfl
  have HK2 := Lib.hid hk2
  clear h hk hk2 c0
  go_enter Try.func29, Try.ntmps29
  go_wp2
  go_loop [5] (fun q => ∃ j : Nat, j ≤ k ∧ q = .int .i64 (j : Int)) (fun q => m - (intOf q).toNat)
  case atStart => exact ⟨0, by omega, rfl⟩
  case round =>
    obtain ⟨j, hj, rfl⟩ := hrel
    have hjm : j < m := by omega
    have hjl : Hid (j < L.length) := by show _ < _; rw [H.out.len]; exact hjm
    obtain ⟨A, c, hv, hc, hs, _⟩ := H.out.rows j hjm
    have hcell := H.out.row.cell hjm
    rw [hv] at hcell
    obtain ⟨z, hz⟩ : ∃ z, (rowOf L j).length = z := ⟨_, rfl⟩
    have hz2 : Hid (z ≤ 5000) := by show _ ≤ _; rw [← hz]; exact Nat.le_trans (row_len H.out.ok H.out.hn hjl.out) (by decide)
    rw [hz] at hcell
    have HS := Lib.hid hs
    have HZ := Lib.hid hz
    clear hv hc hs hz
    by_cases hlt : j < k
    · have hno : Hid (∀ x ∈ rowOf L j, (x : Int) ≠ (a : Int)) := fun x hx e => by
        have : x = a := by omega
        subst this
        have := H.out.ok.one j k _ _ x (rowOf_at hjl.out) HK.out hx (by simp)
        omega
      go_wp2_with fail
      refine (index_no A c z (rowOf L j) a HS.out HZ.out hz2.out hno.out).mono ?_; rintro e w' ⟨rfl, rfl⟩
      go_wp2
      go_round
      case rel => exact ⟨j + 1, by omega, by go_num⟩
      case measure => simp [intOf]; omega
    · have : j = k := by omega
      subst this
      have hau : Hid (a ∉ u) := (nd_of (head_nd H.out.ok HK.out)).au
      go_wp2_with fail
      refine (index_yes A c z u v a (by rw [← HK2.out]; exact HS.out) (by rw [← HK2.out]; exact HZ.out) hz2.out hau.out).mono ?_; rintro e w' ⟨rfl, rfl⟩
      go_wp2
      go_ret
      exact ⟨rfl, rfl⟩
set_option maxHeartbeats 1000000 in
theorem rof_no (h : Ref w RR gL n m B L) (i : Int) (hno : ∀ (k : Nat) (r : List Nat), L[k]? = some r → ∀ x ∈ r, (x : Int) ≠ i) :
    Calls Try.prog 29 #[.pointer (some ⟨RR, 0, none⟩), .int .i64 i] w fun e w' => e = .returned (.int .i64 (-1)) ∧ w = w' := by
  obtain ⟨vs, h⟩ := h
  obtain ⟨c0, c1⟩ := h.cells
  have hm := h.hm
  have H := Lib.hid h
  have HNO := Lib.hid hno
  clear h hno c0
  go_enter Try.func29, Try.ntmps29
  go_wp2
  go_loop [5] (fun q => ∃ j : Nat, j ≤ m ∧ q = .int .i64 (j : Int)) (fun q => m - (intOf q).toNat)
  case atStart => exact ⟨0, by omega, rfl⟩
  case round =>
    obtain ⟨j, hj, rfl⟩ := hrel
    by_cases hjm : j < m
    · have hjl : Hid (j < L.length) := by show _ < _; rw [H.out.len]; exact hjm
      obtain ⟨A, c, hv, hc, hs, _⟩ := H.out.rows j hjm
      have hcell := H.out.row.cell hjm
      rw [hv] at hcell
      obtain ⟨z, hz⟩ : ∃ z, (rowOf L j).length = z := ⟨_, rfl⟩
      have hz2 : Hid (z ≤ 5000) := by show _ ≤ _; rw [← hz]; exact Nat.le_trans (row_len H.out.ok H.out.hn hjl.out) (by decide)
      rw [hz] at hcell
      have HS := Lib.hid hs
      have HZ := Lib.hid hz
      clear hv hc hs hz
      go_wp2_with fail
      refine (index_no A c z (rowOf L j) i HS.out HZ.out hz2.out (HNO.out j _ (rowOf_at hjl.out))).mono ?_; rintro e w' ⟨rfl, rfl⟩
      go_wp2
      go_round
      case rel => exact ⟨j + 1, by omega, by go_num⟩
      case measure => simp [intOf]; omega
    · have : j = m := by omega
      subst this
      go_wp2
      go_ret
      exact ⟨rfl, rfl⟩
theorem may_yes (h : Ref w RR gL n m B L) (k a : Int) (h0 : (0 ≤ k ∧ k < (m : Int)) ∧ (0 ≤ a ∧ a < (n : Int))) :
    Calls Try.prog 28 #[.pointer (some ⟨RR, 0, none⟩), .int .i64 k, .int .i64 a] w fun e w' => e = .returned (.bool true) ∧ w = w' := by
  obtain ⟨vs, h⟩ := h
  obtain ⟨c0, c1⟩ := h.cells
  obtain ⟨⟨k0, k1⟩, a0, a1⟩ := h0
  clear h
  go_enter Try.func28, Try.ntmps28
  go_wp2
  go_ret
  exact ⟨rfl, rfl⟩
theorem may_no (h : Ref w RR gL n m B L) (k a : Int) (h0 : ¬ ((0 ≤ k ∧ k < (m : Int)) ∧ (0 ≤ a ∧ a < (n : Int)))) :
    Calls Try.prog 28 #[.pointer (some ⟨RR, 0, none⟩), .int .i64 k, .int .i64 a] w fun e w' => e = .returned (.bool false) ∧ w = w' := by
  obtain ⟨vs, h⟩ := h
  obtain ⟨c0, c1⟩ := h.cells
  clear h
  have hc : k < 0 ∨ (0 ≤ k ∧ (m : Int) ≤ k) ∨ (0 ≤ k ∧ k < (m : Int) ∧ a < 0) ∨ (0 ≤ k ∧ k < (m : Int) ∧ 0 ≤ a ∧ (n : Int) ≤ a) := by omega
  clear h0
  rcases hc with h | ⟨h1, h2⟩ | ⟨h1, h2, h3⟩ | ⟨h1, h2, h3, h4⟩
  · go_enter Try.func28, Try.ntmps28
    go_wp2
    go_ret
    exact ⟨rfl, rfl⟩
  · have hd : decide (k < (m : Int)) = false := by simpa using h2
    go_enter Try.func28, Try.ntmps28
    go_wp2
    go_ret
    exact ⟨rfl, rfl⟩
  · go_enter Try.func28, Try.ntmps28
    go_wp2
    go_ret
    exact ⟨rfl, rfl⟩
  · have hd : decide (a < (n : Int)) = false := by simpa using h4
    go_enter Try.func28, Try.ntmps28
    go_wp2
    go_ret
    exact ⟨rfl, rfl⟩
/-- what Row tells -/
def Told (w : World) (z : Nat) (vs : List Value) (e : Ending) (w' : World) : Prop := (∃ A c, e = .returned (.slice A z c) ∧ Sl w A z vs) ∧ w = w'
theorem rrow_any (h : Ref w RR gL n m B L) (k : Int) (z : Nat) (hz : (rowI L k).length = z) :
    Calls Try.prog 31 #[.pointer (some ⟨RR, 0, none⟩), .int .i64 k] w (Told w z (nv (rowI L k))) := by
  subst hz
  obtain ⟨vs, h⟩ := h
  obtain ⟨c0, c1⟩ := h.cells
  have hm := h.hm
  by_cases h0 : 0 ≤ k ∧ k < (m : Int)
  · obtain ⟨j, rfl, hj, e⟩ := rowI_in (L := L) (k := k) (by rw [h.len]; exact h0)
    have hjm : j < m := by rw [← h.len]; exact hj
    obtain ⟨A, c, hv, hc, hs, _⟩ := h.rows j hjm
    have hcell := h.row.cell hjm
    rw [hv] at hcell
    rw [e]
    obtain ⟨z, hz⟩ : ∃ z, (rowOf L j).length = z := ⟨_, rfl⟩
    rw [hz] at hcell hs ⊢
    have HS := Lib.hid hs
    clear h c0 hv hc hs h0 e hz
    go_enter Try.func31, Try.ntmps31
    go_wp2
    go_ret
    exact ⟨⟨A, c, rfl, HS.out⟩, rfl⟩
  · rw [rowI_out (by rw [h.len]; exact h0)]
    by_cases hk : k < 0
    · clear h h0 c0
      go_enter Try.func31, Try.ntmps31
      go_wp2
      go_ret
      exact ⟨⟨none, 0, rfl, Sl.nil _ _⟩, rfl⟩
    · have h1 : (m : Int) ≤ k := by omega
      clear h h0 c0
      go_enter Try.func31, Try.ntmps31
      go_wp2
      go_ret
      exact ⟨⟨none, 0, rfl, Sl.nil _ _⟩, rfl⟩
end
end Go.Proofs.Ytngfhcapjonkcaa.W
