/-
  The reference's lists: contract of Append. No conditions.
-/
import Derived.Test.YtngfhcapjonkcaaLsRmove
namespace Go.Proofs.Ytngfhcapjonkcaa.W
open Go.RowKit Rw Ls Gt
set_option linter.unusedVariables false

theorem Sl.cell1 (w : World) (a : Nat) : Sl (w.alloc (.cells #[.int .i64 (a : Int)] 3)) (some ⟨w.heap.size, 0, none⟩) 1 (nv [a]) := Sl.one w 3 (.int .i64 (a : Int))
section
variable {w : World} {RR gL n m B : Nat} {L : List (List Nat)}
set_option maxHeartbeats 8000000 in
theorem rappend_yes (h : Ref w RR gL n m B L) (k a : Nat) (hkm : k < m) (ha : a < n) :
    Calls Try.prog 11 #[.pointer (some ⟨RR, 0, none⟩), .int .i64 (k : Int), .int .i64 (a : Int)] w (RMoved w RR gL n m B (app L k a) (.bool true)) := by
  have H := Lib.hid h
  clear h
  go_enter Try.func11, Try.ntmps11
  go_wp2_with fail
  refine (may_yes H.out _ _ ⟨⟨by omega, by omega⟩, by omega, by omega⟩).mono ?_; rintro e w' ⟨rfl, rfl⟩
  go_wp2_with fail
  refine (rremove_rm H.out a).mono ?_; rintro e w1 ⟨b, rfl, r1, t1⟩
  obtain ⟨vs, h⟩ := r1
  have HF := Lib.hid h
  have T1 := Lib.hid t1
  obtain ⟨c0, c1⟩ := h.cells
  obtain ⟨lR, lL⟩ := h.lt
  have hm := h.hm
  have hkl : k < (rm L a).length := by rw [h.len]; exact hkm
  obtain ⟨A, c, hv, hc, hs, _⟩ := h.rows k hkm
  have hrow := h.row.cell hkm
  rw [hv] at hrow
  have hN2 : (rowOf (rm L a) k).length ≤ 1024 := row_len h.ok h.hn hkl
  obtain ⟨N, hN⟩ : ∃ N, (rowOf (rm L a) k).length = N := ⟨_, rfl⟩
  rw [hN] at hrow hc hN2 hs
  have S1 := Lib.hid hs
  have HN := Lib.hid hN
  have HO : Hid (Ok n ((rm L a).set k (rowOf (rm L a) k ++ [a]))) := ok_put (v := []) h.ok (by rw [List.append_nil]; exact rowOf_at hkl) ha rm_not
  have fr : ∀ i, w1.frozen? ⟨gL, i, none⟩ = false := h.row.frozen
  have hBw : Hid (B ≤ w1.heap.size) := by have := h.hL; show _ ≤ _; omega
  have ek0 : (0 : Int) ≤ (k : Int) := by omega
  have ek1 : (k : Int) < (m : Int) := by omega
  clear h t1 hv hs c0 hN
  go_wp2_with fail
  refine gate (fun w' => w'.cell? ⟨RR, 1, none⟩ = some (.slice (some ⟨gL, 0, none⟩) m m) ∧ w'.cell? ⟨gL, k, none⟩ = some (.slice A N c)) 18 [0, 1, 2, 3, 4, 6, 7, 8, 9, 10, 11, 12, 14] 6 (by kernel_rfl) (by kernel_rfl) (by kernel_rfl) rfl ?_ ⟨c1, hrow⟩ ?_
  · intro d v c a w h
    cases d <;> exact h
  iterate 13
    refine yields_step ?_ rfl rfl ?_ ?_
    rotate_left
    · intro w' hS; obtain ⟨hS1, hS2⟩ := hS; go_simp; rfl
  have keepS : ∀ x, Below w1.heap.size w1 x → x.cell? ⟨RR, 1, none⟩ = some (.slice (some ⟨gL, 0, none⟩) m m) ∧ x.cell? ⟨gL, k, none⟩ = some (.slice A N c) := fun x hx => ⟨(hx.cell (p := ⟨RR, 1, none⟩) lR).trans c1, (hx.cell (p := ⟨gL, k, none⟩) lL).trans hrow⟩
  have KS := Lib.hid keepS
  clear keepS
  refine Gate.fork (i := 5) (j := 15) (by kernel_rfl) rfl rfl rfl rfl (fun K hK => ?_) (fun K hK => ?_)
  · go_simp
    have bS : Below w1.heap.size w1 ((w1.alloc (.cells #[] 3)).drew) := ((Below.refl _ w1).alloc (Nat.le_refl _) _).drew
    refine hK _ _ (fun _ => KS.out _ bS) ?_
    clear hK K
    refine Gate.fork (i := 13) (j := 15) (by kernel_rfl) rfl rfl rfl rfl (fun K hK => ?_) (fun K hK => ?_)
    · refine wp_append_row (.tmp 20) (.tmp 27) 37 rfl it (w0 := w1) rfl ((OwnV.empty w1 3 w1.heap.size (Nat.le_refl _)).drew) bS c rfl (S1.out.below bS) (nv_one _) (by rw [List.length_nil]; omega) ?_
      intro v3 w3 o3 b3 _
      rw [List.nil_append] at o3
      refine hK _ _ (fun _ => KS.out _ b3) ?_
      clear hK K
      refine Gate.next (i := 15) (by kernel_rfl) rfl rfl (fun K hK => ?_)
      go_simp
      have bT : Below w1.heap.size w1 (w3.alloc (.cells #[.int .i64 (a : Int)] 3)) := b3.alloc b3.size _
      refine hK _ _ (fun _ => KS.out _ bT) ?_
      clear hK K
      refine Gate.next (i := 16) (by kernel_rfl) rfl rfl (fun K hK => ?_)
      refine wp_append_row (.tmp 28) (.tmp 30) 37 rfl it (w0 := w1) rfl (o3.alloc _) bT 1 rfl (Sl.cell1 w3 a) (nv_one _) (by rw [nv_len, HN.out]; omega) ?_
      intro v4 w4 o4 b4 _
      rw [nv_app] at o4
      have d4 := (KS.out _ b4).2
      have f4 := (b4.frozen (p := ⟨gL, k, none⟩) lL).trans (fr k)
      refine hK _ _ (fun _ => KS.out _ b4) ?_
      have M4 := Lib.hid (HF.out.set b4 hkm ((RowV.own o4).more hBw.out) HO.out)
      obtain ⟨N5, hN5⟩ : ∃ N5, (rowOf (rm L a) k ++ [a]).length = N5 := ⟨_, rfl⟩
      obtain ⟨A4, c4, rfl, l4, m4, s4⟩ := o4.form ((nv_len _).trans hN5)
      clear hN5 hK K o4 l4 m4 s4
      refine Gate.next (i := 17) (by kernel_rfl) rfl rfl (fun K hK => ?_)
      go_simp
      refine hK _ _ (fun _ => KS.out _ b4) ?_
      clear hK K
      refine Gate.next (i := 18) (by kernel_rfl) rfl rfl (fun K hK => ?_)
      go_simp
      refine hK _ _ (fun h => absurd rfl h) ?_
      clear hK K
      refine Gate.done (by kernel_rfl) ?_
      go_wp2
      go_ret
      exact ⟨rfl, M4.out.1, then_grown T1.out M4.out.2⟩
    · go_simp
      have bT : Below w1.heap.size w1 (((w1.alloc (.cells #[] 3)).alloc (.cells #[.int .i64 (a : Int)] 3)).drew) := (((Below.refl _ w1).alloc (Nat.le_refl _) _).alloc (by simp) _).drew
      refine hK _ _ (fun _ => KS.out _ bT) ?_
      clear hK K
      refine Gate.next (i := 13) (by kernel_rfl) rfl rfl (fun K hK => ?_)
      refine wp_append_row (.tmp 20) (.tmp 27) 37 rfl it (w0 := w1) rfl (((OwnV.empty w1 3 w1.heap.size (Nat.le_refl _)).alloc _).drew) bT c rfl (S1.out.below bT) (nv_one _) (by rw [List.length_nil]; omega) ?_
      intro v3 w3 o3 b3 g3
      rw [List.nil_append] at o3
      have SN : Sl w3 (some ⟨w1.heap.size + 1, 0, none⟩) 1 (nv [a]) := by
        have := Sl.cell1 (w1.alloc (.cells #[] 3)) a
        rw [World.size_alloc] at this
        exact Sl.grown (R := w1.heap.size) this.drew g3 (fun off _ e => by injection e with e; injection e with e; omega)
      refine hK _ _ (fun _ => KS.out _ b3) ?_
      clear hK K
      refine Gate.next (i := 16) (by kernel_rfl) rfl rfl (fun K hK => ?_)
      refine wp_append_row (.tmp 28) (.tmp 30) 37 rfl it (w0 := w1) rfl o3 b3 1 rfl SN (nv_one _) (by rw [nv_len, HN.out]; omega) ?_
      intro v4 w4 o4 b4 _
      rw [nv_app] at o4
      have d4 := (KS.out _ b4).2
      have f4 := (b4.frozen (p := ⟨gL, k, none⟩) lL).trans (fr k)
      refine hK _ _ (fun _ => KS.out _ b4) ?_
      have M4 := Lib.hid (HF.out.set b4 hkm ((RowV.own o4).more hBw.out) HO.out)
      obtain ⟨N5, hN5⟩ : ∃ N5, (rowOf (rm L a) k ++ [a]).length = N5 := ⟨_, rfl⟩
      obtain ⟨A4, c4, rfl, l4, m4, s4⟩ := o4.form ((nv_len _).trans hN5)
      clear hN5 hK K o4 l4 m4 s4
      refine Gate.next (i := 17) (by kernel_rfl) rfl rfl (fun K hK => ?_)
      go_simp
      refine hK _ _ (fun _ => KS.out _ b4) ?_
      clear hK K
      refine Gate.next (i := 18) (by kernel_rfl) rfl rfl (fun K hK => ?_)
      go_simp
      refine hK _ _ (fun h => absurd rfl h) ?_
      clear hK K
      refine Gate.done (by kernel_rfl) ?_
      go_wp2
      go_ret
      exact ⟨rfl, M4.out.1, then_grown T1.out M4.out.2⟩
  · go_simp
    have bS : Below w1.heap.size w1 ((w1.alloc (.cells #[.int .i64 (a : Int)] 3)).drew) := ((Below.refl _ w1).alloc (Nat.le_refl _) _).drew
    refine hK _ _ (fun _ => KS.out _ bS) ?_
    clear hK K
    refine Gate.next (i := 5) (by kernel_rfl) rfl rfl (fun K hK => ?_)
    go_simp
    have bT : Below w1.heap.size w1 (((w1.alloc (.cells #[.int .i64 (a : Int)] 3)).alloc (.cells #[] 3)).drew) := (((Below.refl _ w1).alloc (Nat.le_refl _) _).alloc (by simp) _).drew
    refine hK _ _ (fun _ => KS.out _ bT) ?_
    clear hK K
    refine Gate.next (i := 13) (by kernel_rfl) rfl rfl (fun K hK => ?_)
    have OE : OwnV (((w1.alloc (.cells #[.int .i64 (a : Int)] 3)).alloc (.cells #[] 3)).drew) 3 w1.heap.size (.slice (some ⟨w1.heap.size + 1, 0, none⟩) 0 0) [] := by
      have := OwnV.empty (w1.alloc (.cells #[.int .i64 (a : Int)] 3)) 3 w1.heap.size (by simp)
      rw [World.size_alloc] at this
      exact this.drew
    refine wp_append_row (.tmp 20) (.tmp 27) 37 rfl it (w0 := w1) rfl OE bT c rfl (S1.out.below bT) (nv_one _) (by rw [List.length_nil]; omega) ?_
    intro v3 w3 o3 b3 g3
    rw [List.nil_append] at o3
    have SN : Sl w3 (some ⟨w1.heap.size, 0, none⟩) 1 (nv [a]) := Sl.grown (R := w1.heap.size + 1) ((Sl.cell1 w1 a).alloc _).drew g3 (fun off _ e => by injection e with e; injection e with e; omega)
    refine hK _ _ (fun _ => KS.out _ b3) ?_
    clear hK K
    refine Gate.next (i := 16) (by kernel_rfl) rfl rfl (fun K hK => ?_)
    refine wp_append_row (.tmp 28) (.tmp 30) 37 rfl it (w0 := w1) rfl o3 b3 1 rfl SN (nv_one _) (by rw [nv_len, HN.out]; omega) ?_
    intro v4 w4 o4 b4 _
    rw [nv_app] at o4
    have d4 := (KS.out _ b4).2
    have f4 := (b4.frozen (p := ⟨gL, k, none⟩) lL).trans (fr k)
    refine hK _ _ (fun _ => KS.out _ b4) ?_
    have M4 := Lib.hid (HF.out.set b4 hkm ((RowV.own o4).more hBw.out) HO.out)
    obtain ⟨N5, hN5⟩ : ∃ N5, (rowOf (rm L a) k ++ [a]).length = N5 := ⟨_, rfl⟩
    obtain ⟨A4, c4, rfl, l4, m4, s4⟩ := o4.form ((nv_len _).trans hN5)
    clear hN5 hK K o4 l4 m4 s4
    refine Gate.next (i := 17) (by kernel_rfl) rfl rfl (fun K hK => ?_)
    go_simp
    refine hK _ _ (fun _ => KS.out _ b4) ?_
    clear hK K
    refine Gate.next (i := 18) (by kernel_rfl) rfl rfl (fun K hK => ?_)
    go_simp
    refine hK _ _ (fun h => absurd rfl h) ?_
    clear hK K
    refine Gate.done (by kernel_rfl) ?_
    go_wp2
    go_ret
    exact ⟨rfl, M4.out.1, then_grown T1.out M4.out.2⟩
end
end Go.Proofs.Ytngfhcapjonkcaa.W
