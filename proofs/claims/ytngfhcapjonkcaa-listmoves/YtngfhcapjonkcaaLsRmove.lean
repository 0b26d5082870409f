/-
  The reference's lists: contracts of Remove, Push, Append. No conditions.
-/
import Derived.Test.YtngfhcapjonkcaaLsRef
import Derived.Test.YtngfhcapjonkcaaGate
namespace Go.Proofs.Ytngfhcapjonkcaa.W
open Go.RowKit Rw Ls Gt
set_option linter.unusedVariables false

/-- append of values onto a row of the call's own, carried out -/
theorem wp_append_row {P : Program} {w : World} {o : Oper} {a : Act} {K : Act → World → Prop} {Q : Exit → Act → World → Prop} (s x : Operand) (t : TypeId)
    (ho : o.op = .call { callee := .builtin .append, args := #[s, x], argTypes := #[t, t] }) {e : TypeId} {z : Value} {bytes : Nat} (hT : ElTy P t e z bytes) {w0 : World} {v : Value} {xs : List Value} (hs : a.eval s = v) (hown : OwnV w e w0.heap.size v xs) (hb : Below w0.heap.size w0 w)
    {A : Option Addr} {m : Nat} (c : Nat) {ys : List Value} (hx : a.eval x = .slice A m c) (hr : Sl w A m ys) (h1 : ∀ u ∈ ys, u.oneCell' = true) (hl : xs.length + m ≤ 1000000000000)
    (h : ∀ v' w', OwnV w' e w0.heap.size v' (xs ++ ys) → Below w0.heap.size w0 w' → w.grownBy w' v.ownBlock → K (a.put o.dst v') w') : Oper.wp P o a w K Q := by
  obtain ⟨v', w', hrun, h2, h3, _⟩ := run_append_row (P := P) (ty := o.type) c hT hown hr h1 hl hb.size
  unfold Oper.wp execOp
  simp only [ho, resolve, invoke, builtin, Sem.run_bind, Sem.run_pure, Result.andThen_ok, List.map_toArray, List.map_cons, List.map_nil, hs, hx, hrun]
  exact h v' w' h2 (hb.grown h3 hb.size fun g hg => (hown.ge g hg).1) h3
theorem it : ElTy Try.prog 37 3 (.int .i64 0) 8 := ⟨Try.underlying37, by kernel_rfl, rfl, by decide⟩
theorem nv_one (xs : List Nat) : ∀ u ∈ nv xs, u.oneCell' = true := by
  intro u hu
  obtain ⟨x, _, rfl⟩ := List.mem_map.1 hu
  rfl
theorem nv_app (xs ys : List Nat) : nv xs ++ nv ys = nv (xs ++ ys) := by unfold nv; rw [List.map_append]

/-- a row cut -/
theorem cut_hi (A : Option Addr) (n m c : Nat) (h : m ≤ c) (w : World) : (Instr.slice 37 (.slice A n c) none (some (.int .i64 (m : Int))) none).run Try.prog w = .ok (.slice A m c) w := by
  obtain ⟨i, hi, hz0, hz1, hz2⟩ := info_parts it.info
  rw [run_slice_h w 37 A n c Try.underlying37 .i64 m (by omega) (by omega)]
  show ((sizeOf 3).run Try.prog w).andThen _ = _
  by_cases hc : c = 0
  · simp [sizeOf, typeInfo, hi, hz1, sliced, hc]
  · rcases A with _ | a
    · simp [sizeOf, typeInfo, hi, hz1, sliced, hc]
    · simp [sizeOf, typeInfo, hi, hz1, sliced, hc, Addr.add]
theorem cut_lo (A : Option Addr) (n m c : Nat) (h : m ≤ n) (hc : n ≤ c) : ∃ A' c', (∀ w, (Instr.slice 37 (.slice A n c) (some (.int .i64 (m : Int))) none none).run Try.prog w = .ok (.slice A' (n - m) c') w) ∧ ∀ w vs, Sl w A n vs → Sl w A' (n - m) (vs.drop m) := by
  obtain ⟨i, hi, hz0, hz1, hz2⟩ := info_parts it.info
  by_cases e : c = m
  · refine ⟨A, 0, fun w => ?_, fun w vs hs => ?_⟩
    · rw [run_slice_l w 37 A n c Try.underlying37 .i64 m (by omega) (by omega)]
      show ((sizeOf 3).run Try.prog w).andThen _ = _
      simp [sizeOf, typeInfo, hi, hz1, sliced, e]
    · have hnm : n = m := by omega
      subst hnm
      rw [Nat.sub_self, List.drop_of_length_le (by rw [hs.len]; exact Nat.le_refl _)]
      exact Sl.nil _ _
  · refine ⟨Option.map (fun x => x.add m) A, c - m, fun w => ?_, fun w vs hs => hs.map h⟩
    rw [run_slice_l w 37 A n c Try.underlying37 .i64 m (by omega) (by omega)]
    show ((sizeOf 3).run Try.prog w).andThen _ = _
    simp [sizeOf, typeInfo, hi, hz1, sliced, e]

/-- what a call leaves that turns the reference's lists -/
def RMoved (w : World) (RR gL n m B : Nat) (L : List (List Nat)) (u : Value) (e : Ending) (w' : World) : Prop := e = .returned u ∧ Ref w' RR gL n m B L ∧ w.grownBy w' (some gL)

section
variable {w : World} {RR gL n m B : Nat} {L : List (List Nat)}
theorem rremove_no (h : Ref w RR gL n m B L) (i : Int) (hno : ∀ (k : Nat) (r : List Nat), L[k]? = some r → ∀ x ∈ r, (x : Int) ≠ i) :
    Calls Try.prog 13 #[.pointer (some ⟨RR, 0, none⟩), .int .i64 i] w (RMoved w RR gL n m B L (.bool false)) := by
  have H := Lib.hid h
  have HNO := Lib.hid hno
  clear h hno
  go_enter Try.func13, Try.ntmps13
  go_wp2_with fail
  refine (rof_no H.out i HNO.out).mono ?_; rintro e w' ⟨rfl, rfl⟩
  go_wp2
  go_ret
  exact ⟨rfl, H.out, World.grownBy.refl _ _⟩

set_option maxHeartbeats 4000000 in
theorem rremove_yes (h : Ref w RR gL n m B L) (a k : Nat) (u v : List Nat) (hk : L[k]? = some (u ++ a :: v)) :
    Calls Try.prog 13 #[.pointer (some ⟨RR, 0, none⟩), .int .i64 (a : Int)] w (RMoved w RR gL n m B (rm L a) (.bool true)) := by
  have H := Lib.hid h
  obtain ⟨vs, h⟩ := h
  have HF := Lib.hid h
  obtain ⟨c0, c1⟩ := h.cells
  obtain ⟨lR, lL⟩ := h.lt
  have hm := h.hm
  have hkl := (List.getElem?_eq_some_iff.1 hk).1
  have hkm : k < m := by rw [← h.len]; exact hkl
  have hk2 : rowOf L k = u ++ a :: v := by unfold rowOf; rw [hk]; rfl
  obtain ⟨A, c, hv, hc, hs, hbB⟩ := h.rows k hkm
  have hrow := h.row.cell hkm
  rw [hv] at hrow
  have hN2 : (rowOf L k).length ≤ 1024 := row_len h.ok h.hn hkl
  rw [hk2] at hrow hs hc hN2
  obtain ⟨N, hN⟩ : ∃ N, (u ++ a :: v).length = N := ⟨_, rfl⟩
  obtain ⟨z, hz⟩ : ∃ z, u.length = z := ⟨_, rfl⟩
  have hzN : z + 1 ≤ N := by rw [← hN, ← hz, List.length_append, List.length_cons]; omega
  rw [hN] at hrow hc hN2
  have i1 := cut_hi A N z c (by omega)
  obtain ⟨A2, c2, i2, t2⟩ := cut_lo A N (z + 1) c hzN hc
  have hwz : IntKind.i64.wrap ((z : Int) + 1) = ((z + 1 : Nat) : Int) := by rw [IntKind.wrap_i64]; omega
  obtain ⟨y, hy⟩ : ∃ y, z + 1 = y := ⟨_, rfl⟩
  rw [hy] at i2 hwz t2 hzN
  have hz2 : z ≤ 1024 := by omega
  obtain ⟨N2, hN3⟩ : ∃ N2, N - y = N2 := ⟨_, rfl⟩
  have hN4 : N2 ≤ 1024 := by omega
  rw [hN3] at i2 t2
  have hs' : Sl w A N (nv (u ++ a :: v)) := by rw [← hN]; exact hs
  have s1 : Sl w A z (nv u) := by
    have := hs'.take (k := z) (by omega)
    rwa [show (nv (u ++ a :: v)).take z = nv u by unfold nv; rw [← List.map_take, ← hz, List.take_left]] at this
  have s2 : Sl w A2 N2 (nv v) := by
    have := t2 w _ hs'
    rwa [show (nv (u ++ a :: v)).drop y = nv v by
      unfold nv; rw [← List.map_drop, ← hy, ← hz, List.drop_append, List.drop_of_length_le (by omega)]; simp] at this
  have S0 := Lib.hid hs
  have S1 := Lib.hid s1
  have S2 := Lib.hid s2
  have HAU : Hid (a ∉ u) := (nd_of (head_nd h.ok hk)).au
  have HO : Hid (Ok n (L.set k (u ++ v))) := by
    have d := nd_of (head_nd h.ok hk)
    refine ok_set h.ok hk (fun x hx => h.ok.lt k _ hk x ?_) ?_ (fun x hx j t hj hne hxt => hne (h.ok.one j k t _ x hj hk hxt ?_))
    · simp only [List.mem_append, List.mem_cons] at hx ⊢; rcases hx with h | h <;> simp [h]
    · rw [List.nodup_append]; exact ⟨d.un, d.vn, fun x hx y hy e => d.uv x hx (e ▸ hy)⟩
    · simp only [List.mem_append, List.mem_cons] at hx ⊢; rcases hx with h | h <;> simp [h]
  have HK := Lib.hid hk
  have HN := Lib.hid hN
  have HZ := Lib.hid hz
  have fr : ∀ i, w.frozen? ⟨gL, i, none⟩ = false := h.row.frozen
  have hBw : Hid (B ≤ w.heap.size) := by have := h.hL; show _ ≤ _; omega
  have ek0 : (0 : Int) ≤ (k : Int) := by omega
  have ek1 : (k : Int) < (m : Int) := by omega
  clear h hk hk2 hv hs hs' s1 s2 t2 hN hz hN3 hbB c0 hy
  go_enter Try.func13, Try.ntmps13
  go_wp2_with fail
  refine (rof_in H.out a k u v HK.out).mono ?_; rintro e w' ⟨rfl, rfl⟩
  go_wp2_with fail
  refine (index_yes A c N u v a S0.out HN.out (by omega) HAU.out).mono ?_; rintro e w' ⟨rfl, rfl⟩
  rw [HZ.out]
  go_wp2_with fail
  refine gate (fun w' => w'.cell? ⟨RR, 1, none⟩ = some (.slice (some ⟨gL, 0, none⟩) m m) ∧ w'.cell? ⟨gL, k, none⟩ = some (.slice A N c)) 28 [0, 1, 2, 3, 4, 6, 7, 8, 9, 10, 11, 12, 13, 14, 16, 17, 18, 19, 20, 21, 22, 23, 24, 25] 5 (by kernel_rfl) (by kernel_rfl) (by kernel_rfl) rfl ?_ ⟨c1, hrow⟩ ?_
  · intro d v c a w h
    cases d <;> exact h
  iterate 24
    refine yields_step ?_ rfl rfl ?_ ?_
    rotate_left
    · intro w' hS; obtain ⟨hS1, hS2⟩ := hS; go_simp; rfl
  refine Gate.next (i := 5) (by kernel_rfl) rfl rfl (fun K hK => ?_)
  go_simp
  have bS : Below w.heap.size w ((w.alloc (.cells #[] 3)).drew) := ((Below.refl _ w).alloc (Nat.le_refl _) _).drew
  refine hK _ _ (fun _ => ⟨(bS.cell (p := ⟨RR, 1, none⟩) lR).trans c1, (bS.cell (p := ⟨gL, k, none⟩) lL).trans hrow⟩) ?_
  clear hK K
  refine Gate.next (i := 15) (by kernel_rfl) rfl rfl (fun K hK => ?_)
  refine wp_append_row (.tmp 26) (.tmp 35) 37 rfl it (w0 := w) rfl ((OwnV.empty w 3 w.heap.size (Nat.le_refl _)).drew) bS c rfl (S1.out.below bS) (nv_one _) (by rw [List.length_nil]; omega) ?_
  intro v3 w3 o3 b3 _
  rw [List.nil_append] at o3
  refine hK _ _ (fun _ => ⟨(b3.cell (p := ⟨RR, 1, none⟩) lR).trans c1, (b3.cell (p := ⟨gL, k, none⟩) lL).trans hrow⟩) ?_
  clear hK K
  refine Gate.next (i := 26) (by kernel_rfl) rfl rfl (fun K hK => ?_)
  refine wp_append_row (.tmp 36) (.tmp 46) 37 rfl it (w0 := w) rfl o3 b3 c2 rfl (S2.out.below b3) (nv_one _) (by rw [nv_len, HZ.out]; omega) ?_
  intro v4 w4 o4 b4 _
  rw [nv_app] at o4
  have d4 := (b4.cell (p := ⟨gL, k, none⟩) lL).trans hrow
  have f4 := (b4.frozen (p := ⟨gL, k, none⟩) lL).trans (fr k)
  refine hK _ _ (fun _ => ⟨(b4.cell (p := ⟨RR, 1, none⟩) lR).trans c1, d4⟩) ?_
  have M4 := Lib.hid (HF.out.set b4 hkm ((RowV.own o4).more hBw.out) HO.out)
  obtain ⟨N5, hN5⟩ : ∃ N5, (u ++ v).length = N5 := ⟨_, rfl⟩
  obtain ⟨A4, c4, rfl, l4, m4, s4⟩ := o4.form ((nv_len _).trans hN5)
  clear hN5 hK K bS o3 o4 l4 m4 s4
  refine Gate.next (i := 27) (by kernel_rfl) rfl rfl (fun K hK => ?_)
  go_simp
  refine hK _ _ (fun _ => ⟨(b4.cell (p := ⟨RR, 1, none⟩) lR).trans c1, d4⟩) ?_
  clear hK K
  refine Gate.next (i := 28) (by kernel_rfl) rfl rfl (fun K hK => ?_)
  go_simp
  refine hK _ _ (fun h => absurd rfl h) ?_
  clear hK K
  refine Gate.done (by kernel_rfl) ?_
  go_wp2
  go_ret
  have := M4.out
  rw [← rm_set HF.out.ok HK.out] at this
  exact ⟨rfl, this.1, this.2⟩
theorem rremove_rm (h : Ref w RR gL n m B L) (a : Nat) :
    Calls Try.prog 13 #[.pointer (some ⟨RR, 0, none⟩), .int .i64 (a : Int)] w fun e w' => ∃ b, RMoved w RR gL n m B (rm L a) (.bool b) e w' := by
  rcases where_is L a with ⟨k, u, v, hk⟩ | hno
  · exact (rremove_yes h a k u v hk).mono fun e w' hm => ⟨true, hm⟩
  · refine (rremove_no h (a : Int) (no_int hno)).mono fun e w' hm => ⟨false, ?_⟩
    rw [rm_none hno]
    exact hm
theorem rpush_no (h : Ref w RR gL n m B L) (k a : Int) (h0 : ¬ ((0 ≤ k ∧ k < (m : Int)) ∧ (0 ≤ a ∧ a < (n : Int)))) :
    Calls Try.prog 9 #[.pointer (some ⟨RR, 0, none⟩), .int .i64 k, .int .i64 a] w (RMoved w RR gL n m B L (.bool false)) := by
  have H := Lib.hid h
  have H0 := Lib.hid h0
  clear h h0
  go_enter Try.func9, Try.ntmps9
  go_wp2_with fail
  refine (may_no H.out _ _ H0.out).mono ?_; rintro e w' ⟨rfl, rfl⟩
  go_wp2
  go_ret
  exact ⟨rfl, H.out, World.grownBy.refl _ _⟩
theorem rappend_no (h : Ref w RR gL n m B L) (k a : Int) (h0 : ¬ ((0 ≤ k ∧ k < (m : Int)) ∧ (0 ≤ a ∧ a < (n : Int)))) :
    Calls Try.prog 11 #[.pointer (some ⟨RR, 0, none⟩), .int .i64 k, .int .i64 a] w (RMoved w RR gL n m B L (.bool false)) := by
  have H := Lib.hid h
  have H0 := Lib.hid h0
  clear h h0
  go_enter Try.func11, Try.ntmps11
  go_wp2_with fail
  refine (may_no H.out _ _ H0.out).mono ?_; rintro e w' ⟨rfl, rfl⟩
  go_wp2
  go_ret
  exact ⟨rfl, H.out, World.grownBy.refl _ _⟩
/-- a node that is in no row is put into one -/
theorem ok_put (hO : Ok n L) {k a : Nat} {u v : List Nat} (hk : L[k]? = some (u ++ v)) (ha : a < n) (hno : ∀ (j : Nat) (r : List Nat), L[j]? = some r → a ∉ r) : Ok n (L.set k (u ++ a :: v)) := by
  have hnd := hO.nd k _ hk
  rw [List.nodup_append] at hnd
  have hak := hno k _ hk
  rw [List.mem_append] at hak
  refine ok_set hO hk (fun x hx => ?_) ?_ (fun x hx j t hj hne hxt => ?_)
  · by_cases e : x = a
    · rw [e]; exact ha
    · refine hO.lt k _ hk x ?_
      simp only [List.mem_append, List.mem_cons, e, false_or] at hx ⊢; exact hx
  · rw [List.nodup_append, List.nodup_cons]
    refine ⟨hnd.1, ⟨fun h => hak (.inr h), hnd.2.1⟩, fun x hx y hy e => ?_⟩
    subst e
    rcases List.mem_cons.1 hy with h | h
    · exact hak (.inl (h ▸ hx))
    · exact hnd.2.2 x hx x h rfl
  · by_cases e : x = a
    · exact hno j t hj (e ▸ hxt)
    · refine hne (hO.one j k t _ x hj hk hxt ?_)
      simp only [List.mem_append, List.mem_cons, e, false_or] at hx ⊢; exact hx
theorem OwnV.lit1 (w : World) (a : Nat) : OwnV (w.alloc (.cells #[.int .i64 (a : Int)] 3)) 3 w.heap.size (.slice (some ⟨w.heap.size, 0, none⟩) 1 1) (nv [a]) :=
  World.ownsRow_lit (base := w.heap.size) (e := 3) (size := 1) w #[.int .i64 (a : Int)] 1 (Nat.le_refl _) (by decide) rfl
theorem then_grown {a b c : World} {row : Option Nat} (h : a.grownBy b row) (k : b.grownBy c row) : a.grownBy c row := grown_step h k

set_option maxHeartbeats 4000000 in
theorem rpush_yes (h : Ref w RR gL n m B L) (k a : Nat) (hkm : k < m) (ha : a < n) :
    Calls Try.prog 9 #[.pointer (some ⟨RR, 0, none⟩), .int .i64 (k : Int), .int .i64 (a : Int)] w (RMoved w RR gL n m B (push L k a) (.bool true)) := by
  have H := Lib.hid h
  clear h
  go_enter Try.func9, Try.ntmps9
  go_wp2_with fail
  refine (may_yes H.out _ _ ⟨⟨by omega, by omega⟩, by omega, by omega⟩).mono ?_; rintro e w' ⟨rfl, rfl⟩
  go_wp2_with fail
  refine (rremove_rm H.out a).mono ?_; rintro e w1 ⟨b, rfl, r1, t1⟩
  obtain ⟨vs, h⟩ := r1
  have HF := Lib.hid h
  have T1 := Lib.hid t1
  obtain ⟨c0, c1⟩ := h.cells
  obtain ⟨lR, lL⟩ := h.lt
  have hm := h.hm
  have hkl : k < (rm L a).length := by rw [h.len]; exact hkm
  obtain ⟨A, c, hv, hc, hs, _⟩ := h.rows k hkm
  have hrow := h.row.cell hkm
  rw [hv] at hrow
  have hN2 : (rowOf (rm L a) k).length ≤ 1024 := row_len h.ok h.hn hkl
  obtain ⟨N, hN⟩ : ∃ N, (rowOf (rm L a) k).length = N := ⟨_, rfl⟩
  rw [hN] at hrow hc hN2 hs
  have S1 := Lib.hid hs
  have HO : Hid (Ok n ((rm L a).set k (a :: rowOf (rm L a) k))) := ok_put (u := []) h.ok (rowOf_at hkl) ha rm_not
  have fr : ∀ i, w1.frozen? ⟨gL, i, none⟩ = false := h.row.frozen
  have hBw : Hid (B ≤ w1.heap.size) := by have := h.hL; show _ ≤ _; omega
  have ek0 : (0 : Int) ≤ (k : Int) := by omega
  have ek1 : (k : Int) < (m : Int) := by omega
  clear h t1 hv hs c0 hN
  go_wp2_with fail
  refine gate (fun w' => w'.cell? ⟨RR, 1, none⟩ = some (.slice (some ⟨gL, 0, none⟩) m m) ∧ w'.cell? ⟨gL, k, none⟩ = some (.slice A N c)) 16 [0, 1, 2, 3, 4, 5, 7, 8, 9, 10, 11, 12, 13] 4 (by kernel_rfl) (by kernel_rfl) (by kernel_rfl) rfl ?_ ⟨c1, hrow⟩ ?_
  · intro d v c a w h
    cases d <;> exact h
  iterate 13
    refine yields_step ?_ rfl rfl ?_ ?_
    rotate_left
    · intro w' hS; obtain ⟨hS1, hS2⟩ := hS; go_simp; rfl
  refine Gate.next (i := 6) (by kernel_rfl) rfl rfl (fun K hK => ?_)
  go_simp
  have bS : Below w1.heap.size w1 ((w1.alloc (.cells #[.int .i64 (a : Int)] 3)).drew) := ((Below.refl _ w1).alloc (Nat.le_refl _) _).drew
  refine hK _ _ (fun _ => ⟨(bS.cell (p := ⟨RR, 1, none⟩) lR).trans c1, (bS.cell (p := ⟨gL, k, none⟩) lL).trans hrow⟩) ?_
  clear hK K
  refine Gate.next (i := 14) (by kernel_rfl) rfl rfl (fun K hK => ?_)
  refine wp_append_row (.tmp 21) (.tmp 28) 37 rfl it (w0 := w1) rfl ((OwnV.lit1 w1 a).drew) bS c rfl (S1.out.below bS) (nv_one _) (by rw [nv_len, List.length_singleton]; omega) ?_
  intro v4 w4 o4 b4 _
  rw [nv_app, List.singleton_append] at o4
  have d4 := (b4.cell (p := ⟨gL, k, none⟩) lL).trans hrow
  have f4 := (b4.frozen (p := ⟨gL, k, none⟩) lL).trans (fr k)
  refine hK _ _ (fun _ => ⟨(b4.cell (p := ⟨RR, 1, none⟩) lR).trans c1, d4⟩) ?_
  have M4 := Lib.hid (HF.out.set b4 hkm ((RowV.own o4).more hBw.out) HO.out)
  obtain ⟨N5, hN5⟩ : ∃ N5, (a :: rowOf (rm L a) k).length = N5 := ⟨_, rfl⟩
  obtain ⟨A4, c4, rfl, l4, m4, s4⟩ := o4.form ((nv_len _).trans hN5)
  clear hN5 hK K bS o4 l4 m4 s4
  refine Gate.next (i := 15) (by kernel_rfl) rfl rfl (fun K hK => ?_)
  go_simp
  refine hK _ _ (fun _ => ⟨(b4.cell (p := ⟨RR, 1, none⟩) lR).trans c1, d4⟩) ?_
  clear hK K
  refine Gate.next (i := 16) (by kernel_rfl) rfl rfl (fun K hK => ?_)
  go_simp
  refine hK _ _ (fun h => absurd rfl h) ?_
  clear hK K
  refine Gate.done (by kernel_rfl) ?_
  go_wp2
  go_ret
  exact ⟨rfl, M4.out.1, then_grown T1.out M4.out.2⟩
end
end Go.Proofs.Ytngfhcapjonkcaa.W
