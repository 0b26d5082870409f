/-
  The walk of the statement on Of, Free and Matches. No conditions.
-/
import Derived.Test.YtheflapmjopemaaDoorHdGets
import Derived.Test.YtheflapmjopemaaDoorGateAll
namespace Go.Proofs.YtheflapmjopemaaDoor.W.Hd
open Go.RowKit Oc Gt
set_option linter.unusedVariables false

/-- octets with turned bits have another sum -/
theorem turned_sum (ys : List UInt8) (at_ T : Nat) (h : sum (turned ys at_ T 32) = sum ys) : turned ys at_ T 32 = ys := by
  obtain ⟨U, hU, e⟩ := turned_num ys at_ T 32
  exact (burst_sum (turned_length ys at_ T 32) at_ U hU e h.symm).symm

set_option maxRecDepth 100000 in
set_option maxHeartbeats 16000000 in
theorem matches_walk (A : Option Addr) (n c m at_ T : Nat) (ys zs : List UInt8) (l g r : Int) (hu : Bool) (hl hg hs hr o E1 E2 E3 : Int) (z zz : Nat) (pq : Bool) (w : World) (hm : m = min n 70) (hc : n ≤ c) (ho : Oct w A m ys) (he : EnvH w) (hat : at_ < 65536) (hT : T < 4294967296)
    (hz : turned ys at_ T 32 = zs) (h1 : sum ys = z) (h2 : sum zs = zz) (hE1 : MWay hu hl hs o z E1) (hE2 : MWay true l z o z E2) (hE3 : MWay true l z l zz E3) (h3 : (E3 == 0) = pq) (h4 : ((bstr zs).toList == (bstr ys).toList) = pq) :
    Calls Tryd.prog 5 #[.int .i64 l, .int .u64 g, .slice A n c, .int .u32 r, .agg #[.bool hu, .int .i64 hl, .int .u64 hg, .int .u32 hs, .int .u32 hr], .int .i64 o, .int .u16 (at_ : Int), .int .u32 (T : Int)] w fun e w' => e = .returned (.bool true) ∧ Below w.heap.size w w' := by
  have HE := Lib.hid he
  have HM := Lib.hid hm
  have hm7 : m ≤ 70 := by omega
  have hmc : m ≤ c := by omega
  have HO := Lib.hid ho
  have HZ := Lib.hid hz
  have H1 := Lib.hid h1
  have H2 := Lib.hid h2
  have W1 := Lib.hid hE1
  have W2 := Lib.hid hE2
  have W3 := Lib.hid hE3
  have W0 : Hid (MWay true l z l z 0) := .inr (.inr (.inr ⟨rfl, rfl, rfl, rfl⟩))
  have HLz : Hid (zs.length = m) := by show _ = _; rw [← hz, turned_length]; exact ho.len
  have hwr : IntKind.i64.wrap (at_ : Int) = (at_ : Int) := wrap_le (by omega)
  have H3 := Lib.hid h3
  have H4 := Lib.hid h4
  obtain ⟨y0, hy0⟩ : ∃ y, y = w.alloc (.cells #[.bool hu, .int .i64 hl, .int .u64 hg, .int .u32 hs, .int .u32 hr] 25) := ⟨_, rfl⟩
  have HH : Hid (y0.heap[w.heap.size]? = some (.cells #[.bool hu, .int .i64 hl, .int .u64 hg, .int .u32 hs, .int .u32 hr] 25 (0, 0))) := by show _ = _; rw [hy0]; exact heap_alloc_new w _
  have BB : Hid (Below w.heap.size w y0) := by show Below _ _ _; rw [hy0]; exact balloc _ _
  have OO : Hid (Oct y0 A m ys) := by show Oct _ _ _ _; rw [hy0]; exact HO.out.alloc _
  have HY0 := Lib.hid hy0
  clear he hm ho hz h1 h2 hE1 hE2 hE3 h3 h4 hy0
  go_enter Tryd.func5, Tryd.ntmps5
  go_wp2_with fail
  rw [← HY0.out]
  clear HY0
  refine (few_any _ _ _ m _ HM.out hc).mono ?_; rintro e w' ⟨rfl, rfl⟩
  go_wp2_with fail
  refine (of_any _ _ _ ys l g r z _ (by omega) OO.out (HE.out.below BB.out).1 H1.out).mono ?_; rintro e y1 ⟨rfl, b⟩
  obtain ⟨X, hX⟩ : ∃ X, X = y1.heap.size := ⟨_, rfl⟩
  obtain ⟨y2, hy2⟩ : ∃ y, y = y1.alloc (.cells #[.bool true, .int .i64 l, .int .u64 g, .int .u32 (z : Int), .int .u32 r] 25) := ⟨_, rfl⟩
  have XX : Hid (y2.heap[X]? = some (.cells #[.bool true, .int .i64 l, .int .u64 g, .int .u32 (z : Int), .int .u32 r] 25 (0, 0))) := by show _ = _; rw [hy2, hX]; exact heap_alloc_new y1 _
  have HH : Hid (y2.heap[w.heap.size]? = some (.cells #[.bool hu, .int .i64 hl, .int .u64 hg, .int .u32 hs, .int .u32 hr] 25 (0, 0))) := by show _ = _; rw [hy2]; exact kept_below (kept_below HH.out b) (balloc _ _)
  have OO : Hid (Oct y2 A m ys) := by show Oct _ _ _ _; rw [hy2]; exact (OO.out.below b).alloc _
  have BB : Hid (Below w.heap.size w y2) := by show Below _ _ _; rw [hy2]; exact bthen (bthen BB.out b) (balloc _ _)
  have HY2 := Lib.hid hy2
  have HX := Lib.hid hX
  clear hX hy2 b
  go_upto_region 3 with fail
  rw [← HY2.out, ← HX.out]
  clear HY2 HX
  obtain ⟨y3, hy3⟩ : ∃ y, y = y2.drew := ⟨_, rfl⟩
  have XX : Hid (y3.heap[X]? = some (.cells #[.bool true, .int .i64 l, .int .u64 g, .int .u32 (z : Int), .int .u32 r] 25 (0, 0))) := by show _ = _; rw [hy3]; exact XX.out
  have HH : Hid (y3.heap[w.heap.size]? = some (.cells #[.bool hu, .int .i64 hl, .int .u64 hg, .int .u32 hs, .int .u32 hr] 25 (0, 0))) := by show _ = _; rw [hy3]; exact HH.out
  have OO : Hid (Oct y3 A m ys) := by show Oct _ _ _ _; rw [hy3]; exact OO.out
  have BB : Hid (Below w.heap.size w y3) := by show Below _ _ _; rw [hy3]; exact below_drew1 BB.out
  go_wp2_with fail
  refine gateAll (fun x => x.heap[X]? = some (.cells #[.bool true, .int .i64 l, .int .u64 g, .int .u32 (z : Int), .int .u32 r] 25 (0, 0)) ∧ x.heap[w.heap.size]? = some (.cells #[.bool hu, .int .i64 hl, .int .u64 hg, .int .u32 hs, .int .u32 hr] 25 (0, 0))) 50 [0, 1, 2, 3, 4] 13 rfl (by kernel_rfl) (by kernel_rfl) (by kernel_rfl) rfl ?_ (hy3 ▸ ⟨XX.out, HH.out⟩) ?_
  · intro d v c a w h
    cases d <;> exact h
  rw [← hy3]
  clear hy3
  refine yields_step (.agg #[.bool true, .int .i64 l, .int .u64 g, .int .u32 (z : Int), .int .u32 r]) rfl rfl ?_ ?_
  · intro x hS; exact exec_ld rfl (by go_simp) (run_load5 rfl hS.1)
  refine yields_step ?_ rfl rfl ?_ ?_
  rotate_left
  · intro x hS; go_simp; rfl
  refine yields_step ?_ rfl rfl ?_ ?_
  rotate_left
  · intro x hS; go_simp; rfl
  refine yields_step ?_ rfl rfl ?_ ?_
  rotate_left
  · intro x hS; go_simp; rfl
  refine yields_step ?_ rfl rfl ?_ ?_
  rotate_left
  · intro x hS; go_simp; rfl
  refine Gate.next (i := 5) (by kernel_rfl) rfl rfl (fun K hK => ?_)
  go_simp
  refine (rof_any _ _ _ ys l g r z _ (by omega) OO.out H1.out).mono ?_; rintro e y4 ⟨rfl, b⟩
  have XX := Lib.hid (kept_below XX.out b)
  have HH := Lib.hid (kept_below HH.out b)
  have OO := Lib.hid (OO.out.below b)
  have BB : Hid (Below w.heap.size w y4) := bthen BB.out b
  clear b
  refine hK _ _ (fun _ => ⟨XX.out, HH.out⟩) ?_
  clear hK K
  refine Gate.takesAll (P := Tryd.prog) (S := fun x => x.heap[X]? = some (.cells #[.bool true, .int .i64 l, .int .u64 g, .int .u32 (z : Int), .int .u32 r] 25 (0, 0)) ∧ x.heap[w.heap.size]? = some (.cells #[.bool hu, .int .i64 hl, .int .u64 hg, .int .u32 hs, .int .u32 hr] 25 (0, 0))) (t := 50) (by kernel_rfl) rfl (fun d v c a w h => (by cases d <;> exact h)) ⟨XX.out, HH.out⟩ [6, 7, 8, 10, 11] 7 _ _ (by kernel_rfl) ?_
  refine yields_step (.bool false) rfl rfl ?_ ?_
  · intro x hS; go_simp
  refine yields_step ?_ rfl rfl ?_ ?_
  rotate_left
  · intro x hS; go_simp; rfl
  refine yields_on ?_ rfl (by kernel_rfl) ?_ ?_
  rotate_left
  · intro x hS; go_simp; rfl
  refine yields_on ?_ rfl (by kernel_rfl) ?_ ?_
  rotate_left
  · intro x hS; go_simp; rfl
  refine yields_on (.agg #[.bool false, .int .i64 0, .int .u64 0, .int .u32 0, .int .u32 r]) rfl (by kernel_rfl) ?_ ?_
  · intro x hS; go_simp
  refine gate_on (i := 9) (by kernel_rfl) rfl (by kernel_rfl) (fun K hK => ?_)
  go_simp
  refine (free_any r _).mono ?_; rintro e y5 ⟨rfl, b⟩
  have XX := Lib.hid (kept_below XX.out b)
  have HH := Lib.hid (kept_below HH.out b)
  have OO := Lib.hid (OO.out.below b)
  have BB : Hid (Below w.heap.size w y5) := bthen BB.out b
  clear b
  refine hK _ _ (fun _ => ⟨XX.out, HH.out⟩) ?_
  clear hK K
  refine Gate.takesAll (P := Tryd.prog) (S := fun x => x.heap[X]? = some (.cells #[.bool true, .int .i64 l, .int .u64 g, .int .u32 (z : Int), .int .u32 r] 25 (0, 0)) ∧ x.heap[w.heap.size]? = some (.cells #[.bool hu, .int .i64 hl, .int .u64 hg, .int .u32 hs, .int .u32 hr] 25 (0, 0))) (t := 50) (by kernel_rfl) rfl (fun d v c a w h => (by cases d <;> exact h)) ⟨XX.out, HH.out⟩ [12, 13, 14] 3 _ _ (by kernel_rfl) ?_
  refine yields_on (.bool false) rfl (by kernel_rfl) ?_ ?_
  · intro x hS; go_simp
  refine yields_step (.bool false) rfl rfl ?_ ?_
  · intro x hS; go_simp
  refine yields_step ?_ rfl rfl ?_ ?_
  rotate_left
  · intro x hS; go_simp; rfl
  refine gate_on (i := 15) (by kernel_rfl) rfl (by kernel_rfl) (fun K hK => ?_)
  go_simp
  refine (awake_any _ (HE.out.below BB.out)).mono ?_; rintro e y6 ⟨rfl, b⟩
  have XX := Lib.hid (kept_below XX.out b)
  have HH := Lib.hid (kept_below HH.out b)
  have OO := Lib.hid (OO.out.below b)
  have BB : Hid (Below w.heap.size w y6) := bthen BB.out b
  clear b
  refine hK _ _ (fun _ => ⟨XX.out, HH.out⟩) ?_
  clear hK K
  refine Gate.takesAll (P := Tryd.prog) (S := fun x => x.heap[X]? = some (.cells #[.bool true, .int .i64 l, .int .u64 g, .int .u32 (z : Int), .int .u32 r] 25 (0, 0)) ∧ x.heap[w.heap.size]? = some (.cells #[.bool hu, .int .i64 hl, .int .u64 hg, .int .u32 hs, .int .u32 hr] 25 (0, 0))) (t := 50) (by kernel_rfl) rfl (fun d v c a w h => (by cases d <;> exact h)) ⟨XX.out, HH.out⟩ [16, 17] 0 _ _ (by kernel_rfl) ?_
  refine yields_on (.bool false) rfl (by kernel_rfl) ?_ ?_
  · intro x hS; go_simp
  refine yields_step (.bool false) rfl rfl ?_ ?_
  · intro x hS; go_simp
  refine Gate.done (by kernel_rfl) ?_
  go_upto_region 5 with fail
  obtain ⟨y7, hy7⟩ : ∃ y, y = y6.drew := ⟨_, rfl⟩
  have XX : Hid (y7.heap[X]? = some (.cells #[.bool true, .int .i64 l, .int .u64 g, .int .u32 (z : Int), .int .u32 r] 25 (0, 0))) := by show _ = _; rw [hy7]; exact XX.out
  have HH : Hid (y7.heap[w.heap.size]? = some (.cells #[.bool hu, .int .i64 hl, .int .u64 hg, .int .u32 hs, .int .u32 hr] 25 (0, 0))) := by show _ = _; rw [hy7]; exact HH.out
  have OO : Hid (Oct y7 A m ys) := by show Oct _ _ _ _; rw [hy7]; exact OO.out
  have BB : Hid (Below w.heap.size w y7) := by show Below _ _ _; rw [hy7]; exact below_drew1 BB.out
  go_wp2_with fail
  refine gateAll (fun x => x.heap[X]? = some (.cells #[.bool true, .int .i64 l, .int .u64 g, .int .u32 (z : Int), .int .u32 r] 25 (0, 0)) ∧ x.heap[w.heap.size]? = some (.cells #[.bool hu, .int .i64 hl, .int .u64 hg, .int .u32 hs, .int .u32 hr] 25 (0, 0))) 50 [0, 1, 2] 24 rfl (by kernel_rfl) (by kernel_rfl) (by kernel_rfl) rfl ?_ (hy7 ▸ ⟨XX.out, HH.out⟩) ?_
  · intro d v c a w h
    cases d <;> exact h
  rw [← hy7]
  clear hy7
  refine yields_step (.agg #[.bool true, .int .i64 l, .int .u64 g, .int .u32 (z : Int), .int .u32 r]) rfl rfl ?_ ?_
  · intro x hS; exact exec_ld rfl (by go_simp) (run_load5 rfl hS.1)
  refine yields_step ?_ rfl rfl ?_ ?_
  rotate_left
  · intro x hS; go_simp; rfl
  refine yields_step ?_ rfl rfl ?_ ?_
  rotate_left
  · intro x hS; go_simp; rfl
  refine Gate.next (i := 3) (by kernel_rfl) rfl rfl (fun K hK => ?_)
  go_simp
  refine (matches_any _ _ _ ys true l g z r l 0 z _ (by omega) OO.out (HE.out.below BB.out).1 H1.out W0.out).mono ?_; rintro e y8 ⟨rfl, b⟩
  have XX := Lib.hid (kept_below XX.out b)
  have HH := Lib.hid (kept_below HH.out b)
  have OO := Lib.hid (OO.out.below b)
  have BB : Hid (Below w.heap.size w y8) := bthen BB.out b
  clear b
  refine hK _ _ (fun _ => ⟨XX.out, HH.out⟩) ?_
  clear hK K
  refine Gate.takesAll (P := Tryd.prog) (S := fun x => x.heap[X]? = some (.cells #[.bool true, .int .i64 l, .int .u64 g, .int .u32 (z : Int), .int .u32 r] 25 (0, 0)) ∧ x.heap[w.heap.size]? = some (.cells #[.bool hu, .int .i64 hl, .int .u64 hg, .int .u32 hs, .int .u32 hr] 25 (0, 0))) (t := 50) (by kernel_rfl) rfl (fun d v c a w h => (by cases d <;> exact h)) ⟨XX.out, HH.out⟩ [4, 5, 6, 7, 8, 10, 11, 12] 15 _ _ (by kernel_rfl) ?_
  refine yields_step (.bool false) rfl rfl ?_ ?_
  · intro x hS; go_simp
  refine yields_step ?_ rfl rfl ?_ ?_
  rotate_left
  · intro x hS; go_simp; rfl
  refine yields_on (.agg #[.bool hu, .int .i64 hl, .int .u64 hg, .int .u32 hs, .int .u32 hr]) rfl (by kernel_rfl) ?_ ?_
  · intro x hS; exact exec_ld rfl (by go_simp) (run_load5 rfl hS.2)
  refine yields_on ?_ rfl (by kernel_rfl) ?_ ?_
  rotate_left
  · intro x hS; go_simp; rfl
  refine yields_on ?_ rfl (by kernel_rfl) ?_ ?_
  rotate_left
  · intro x hS; go_simp; rfl
  refine yields_on (.agg #[.bool hu, .int .i64 hl, .int .u64 hg, .int .u32 hs, .int .u32 hr]) rfl (by kernel_rfl) ?_ ?_
  · intro x hS; exact exec_ld rfl (by go_simp) (run_load5 rfl hS.2)
  refine yields_on ?_ rfl (by kernel_rfl) ?_ ?_
  rotate_left
  · intro x hS; go_simp; rfl
  refine yields_on ?_ rfl (by kernel_rfl) ?_ ?_
  rotate_left
  · intro x hS; go_simp; rfl
  refine gate_on (i := 9) (by kernel_rfl) rfl (by kernel_rfl) (fun K hK => ?_)
  go_simp
  refine (matches_any _ _ _ ys hu hl hg hs hr o E1 z _ (by omega) OO.out (HE.out.below BB.out).1 H1.out W1.out).mono ?_; rintro e y9 ⟨rfl, b⟩
  have XX := Lib.hid (kept_below XX.out b)
  have HH := Lib.hid (kept_below HH.out b)
  have OO := Lib.hid (OO.out.below b)
  have BB : Hid (Below w.heap.size w y9) := bthen BB.out b
  clear b
  refine hK _ _ (fun _ => ⟨XX.out, HH.out⟩) ?_
  clear hK K
  refine gate_on (i := 13) (by kernel_rfl) rfl (by kernel_rfl) (fun K hK => ?_)
  go_simp
  refine (rmatches_any _ _ _ ys hu hl hg hs hr o E1 z _ (by omega) OO.out H1.out W1.out).mono ?_; rintro e y10 ⟨rfl, b⟩
  have XX := Lib.hid (kept_below XX.out b)
  have HH := Lib.hid (kept_below HH.out b)
  have OO := Lib.hid (OO.out.below b)
  have BB : Hid (Below w.heap.size w y10) := bthen BB.out b
  clear b
  refine hK _ _ (fun _ => ⟨XX.out, HH.out⟩) ?_
  clear hK K
  refine Gate.takesAll (P := Tryd.prog) (S := fun x => x.heap[X]? = some (.cells #[.bool true, .int .i64 l, .int .u64 g, .int .u32 (z : Int), .int .u32 r] 25 (0, 0)) ∧ x.heap[w.heap.size]? = some (.cells #[.bool hu, .int .i64 hl, .int .u64 hg, .int .u32 hs, .int .u32 hr] 25 (0, 0))) (t := 50) (by kernel_rfl) rfl (fun d v c a w h => (by cases d <;> exact h)) ⟨XX.out, HH.out⟩ [14, 15, 16, 17, 18, 19, 21, 22, 23] 4 _ _ (by kernel_rfl) ?_
  refine yields_on (.bool false) rfl (by kernel_rfl) ?_ ?_
  · intro x hS; go_simp
  refine yields_step (.bool false) rfl rfl ?_ ?_
  · intro x hS; go_simp
  refine yields_step ?_ rfl rfl ?_ ?_
  rotate_left
  · intro x hS; go_simp; rfl
  refine yields_on (.agg #[.bool true, .int .i64 l, .int .u64 g, .int .u32 (z : Int), .int .u32 r]) rfl (by kernel_rfl) ?_ ?_
  · intro x hS; exact exec_ld rfl (by go_simp) (run_load5 rfl hS.1)
  refine yields_on ?_ rfl (by kernel_rfl) ?_ ?_
  rotate_left
  · intro x hS; go_simp; rfl
  refine yields_on ?_ rfl (by kernel_rfl) ?_ ?_
  rotate_left
  · intro x hS; go_simp; rfl
  refine yields_on (.agg #[.bool true, .int .i64 l, .int .u64 g, .int .u32 (z : Int), .int .u32 r]) rfl (by kernel_rfl) ?_ ?_
  · intro x hS; exact exec_ld rfl (by go_simp) (run_load5 rfl hS.1)
  refine yields_on ?_ rfl (by kernel_rfl) ?_ ?_
  rotate_left
  · intro x hS; go_simp; rfl
  refine yields_on ?_ rfl (by kernel_rfl) ?_ ?_
  rotate_left
  · intro x hS; go_simp; rfl
  refine gate_on (i := 20) (by kernel_rfl) rfl (by kernel_rfl) (fun K hK => ?_)
  go_simp
  refine (matches_any _ _ _ ys true l g z r o E2 z _ (by omega) OO.out (HE.out.below BB.out).1 H1.out W2.out).mono ?_; rintro e y11 ⟨rfl, b⟩
  have XX := Lib.hid (kept_below XX.out b)
  have HH := Lib.hid (kept_below HH.out b)
  have OO := Lib.hid (OO.out.below b)
  have BB : Hid (Below w.heap.size w y11) := bthen BB.out b
  clear b
  refine hK _ _ (fun _ => ⟨XX.out, HH.out⟩) ?_
  clear hK K
  refine gate_on (i := 24) (by kernel_rfl) rfl (by kernel_rfl) (fun K hK => ?_)
  go_simp
  refine (rmatches_any _ _ _ ys true l g z r o E2 z _ (by omega) OO.out H1.out W2.out).mono ?_; rintro e y12 ⟨rfl, b⟩
  have XX := Lib.hid (kept_below XX.out b)
  have HH := Lib.hid (kept_below HH.out b)
  have OO := Lib.hid (OO.out.below b)
  have BB : Hid (Below w.heap.size w y12) := bthen BB.out b
  clear b
  refine hK _ _ (fun _ => ⟨XX.out, HH.out⟩) ?_
  clear hK K
  refine Gate.takesAll (P := Tryd.prog) (S := fun x => x.heap[X]? = some (.cells #[.bool true, .int .i64 l, .int .u64 g, .int .u32 (z : Int), .int .u32 r] 25 (0, 0)) ∧ x.heap[w.heap.size]? = some (.cells #[.bool hu, .int .i64 hl, .int .u64 hg, .int .u32 hs, .int .u32 hr] 25 (0, 0))) (t := 50) (by kernel_rfl) rfl (fun d v c a w h => (by cases d <;> exact h)) ⟨XX.out, HH.out⟩ [25, 26] 0 _ _ (by kernel_rfl) ?_
  refine yields_on (.bool false) rfl (by kernel_rfl) ?_ ?_
  · intro x hS; go_simp
  refine yields_step (.bool false) rfl rfl ?_ ?_
  · intro x hS; go_simp
  refine Gate.done (by kernel_rfl) ?_
  go_wp2_with fail
  refine (rturn_any _ m _ ys (at_ : Int) T _ (by omega) OO.out hT).mono ?_; rintro e y13 ⟨v13, rfl, o13, b⟩
  rw [HZ.out] at o13
  obtain ⟨A13, c13, rfl, l13, s13⟩ := o13.form HLz.out
  have XX := Lib.hid (kept_below XX.out b)
  have OO := Lib.hid (OO.out.below b)
  have BB : Hid (Below w.heap.size w y13) := bthen BB.out b
  have DD := Lib.hid s13
  clear b o13 s13
  go_upto_region 8 with fail
  obtain ⟨y14, hy14⟩ : ∃ y, y = y13.drew := ⟨_, rfl⟩
  have XX : Hid (y14.heap[X]? = some (.cells #[.bool true, .int .i64 l, .int .u64 g, .int .u32 (z : Int), .int .u32 r] 25 (0, 0))) := by show _ = _; rw [hy14]; exact XX.out
  have OO : Hid (Oct y14 A m ys) := by show Oct _ _ _ _; rw [hy14]; exact OO.out
  have DD : Hid (Oct y14 A13 m zs) := by show Oct _ _ _ _; rw [hy14]; exact DD.out
  have BB : Hid (Below w.heap.size w y14) := by show Below _ _ _; rw [hy14]; exact below_drew1 BB.out
  go_wp2_with fail
  refine gateAll (fun x => x.heap[X]? = some (.cells #[.bool true, .int .i64 l, .int .u64 g, .int .u32 (z : Int), .int .u32 r] 25 (0, 0)) ∧ Oct x A m ys ∧ Oct x A13 m zs) 50 [0, 1, 2, 5, 6, 7, 8, 9] 4 rfl (by kernel_rfl) (by kernel_rfl) (by kernel_rfl) rfl ?_ (hy14 ▸ ⟨XX.out, OO.out, DD.out⟩) ?_
  · intro d v c a w h
    cases d <;> exact h
  rw [← hy14]
  clear hy14
  refine yields_step (.agg #[.bool true, .int .i64 l, .int .u64 g, .int .u32 (z : Int), .int .u32 r]) rfl rfl ?_ ?_
  · intro x hS; exact exec_ld rfl (by go_simp) (run_load5 rfl hS.1)
  refine yields_step ?_ rfl rfl ?_ ?_
  rotate_left
  · intro x hS; go_simp; rfl
  refine yields_step ?_ rfl rfl ?_ ?_
  rotate_left
  · intro x hS; go_simp; rfl
  refine yields_step ?_ rfl rfl ?_ ?_
  rotate_left
  · intro x hS; go_simp; rfl
  refine yields_step (.string (bstr zs)) rfl rfl ?_ ?_
  · intro x hS; have cv := hS.2.2.conv bt Tryd.underlying9 c13; go_simp
  refine yields_step ?_ rfl rfl ?_ ?_
  rotate_left
  · intro x hS; go_simp; rfl
  refine yields_step (.string (bstr ys)) rfl rfl ?_ ?_
  · intro x hS; have cv := hS.2.1.conv bt Tryd.underlying9 c; go_simp
  refine yields_step (.bool pq) rfl rfl ?_ ?_
  · intro x hS; have h4 := H4.out; go_simp
  refine Gate.next (i := 3) (by kernel_rfl) rfl rfl (fun K hK => ?_)
  go_simp
  refine (matches_any _ _ _ zs true l g z r l E3 zz _ (by omega) DD.out (HE.out.below BB.out).1 H2.out W3.out).mono ?_; rintro e y15 ⟨rfl, b⟩
  have XX := Lib.hid (kept_below XX.out b)
  have OO := Lib.hid (OO.out.below b)
  have DD := Lib.hid (DD.out.below b)
  have BB : Hid (Below w.heap.size w y15) := bthen BB.out b
  clear b
  refine hK _ _ (fun _ => ⟨XX.out, OO.out, DD.out⟩) ?_
  clear hK K
  refine Gate.takesAll (P := Tryd.prog) (S := fun x => x.heap[X]? = some (.cells #[.bool true, .int .i64 l, .int .u64 g, .int .u32 (z : Int), .int .u32 r] 25 (0, 0)) ∧ Oct x A m ys ∧ Oct x A13 m zs) (t := 50) (by kernel_rfl) rfl (fun d v c a w h => (by cases d <;> exact h)) ⟨XX.out, OO.out, DD.out⟩ [4, 10, 11] 0 _ _ (by kernel_rfl) ?_
  refine yields_step (.bool pq) rfl rfl ?_ ?_
  · intro x hS; have h3 := H3.out; go_simp
  refine yields_step (.bool true) rfl rfl ?_ ?_
  · intro x hS; go_simp
  refine yields_step ?_ rfl rfl ?_ ?_
  rotate_left
  · intro x hS; go_simp; rfl
  refine Gate.done (by kernel_rfl) ?_
  go_wp2
  go_ret
  exact ⟨rfl, BB.out⟩

theorem matches_law0 (w : World) (l g r : Int) (A : Option Addr) (n c : Nat) (xs : List UInt8) (hc : n ≤ c) (ho : Oct w A n xs) (p : Hd) (o : Int) (at_ T : Nat) (hat : at_ < 65536) (hT : T < 4294967296) (he : EnvH w) :
    Calls Tryd.prog 5 #[.int .i64 l, .int .u64 g, .slice A n c, .int .u32 r, (.agg #[.bool p.u, .int .i64 p.l, .int .u64 (p.g : Int), .int .u32 (p.s.toNat : Int), .int .u32 (p.r.toNat : Int)]), .int .i64 o, .int .u16 (at_ : Int), .int .u32 (T : Int)] w fun e w' => e = .returned (.bool true) ∧ Below w.heap.size w w' := by
  obtain ⟨m, ys, hm1, _, _, hy⟩ := first70 ho
  obtain ⟨E1, h1⟩ := mway_some p.u p.l p.s.toNat o (sum ys)
  obtain ⟨E2, h2⟩ := mway_some true l (sum ys : Nat) o (sum ys)
  by_cases hq : turned ys at_ T 32 = ys
  · exact matches_walk A n c m at_ T ys ys l g r p.u p.l p.g p.s.toNat p.r.toNat o E1 E2 0 (sum ys) (sum ys) true w hm1 hc hy he hat hT hq rfl rfl h1 h2 (.inr (.inr (.inr ⟨rfl, rfl, rfl, rfl⟩))) rfl (bstr_eq ys ys true (by simp))
  · refine matches_walk A n c m at_ T ys (turned ys at_ T 32) l g r p.u p.l p.g p.s.toNat p.r.toNat o E1 E2 40 (sum ys) (sum (turned ys at_ T 32)) false w hm1 hc hy he hat hT rfl rfl rfl h1 h2 (.inr (.inr (.inl ⟨rfl, rfl, ?_, rfl⟩))) rfl (bstr_eq _ ys false (by simp [hq]))
    intro h
    exact hq (turned_sum ys at_ T (by omega))
theorem matches_law (w : World) (l : Int) (hl : (Lit.int .i64 l).wf = true) (g : Int) (hg : (Lit.int .u64 g).wf = true) (A : Option Addr) (n c : Nat) (xs : List UInt8) (hc : n ≤ c) (hm : c ≤ maxLen) (ho : Oct w A n xs) (r : Int) (hr : (Lit.int .u32 r).wf = true) (p : Hd) (o : Int) (hoo : (Lit.int .i64 o).wf = true) (a : Int) (ha : (Lit.int .u16 a).wf = true) (t : Int) (ht : (Lit.int .u32 t).wf = true) (he : EnvH w) :
    Calls Tryd.prog 5 #[.int .i64 l, .int .u64 g, .slice A n c, .int .u32 r, (.agg #[.bool p.u, .int .i64 p.l, .int .u64 (p.g : Int), .int .u32 (p.s.toNat : Int), .int .u32 (p.r.toNat : Int)]), .int .i64 o, .int .u16 a, .int .u32 t] w fun e w' => e = .returned (.bool true) ∧ Below w.heap.size w w' := by
  obtain ⟨M, rfl⟩ : ∃ N : Nat, a = (N : Int) := ⟨a.toNat, by
    simp [Lit.wf, IntKind.min, IntKind.max, IntKind.signed, IntKind.bits] at ha
    omega⟩
  obtain ⟨N, rfl⟩ : ∃ N : Nat, t = (N : Int) := ⟨t.toNat, by
    simp [Lit.wf, IntKind.min, IntKind.max, IntKind.signed, IntKind.bits] at ht
    omega⟩
  simp [Lit.wf, IntKind.min, IntKind.max, IntKind.signed, IntKind.bits] at ha ht
  exact matches_law0 w l g r A n c xs hc ho p o M N (by omega) (by omega) he
end Go.Proofs.YtheflapmjopemaaDoor.W.Hd
