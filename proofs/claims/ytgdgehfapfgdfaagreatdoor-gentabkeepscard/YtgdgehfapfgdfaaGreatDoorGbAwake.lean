/-
  The page's example. No conditions.
-/
import Derived.Test.YtgdgehfapfgdfaaGreatDoorGbBegin
import Derived.Test.YtgdgehfapfgdfaaGreatDoorGbPairAsk
namespace Go.Proofs.YtgdgehfapfgdfaaGreatDoor.Tb
open Go.RowKit Oc Dm W Dw Sr
set_option linter.unusedVariables false
set_option maxRecDepth 100000
attribute [local go_sem ↓] Go.wp_at_zero Go.wp_at_succ

theorem like_one {j : Nat} {q : Gp} (h : Like (fresh j) q) : q.v = 1 ∧ ∀ k, k < 6 → q.g k = 1 := ⟨h.2.1.symm, fun k hk => (h.2.2 k hk).symm⟩
theorem gen_next {ls : List Int} {L : List Gp} {e : Nat} {q : Gp} (hq : L[e / 6]? = some q) : gen (nexts ls L) e = q.g (e % 6) + add1 ls e := by
  unfold gen
  rw [List.getD_eq_getElem?_getD, nexts_at, hq, Option.map_some, Option.getD_some]
  by_cases h : hit ls (e / 6) = true
  · rw [if_pos h]
    show q.g (e % 6) + add1 ls (6 * (e / 6) + e % 6) = _
    rw [show 6 * (e / 6) + e % 6 = e by omega]
  · rw [if_neg h]
    have : named ls e = false := by
      rw [Bool.eq_false_iff]
      intro hn
      exact h (hit_iff.2 ⟨e % 6, by omega, by rw [show 6 * (e / 6) + e % 6 = e by omega]; exact named_iff.1 hn⟩)
    unfold add1
    rw [if_neg (by rw [this]; decide)]
    rfl
theorem awake_bmp {p : Pn.Pl} {m : Vs} {L : List Gp} (h : Begun 59 8 2 60 64 p m L) : ∃ m', bmp 60 8 [0, 7, 0] m L = (0, nexts [0, 7, 0] L, m') ∧ m'.s.done = 6 ∧ Pages (nexts [0, 7, 0] L) 2 ∧ gen (nexts [0, 7, 0] L) 0 = 2 ∧ gen (nexts [0, 7, 0] L) 7 = 2 ∧ gen (nexts [0, 7, 0] L) 1 = 1 := by
  have hl : L.length = 2 := h.inv.1.1
  have h0 : L[0]? = some L[0] := List.getElem?_eq_getElem _
  have h1 : L[1]? = some L[1] := List.getElem?_eq_getElem _
  obtain ⟨a0, a1⟩ := like_one (h.like 0 _ h0)
  obtain ⟨b0, b1⟩ := like_one (h.like 1 _ h1)
  have hR : inR [0, 7, 0] 8 := fun x hx => by simp at hx; omega
  have d0 : L.getD 0 zp = L[0] := getD_at h0
  have d1 : L.getD 1 zp = L[1] := getD_at h1
  have hF : ¬ ∃ x ∈ ([0, 7, 0] : List Int), isFull L x := by
    rintro ⟨x, hx, hf⟩
    unfold isFull at hf
    simp at hx
    rcases hx with rfl | rfl | rfl
    · rw [show (0 : Int).toNat / 6 = 0 from rfl, show (0 : Int).toNat % 6 = 0 from rfl, d0, a0, a1 0 (by decide)] at hf
      omega
    · rw [show (7 : Int).toNat / 6 = 1 from rfl, show (7 : Int).toNat % 6 = 1 from rfl, d1, b0, b1 1 (by decide)] at hf
      omega
    · rw [show (0 : Int).toNat / 6 = 0 from rfl, show (0 : Int).toNat % 6 = 0 from rfl, d0, a0, a1 0 (by decide)] at hf
      omega
  obtain ⟨p1, p2, p3⟩ := puts_quiet (jobs 60 [0, 7, 0] L) m h.quiet
  have hj : (jobs 60 [0, 7, 0] L).length = 2 := by
    unfold jobs
    rw [List.length_map, hl]
    decide
  have hne : ¬ ([0, 7, 0] : List Int) = [] := by decide
  refine ⟨(puts (jobs 60 [0, 7, 0] L) m).2, ?_, ?_, nexts_pages h.inv.1 hR hF, ?_, ?_, ?_⟩
  · unfold bmp
    rw [if_neg (fun x => x hR), if_neg hF, if_neg hne, if_pos p1, p1]
  · rw [p3, hj, h.done]
  · rw [gen_next (e := 0) h0, a1 0 (by decide)]; decide
  · rw [gen_next (e := 7) h1, b1 1 (by decide)]; decide
  · rw [gen_next (e := 1) h0, a1 1 (by decide)]; decide
theorem fi_row (w : World) (zs : List Int) (T : TypeId) : Fi (w.alloc (.cells (zs.map (Value.int .i64)).toArray T)) (some ⟨w.heap.size, 0, none⟩) zs.length zs := by
  refine ⟨by simp, fun _ => ⟨_, 0, rfl, fun j y hy => ?_⟩⟩
  rw [Nat.zero_add, cell_of_row _ _ _ _ _ _ (heap_alloc_new w _)]
  simpa using hy
set_option maxHeartbeats 4000000 in
theorem awake_any (w : World) (he : Env w) : Calls Tryz.prog 11 #[] w fun e w' => e = .returned (.bool true) ∧ Below w.heap.size w w' := by
  have HE := Lib.hid he
  clear he
  go_enter Tryz.func11, Tryz.ntmps11
  go_wp2_with fail
  refine (begin_any 59 (by decide) _ rfl _ rfl 8 2 60 64 (pln_plan 59 (by decide)) w HE.out).mono ?_
  rintro e w1 ⟨P, pw, D, q, E, T, U, m, L, rfl, ⟨F, G, H1, H2, r1⟩, h1, bg⟩
  obtain ⟨m', k1, k2, k3, k4, k5, k6⟩ := awake_bmp bg
  have PL := Lib.hid bg.pln
  have PA := Lib.hid bg.inv.1
  generalize Pn.planOf _ _ _ = p at r1 h1 bg PL
  have c28 : w1.cell? ⟨P, 28, none⟩ = some (.pointer (some ⟨T, 0, none⟩)) := (h1.cell 28).1
  have R1 := Lib.hid r1
  have H1' := Lib.hid h1
  have K1 := Lib.hid k1
  have K2 := Lib.hid k2
  have K3 := Lib.hid k3
  have K4 := Lib.hid (show gen (nexts [0, 7, 0] L) 0 = 2 ∧ gen (nexts [0, 7, 0] L) 7 = 2 ∧ gen (nexts [0, 7, 0] L) 1 = 1 from ⟨k4, k5, k6⟩)
  clear r1 h1 k1 k2 k3 k4 k5 k6 bg
  generalize nexts [0, 7, 0] L = L2 at K1 K3 K4
  go_wp2_with fail
  refine ((R1.out.below (balloc w1 (.cells #[.int .i64 0, .int .i64 7, .int .i64 0] 3))).bump HE.out PL.out PA.out (fi_row w1 [0, 7, 0] 3) (by decide) (by decide) 0 L2 m' K1.out).mono ?_; rintro e w2 ⟨rfl, r2, h2⟩
  have R2 := Lib.hid r2
  have H2' := Lib.hid ((H1'.out.below (balloc w1 (.cells #[.int .i64 0, .int .i64 7, .int .i64 0] 3))).of h2.1)
  clear r2 h2 c28
  have c28 : w2.cell? ⟨P, 28, none⟩ = some (.pointer (some ⟨T, 0, none⟩)) := (H2'.out.cell 28).1
  go_wp2_with fail
  refine (R2.out.get_yes PL.out K3.out.1 0 (by decide)).mono ?_; rintro e w3 ⟨rfl, b3⟩
  rw [K4.out.1]
  have R3 := Lib.hid (R2.out.below b3)
  have H3' := Lib.hid (H2'.out.below b3)
  clear b3 c28
  have c28 : w3.cell? ⟨P, 28, none⟩ = some (.pointer (some ⟨T, 0, none⟩)) := (H3'.out.cell 28).1
  go_wp2_with fail
  refine (R3.out.get_yes PL.out K3.out.1 7 (by decide)).mono ?_; rintro e w4 ⟨rfl, b4⟩
  rw [K4.out.2.1]
  have R4 := Lib.hid (R3.out.below b4)
  have H4' := Lib.hid (H3'.out.below b4)
  clear b4 c28
  have c28 : w4.cell? ⟨P, 28, none⟩ = some (.pointer (some ⟨T, 0, none⟩)) := (H4'.out.cell 28).1
  go_wp2_with fail
  refine (R4.out.get_yes PL.out K3.out.1 1 (by decide)).mono ?_; rintro e w5 ⟨rfl, b5⟩
  rw [K4.out.2.2]
  have R5 := Lib.hid (R4.out.below b5)
  have H5' := Lib.hid (H4'.out.below b5)
  clear b5 c28
  have c28 : w5.cell? ⟨P, 28, none⟩ = some (.pointer (some ⟨T, 0, none⟩)) := (H5'.out.cell 28).1
  go_wp2_with fail
  refine ((R5.out.below (balloc w5 (.cells #[.int .i64 0, .int .i64 7] 3))).pages PL.out (fi_row w5 [0, 7] 3) (by decide)).mono ?_; rintro e w6 ⟨rfl, b6⟩
  have hh : ((hits (inside [0, 7] 8) 2).length : Int) = 2 := by decide
  rw [hh]
  have R6 := Lib.hid ((R5.out.below (balloc w5 (.cells #[.int .i64 0, .int .i64 7] 3))).below b6)
  have H6' := Lib.hid ((H5'.out.below (balloc w5 (.cells #[.int .i64 0, .int .i64 7] 3))).below b6)
  clear b6 c28 hh
  have c26 : w6.cell? ⟨P, 26, none⟩ = some (.pointer (some ⟨pw, 0, none⟩)) := (H6'.out.cell 26).1
  go_wp2_with fail
  refine (done_any R6.out.pd.pw).mono ?_; rintro e w7 ⟨rfl, rfl⟩
  rw [K2.out]
  clear c26
  go_wp2
  go_ret
  exact ⟨rfl, R6.out.bel⟩
end Go.Proofs.YtgdgehfapfgdfaaGreatDoor.Tb
