/-
  What is asked of a table: isMade, Get, isFull. No conditions.
-/
import Derived.Test.YtgdgehfapfgdfaaGreatDoorGbMem
namespace Go.Proofs.YtgdgehfapfgdfaaGreatDoor.Tb
open Go.RowKit Oc Dm W Dw Sr
set_option linter.unusedVariables false
set_option maxRecDepth 100000

theorem tmade_nil (w : World) : Calls Tryz.prog 44 #[.pointer none] w fun e w' => e = .returned (.bool false) ∧ w = w' := by
  go_enter Tryz.func44, Tryz.ntmps44
  go_wp2
  go_ret
  exact ⟨rfl, rfl⟩
theorem tmade_odd (w : World) (T : Nat) (c0 : w.cell? ⟨T, 0, none⟩ = some (.pointer none)) : Calls Tryz.prog 44 #[.pointer (some ⟨T, 0, none⟩)] w fun e w' => e = .returned (.bool false) ∧ w = w' := by
  go_enter Tryz.func44, Tryz.ntmps44
  go_wp2
  go_ret
  exact ⟨rfl, rfl⟩
theorem get_nil (w : World) (x : Int) : Calls Tryz.prog 25 #[.pointer none, .int .i64 x] w fun e w' => e = .returned (.tuple #[.int .u64 0, .bool false]) ∧ w = w' := by
  go_enter Tryz.func25, Tryz.ntmps25
  go_wp2_with fail
  refine (tmade_nil _).mono ?_; rintro e w' ⟨rfl, rfl⟩
  go_wp2
  go_ret2
  exact ⟨rfl, rfl⟩
theorem get_odd (w : World) (T : Nat) (c0 : w.cell? ⟨T, 0, none⟩ = some (.pointer none)) (x : Int) : Calls Tryz.prog 25 #[.pointer (some ⟨T, 0, none⟩), .int .i64 x] w fun e w' => e = .returned (.tuple #[.int .u64 0, .bool false]) ∧ w = w' := by
  have C0 := Lib.hid c0
  clear c0
  go_enter Tryz.func25, Tryz.ntmps25
  go_wp2_with fail
  refine (tmade_odd _ _ C0.out).mono ?_; rintro e w' ⟨rfl, rfl⟩
  go_wp2
  go_ret2
  exact ⟨rfl, rfl⟩
/-- the generation of an extent -/
def gen (L : List Gp) (e : Nat) : Nat := (L.getD (e / 6) zp).g (e % 6)
section
variable {w w' : World} {H F : Nat → Prop} {T D g cap ne np ga n : Nat} {p : Pn.Pl} {L : List Gp}
theorem tmade_any {TT : TypeId} (h : TbAt w H TT T D g cap p L) : Calls Tryz.prog 44 #[.pointer (some ⟨T, 0, none⟩)] w fun e w' => e = .returned (.bool true) ∧ w = w' := by
  obtain ⟨c0, c14, cm, fr⟩ := h.cells
  clear h cm c14
  go_enter Tryz.func44, Tryz.ntmps44
  go_wp2
  go_ret
  exact ⟨rfl, rfl⟩
theorem get_no (h : TbAt w H 81 T D g cap p L) (hp : Pln p ne np ga n) (x : Int) (hx : ¬ (0 ≤ x ∧ x < (ne : Int))) : Calls Tryz.prog 25 #[.pointer (some ⟨T, 0, none⟩), .int .i64 x] w fun e w' => e = .returned (.tuple #[.int .u64 0, .bool false]) ∧ Below w.heap.size w w' := by
  have HH := Lib.hid h
  have HX : Hid (¬ (0 ≤ x ∧ x < p.a1)) := by show ¬ _; rw [hp.h1]; exact hx
  obtain ⟨c0, c14, cm, fr⟩ := h.cells
  clear h cm hx hp
  go_enter Tryz.func25, Tryz.ntmps25
  go_wp2_with fail
  refine (tmade_any HH.out).mono ?_; rintro e w' ⟨rfl, rfl⟩
  go_wp2_with ((with_reducible apply L_ld); exact rfl; exact HH.out.chart)
  refine (Pn.page_no p x _ HX.out).mono ?_; rintro e w1 ⟨rfl, b1⟩
  have B1 := Lib.hid b1
  clear b1
  go_wp2
  go_ret2
  exact ⟨rfl, B1.out⟩
theorem get_yes (h : TbAt w H 81 T D g cap p L) (hp : Pln p ne np ga n) (hl : L.length = np) (e : Nat) (he : e < ne) : Calls Tryz.prog 25 #[.pointer (some ⟨T, 0, none⟩), .int .i64 (e : Int)] w fun r w' => r = .returned (.tuple #[.int .u64 (gen L e : Int), .bool true]) ∧ Below w.heap.size w w' := by
  have HH := Lib.hid h
  have hj : e / 6 < L.length := by have := hp.he1; omega
  have hn : L.length ≤ 4096 := by have := hp.hn; have := hp.hn2; omega
  have HX : Hid ((e : Int) < p.a1) := by show _ < _; rw [hp.h1]; omega
  obtain ⟨q, hq⟩ : ∃ q, L[e / 6]? = some q := ⟨_, List.getElem?_eq_getElem hj⟩
  have HQ := Lib.hid hq
  have hgen : gen L e = q.g (e % 6) := by unfold gen; rw [List.getD_eq_getElem?_getD, hq]; rfl
  rw [hgen]
  obtain ⟨j, hj2⟩ : ∃ j, e / 6 = j := ⟨_, rfl⟩
  obtain ⟨k, hk2⟩ : ∃ k, e % 6 = k := ⟨_, rfl⟩
  have hk6 : k < 6 := by omega
  have D1 : Hid ((e : Int) / 6 = (j : Int) ∧ (e : Int) % 6 = (k : Int)) := by show _ ∧ _; omega
  rw [hj2] at hj HQ
  rw [hk2]
  have he2 : (e : Int) ≤ 9223372036854775807 := by have := hp.he1; omega
  have HE2 := Lib.hid he2
  clear h hp hq hgen hj2 hk2 he he2
  go_enter Tryz.func25, Tryz.ntmps25
  obtain ⟨c0, c14, cm, fr⟩ := HH.out.cells
  clear cm
  go_wp2_with fail
  refine (tmade_any HH.out).mono ?_; rintro e w' ⟨rfl, rfl⟩
  go_wp2_with ((with_reducible apply L_ld); exact rfl; exact HH.out.chart)
  refine (Pn.page_yes p _ _ (by omega) HX.out HE2.out).mono ?_; rintro r w1 ⟨rfl, b1⟩
  have B1 := Lib.hid b1
  have H1 := Lib.hid (HH.out.below b1)
  clear b1 c0 c14 fr
  obtain ⟨c0, c14, cm, fr⟩ := H1.out.cells
  obtain ⟨cg, fg⟩ := H1.out.pgen HQ.out hk6
  clear cm
  obtain ⟨d1, d2⟩ := D1.out
  rw [d1, d2]
  clear d1 d2
  go_wp2
  go_ret2
  exact ⟨rfl, B1.out⟩
/-- may an extent not be bumped? -/
def fullB (L : List Gp) (e : Nat) : Bool := decide (4611686018427387904 ≤ (L.getD (e / 6) zp).v) || decide (4611686018427387904 ≤ (L.getD (e / 6) zp).g (e % 6))
theorem isfull_any (h : TbAt w H 81 T D g cap p L) (hp : Pln p ne np ga n) (hl : L.length = np) (e : Nat) (he : e < ne) : Calls Tryz.prog 86 #[.pointer (some ⟨T, 0, none⟩), .int .i64 (e : Int)] w fun r w' => r = .returned (.bool (fullB L e)) ∧ Below w.heap.size w w' := by
  have HH := Lib.hid h
  have hj : e / 6 < L.length := by have := hp.he1; omega
  have hn : L.length ≤ 4096 := by have := hp.hn; have := hp.hn2; omega
  have HX : Hid ((e : Int) < p.a1) := by show _ < _; rw [hp.h1]; omega
  obtain ⟨q, hq⟩ : ∃ q, L[e / 6]? = some q := ⟨_, List.getElem?_eq_getElem hj⟩
  have HQ := Lib.hid hq
  obtain ⟨j, hj2⟩ : ∃ j, e / 6 = j := ⟨_, rfl⟩
  obtain ⟨k, hk2⟩ : ∃ k, e % 6 = k := ⟨_, rfl⟩
  have hk6 : k < 6 := by omega
  have hful : fullB L e = (decide (4611686018427387904 ≤ q.v) || decide (4611686018427387904 ≤ q.g k)) := by unfold fullB; rw [List.getD_eq_getElem?_getD, hq, hk2]; rfl
  rw [hful]
  have D1 : Hid ((e : Int) / 6 = (j : Int) ∧ (e : Int) % 6 = (k : Int)) := by show _ ∧ _; omega
  rw [hj2] at hj HQ
  have he2 : (e : Int) ≤ 9223372036854775807 := by have := hp.he1; omega
  have HE2 := Lib.hid he2
  clear h hp hq hful hj2 hk2 he he2
  have hway : ∃ b : Bool, (decide (4611686018427387904 ≤ q.v) || decide (4611686018427387904 ≤ q.g k)) = b ∧ ((decide ((4611686018427387904 : Int) ≤ (q.v : Int)) = true ∧ b = true) ∨ (decide ((4611686018427387904 : Int) ≤ (q.v : Int)) = false ∧ decide ((4611686018427387904 : Int) ≤ (q.g k : Int)) = b)) := by
    refine ⟨_, rfl, ?_⟩
    by_cases hv : 4611686018427387904 ≤ q.v
    · left
      refine ⟨by simp; omega, by simp [hv]⟩
    · right
      refine ⟨by simp; omega, ?_⟩
      have e1 : decide (4611686018427387904 ≤ q.v) = false := by simp; omega
      rw [e1, Bool.false_or]
      by_cases hg : 4611686018427387904 ≤ q.g k
      · have e2 : decide (4611686018427387904 ≤ q.g k) = true := by simp [hg]
        rw [e2]; simp; omega
      · have e2 : decide (4611686018427387904 ≤ q.g k) = false := by simp; omega
        rw [e2]; simp; omega
  obtain ⟨b, hb, hway⟩ := hway
  rw [hb]
  clear hb
  rcases hway with ⟨dv, rfl⟩ | ⟨dv, dg⟩
  all_goals
    go_enter Tryz.func86, Tryz.ntmps86
    obtain ⟨c0, c14, cm, fr⟩ := HH.out.cells
    clear cm
    go_wp2_with ((with_reducible apply L_ld); exact rfl; exact HH.out.chart)
    refine (Pn.page_yes p _ _ (by omega) HX.out HE2.out).mono ?_; rintro r w1 ⟨rfl, b1⟩
    have B1 := Lib.hid b1
    have H1 := Lib.hid (HH.out.below b1)
    clear b1 c0 c14 fr
    obtain ⟨c0, c14, cm, fr⟩ := H1.out.cells
    clear cm
    obtain ⟨d1, d2⟩ := D1.out
    rw [d1, d2]
    clear d1 d2
    have hx := gen_cell w1 q.no q.v q.g 33 hk6 (k := 2 + k) rfl
    go_wp2_with ((with_reducible apply L_ld); exact rfl; exact H1.out.gload HQ.out rfl)
    go_ret
    exact ⟨rfl, bthen B1.out (balloc _ _)⟩
end
end Go.Proofs.YtgdgehfapfgdfaaGreatDoor.Tb
