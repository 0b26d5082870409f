/-
  What is asked of a table: ContainsFunc over isFull, mayBump, All. No conditions.
-/
import Derived.Test.YtgdgehfapfgdfaaGreatDoorGbAsk
namespace Go.Proofs.YtgdgehfapfgdfaaGreatDoor.Tb
open Go.RowKit Oc Dm W Dw Sr
set_option linter.unusedVariables false
set_option maxRecDepth 100000

theorem fi_at {w : World} {A : Option Addr} {k : Nat} {fs : List Int} (h : Fi w A k fs) {j : Nat} {x : Int} (hx : fs[j]? = some x) : ∃ b off, A = some ⟨b, off, none⟩ ∧ w.cell? ⟨b, off + j, none⟩ = some (.int .i64 x) :=
  Rw.Sl.at_ h (by rw [List.getElem?_map, hx]; rfl)
theorem fi_len {w : World} {A : Option Addr} {k : Nat} {fs : List Int} (h : Fi w A k fs) : fs.length = k := by have := Rw.Sl.len h; rwa [List.length_map] at this
section
variable {w w' : World} {H F : Nat → Prop} {T D g cap ne np ga n k c : Nat} {p : Pn.Pl} {L : List Gp} {A : Option Addr} {ls : List Int}
theorem index_any (h : TbAt w H 81 T D g cap p L) (hp : Pln p ne np ga n) (hl : L.length = np) (hf : Fi w A k ls) (hk : k ≤ 1000000000) (hr : inR ls ne) :
    Calls Tryz.prog 107 #[.slice A k c, .func (.func 86) #[.pointer (some ⟨T, 0, none⟩)] #[]] w fun e w' => ∃ z : Int, e = .returned (.int .i64 z) ∧ ((z = -1 ∧ ∀ x ∈ ls, fullB L x.toNat = false) ∨ (0 ≤ z ∧ ∃ x ∈ ls, fullB L x.toNat = true)) ∧ Below w.heap.size w w' := by
  have HH := Lib.hid h
  have HF := Lib.hid hf
  have HP := Lib.hid hp
  have HL := Lib.hid hl
  have HR := Lib.hid hr
  have HN := Lib.hid (fi_len hf)
  clear h hf hp hl hr
  go_enter Tryz.func107, Tryz.ntmps107
  go_wp2
  go_loopw [8] (fun q wr => ∃ j : Nat, j ≤ k ∧ q = .int .i64 (j : Int) ∧ Hid (∀ i x, i < j → ls[i]? = some x → fullB L x.toNat = false) ∧ Hid (Below w.heap.size w wr)) (fun q _ => k - (intOf q).toNat)
  case atStart => exact ⟨0, by omega, rfl, fun i x hi => absurd hi (Nat.not_lt_zero _), Below.refl _ _⟩
  case round =>
    obtain ⟨j, hj, rfl, HJ, BJ⟩ := hrel
    by_cases hlt : j < k
    · have hlt2 : (j : Int) < (k : Int) := by omega
      obtain ⟨x, hx⟩ : ∃ x, ls[j]? = some x := ⟨_, List.getElem?_eq_getElem (by rw [HN.out]; exact hlt)⟩
      obtain ⟨b, off, rfl, cx⟩ := fi_at (Rw.Sl.below HF.out BJ.out) hx
      have hin := HR.out x (List.mem_of_getElem? hx)
      obtain ⟨e, rfl⟩ := Int.eq_ofNat_of_zero_le hin.1
      have HX := Lib.hid hx
      have HE := Lib.hid (show e < ne by omega)
      clear hx hin
      obtain ⟨f, hfb⟩ : ∃ f, fullB L e = f := ⟨_, rfl⟩
      have HB := Lib.hid hfb
      clear hfb
      have K := Lib.hid (isfull_any (HH.out.below BJ.out) HP.out HL.out e HE.out)
      rw [HB.out] at K
      cases f
      · go_wp2_with fail
        refine K.out.mono ?_; rintro r w1 ⟨rfl, b1⟩
        have B1 := Lib.hid (bthen BJ.out b1)
        clear b1 cx
        go_wp2
        go_roundw
        case rel => exact ⟨j + 1, by omega, by go_num, fun i x hi hx => by
          by_cases h3 : i = j
          · subst h3
            have e1 := HX.out
            rw [hx] at e1
            injection e1 with e1
            subst e1
            exact HB.out
          · exact HJ.out i x (by omega) hx, B1⟩
        case measure => simp [intOf]; omega
      · go_wp2_with fail
        refine K.out.mono ?_; rintro r w1 ⟨rfl, b1⟩
        have B1 := Lib.hid (bthen BJ.out b1)
        clear b1 cx
        go_wp2
        go_ret
        exact ⟨_, rfl, .inr ⟨by omega, _, List.mem_of_getElem? HX.out, HB.out⟩, B1.out⟩
    · have hlt2 : ¬ (j : Int) < (k : Int) := by omega
      go_wp2
      go_ret
      refine ⟨_, rfl, .inl ⟨rfl, fun x hx => ?_⟩, BJ.out⟩
      obtain ⟨i, hi⟩ := List.mem_iff_getElem?.1 hx
      have := (List.getElem?_eq_some_iff.1 hi).1
      exact HJ.out i x (by have := HN.out; omega) hi
/-- is one of them full? -/
def anyFull (L : List Gp) (ls : List Int) : Bool := ls.any fun x => fullB L x.toNat
theorem contains_any (h : TbAt w H 81 T D g cap p L) (hp : Pln p ne np ga n) (hl : L.length = np) (hf : Fi w A k ls) (hk : k ≤ 1000000000) (hr : inR ls ne) :
    Calls Tryz.prog 85 #[.slice A k c, .func (.func 86) #[.pointer (some ⟨T, 0, none⟩)] #[]] w fun e w' => e = .returned (.bool (anyFull L ls)) ∧ Below w.heap.size w w' := by
  have K := Lib.hid (index_any (c := c) h hp hl hf hk hr)
  clear h hp hl hf hk hr
  go_enter Tryz.func85, Tryz.ntmps85
  go_wp2_with fail
  refine K.out.mono ?_; rintro r w1 ⟨z, rfl, hz, b1⟩
  have B1 := Lib.hid b1
  clear b1
  rcases hz with ⟨rfl, hz⟩ | ⟨h0, hz⟩
  · have e : anyFull L ls = false := by unfold anyFull; rw [List.any_eq_false]; intro x hx; rw [hz x hx]; decide
    have E := Lib.hid e
    clear e hz
    go_wp2
    go_ret
    exact ⟨by rw [E.out]; rfl, B1.out⟩
  · have e : anyFull L ls = true := by unfold anyFull; rw [List.any_eq_true]; obtain ⟨x, hx, h2⟩ := hz; exact ⟨x, hx, h2⟩
    have E := Lib.hid e
    clear e hz
    have hd : decide (0 ≤ z) = true := by simp [h0]
    go_wp2
    go_ret
    exact ⟨by rw [E.out]; rfl, B1.out⟩
/-- may a bump be? -/
def mayE (L : List Gp) (ne : Nat) (ls : List Int) : Int := if (ls.any fun x => !(decide (0 ≤ x) && decide (x < (ne : Int)))) = true then 3 else if anyFull L ls = true then 5 else 0
theorem maybump_any (h : TbAt w H 81 T D g cap p L) (hp : Pln p ne np ga n) (hl : L.length = np) (hf : Fi w A k ls) (hk : k ≤ 1000000000) :
    Calls Tryz.prog 45 #[.pointer (some ⟨T, 0, none⟩), .slice A k c] w fun e w' => e = .returned (.int .i64 (mayE L ne ls)) ∧ Below w.heap.size w w' := by
  have HH := Lib.hid h
  have HF := Lib.hid hf
  have HP := Lib.hid hp
  have HL := Lib.hid hl
  have HK := Lib.hid hk
  have HN := Lib.hid (fi_len hf)
  clear h hf hp hl
  go_enter Tryz.func45, Tryz.ntmps45
  go_wp2
  go_loopw [11] (fun q wr => ∃ j : Nat, j ≤ k ∧ q = .int .i64 (j : Int) ∧ Hid (∀ i x, i < j → ls[i]? = some x → 0 ≤ x ∧ x < (ne : Int)) ∧ Hid (Below w.heap.size w wr)) (fun q _ => k - (intOf q).toNat)
  case atStart => exact ⟨0, by omega, rfl, fun i x hi => absurd hi (Nat.not_lt_zero _), Below.refl _ _⟩
  case round =>
    obtain ⟨j, hj, rfl, HJ, BJ⟩ := hrel
    by_cases hlt : j < k
    · have hlt2 : (j : Int) < (k : Int) := by omega
      obtain ⟨x, hx⟩ : ∃ x, ls[j]? = some x := ⟨_, List.getElem?_eq_getElem (by rw [HN.out]; exact hlt)⟩
      obtain ⟨b, off, rfl, cx⟩ := fi_at (Rw.Sl.below HF.out BJ.out) hx
      have HX := Lib.hid hx
      clear hx
      by_cases hin : 0 ≤ x ∧ x < (ne : Int)
      · obtain ⟨e, rfl⟩ := Int.eq_ofNat_of_zero_le hin.1
        have HE := Lib.hid (show e < ne by omega)
        clear hin
        go_wp2_with fail
        refine (get_yes (HH.out.below BJ.out) HP.out HL.out e HE.out).mono ?_; rintro r w1 ⟨rfl, b1⟩
        have B1 := Lib.hid (bthen BJ.out b1)
        clear b1 cx
        go_wp2
        go_roundw
        case rel => exact ⟨j + 1, by omega, by go_num, fun i x hi hx => by
          by_cases h3 : i = j
          · subst h3
            have e1 := HX.out
            rw [hx] at e1
            injection e1 with e1
            subst e1
            have := HE.out
            omega
          · exact HJ.out i x (by omega) hx, B1⟩
        case measure => simp [intOf]; omega
      · have HE := Lib.hid hin
        have e3 : mayE L ne ls = 3 := by
          unfold mayE
          rw [if_pos]
          rw [List.any_eq_true]
          refine ⟨x, List.mem_of_getElem? HX.out, ?_⟩
          simp; omega
        have E3 := Lib.hid e3
        clear hin e3
        go_wp2_with fail
        refine (get_no (HH.out.below BJ.out) HP.out x HE.out).mono ?_; rintro r w1 ⟨rfl, b1⟩
        have B1 := Lib.hid (bthen BJ.out b1)
        clear b1 cx
        go_wp2
        go_ret
        exact ⟨by rw [E3.out]; rfl, B1.out⟩
    · have hlt2 : ¬ (j : Int) < (k : Int) := by omega
      have HR : Hid (inR ls ne) := fun x hx => by
        obtain ⟨i, hi⟩ := List.mem_iff_getElem?.1 hx
        have := (List.getElem?_eq_some_iff.1 hi).1
        exact HJ.out i x (by have := HN.out; omega) hi
      have E3 : Hid (mayE L ne ls = if anyFull L ls = true then 5 else 0) := by
        show _ = _
        unfold mayE
        rw [if_neg]
        rw [Bool.not_eq_true, List.any_eq_false]
        intro x hx
        have := HR.out x hx
        simp; omega
      obtain ⟨f, hfb⟩ : ∃ f, anyFull L ls = f := ⟨_, rfl⟩
      have HB := Lib.hid hfb
      clear hfb
      have K := Lib.hid (contains_any (c := c) (HH.out.below BJ.out) HP.out HL.out (Rw.Sl.below HF.out BJ.out) HK.out HR.out)
      rw [HB.out] at K
      cases f
      all_goals
        go_wp2_with fail
        refine K.out.mono ?_; rintro r w1 ⟨rfl, b1⟩
        have B1 := Lib.hid (bthen BJ.out b1)
        clear b1
        go_wp2
        go_ret
        exact ⟨by rw [E3.out, HB.out]; rfl, B1.out⟩
end
end Go.Proofs.YtgdgehfapfgdfaaGreatDoor.Tb
