/-
  The document's devices: Loose. No conditions.
-/
import Derived.Test.YtdkniholeaiemaaDvRflush
namespace Go.Proofs.Ytdkniholeaiemaa.W
open Go.RowKit Oc Dm Gt
set_option linter.unusedVariables false
set_option maxRecDepth 100000
theorem loose_step (S : Nat → Sec) (j : Nat) : looseOf (j + 1) S = looseOf j S ++ (if (S j).loose = [] then [] else [(j, (S j).loose.length)]) := by
  unfold looseOf
  rw [List.range_succ, List.filterMap_append]
  congr 1
  by_cases h : (S j).loose = []
  · simp [h]
  · simp [h]
theorem lo_owned {w : World} {base : Nat} {v : Value} {ps : List (Nat × Nat)} (h : w.ownsRow base 91 2 v ps.length (flatL ps)) : ∃ A c, v = .slice A ps.length c ∧ Lo w A ps.length ps ∧ ps.length ≤ c ∧ c ≤ maxLen := by
  have h0 := h
  obtain ⟨hol, hor⟩ := h
  rcases hor with ⟨e, hn⟩ | ⟨b, cap, cur, rfl, hb, hg', h1, h2, h3, h4⟩
  · exact ⟨none, 0, by rw [e, hn], ⟨rfl, fun h => by omega⟩, by omega, by decide⟩
  · refine ⟨_, cap, rfl, ⟨rfl, fun _ => ⟨b, rfl, fun j x hx => ?_⟩⟩, h1, h2⟩
    obtain ⟨f1, f2⟩ := flat_get ps j x hx
    exact ⟨(owns_cells h0 f1).1, (owns_cells h0 f2).1⟩
/-- the row that the document tells -/
def RToldL (w : World) (ps : List (Nat × Nat)) (e : Ending) (w' : World) : Prop := ∃ A c, e = .returned (.slice A ps.length c) ∧ Lo w' A ps.length ps ∧ Below w.heap.size w w'
section
variable {w w' : World} {G G' : Nat → Prop} {E q n : Nat} {S : Nat → Sec} {rd wx gs : Nat} {vs : Nat → Value} {s : PS}
theorem rloose_any (h : RvAt w G E q n S rd wx gs vs) : Calls Try.prog 14 #[.pointer (some ⟨E, 0, none⟩)] w (RToldL w (looseOf n S)) := by
  have H := Lib.hid h
  have hn := h.hn
  obtain ⟨i0, hi0, hz0, hz1, hz2⟩ := info_parts lo_info
  have HI := Lib.hid hi0
  have HZ0 := Lib.hid hz0
  have HZ1 := Lib.hid hz1
  have HZ2 := Lib.hid hz2
  clear h hi0 hz0 hz1 hz2
  go_enter Try.func14, Try.ntmps14
  go_wp2
  go_loopw [3, 4] (fun v p wr => ∃ j : Nat, j ≤ n ∧ p = .int .i64 (j : Int) ∧ Hid (wr.ownsRow w.heap.size 91 2 v (looseOf j S).length (flatL (looseOf j S))) ∧ Hid (Below w.heap.size w wr)) (fun _ p _ => n - (intOf p).toNat)
  case atStart => exact ⟨0, Nat.zero_le _, rfl, World.ownsRow_nil _ _ _ _, Below.refl _ _⟩
  case round =>
    obtain ⟨j, hj, rfl, OJ, BJ⟩ := hrel
    have HJ := Lib.hid (H.out.below BJ.out)
    obtain ⟨c0, c1, c2, c3, fr⟩ := HJ.out.cells
    by_cases hlt : j < n
    · have hlt2 : (j : Int) < (n : Int) := by omega
      obtain ⟨A, c, hv, hlc, hcm, hsl, hG⟩ := HJ.out.loose j hlt
      obtain ⟨s0, s1, s2, sf⟩ := HJ.out.sec hlt
      rw [hv] at s1
      clear s0 s2 hv hsl hG
      have STEP := Lib.hid (loose_step S j)
      by_cases he : (S j).loose = []
      · rw [he, List.length_nil] at s1
        have ST : Hid (looseOf (j + 1) S = looseOf j S) := Lib.hid (by rw [STEP.out, if_pos he, List.append_nil])
        clear STEP hlc he
        go_wp2
        go_roundw
        case rel => exact ⟨j + 1, by omega, by go_num, by rw [ST.out]; exact OJ, BJ⟩
        case measure => simp [intOf]; omega
      · have hpos := List.length_pos_iff.2 he
        have ST : Hid (looseOf (j + 1) S = looseOf j S ++ [(j, (S j).loose.length)]) := Lib.hid (by rw [STEP.out, if_neg he])
        have hmx : maxLen ≤ 9223372036854775807 := by decide
        have hk9 : ((S j).loose.length : Int) ≤ 9223372036854775807 := by omega
        have hpos2 : (0 : Int) < ((S j).loose.length : Int) := by omega
        have HLEN := Lib.hid (loose_len j S)
        clear STEP he hlc hcm hmx
        generalize (S j).loose.length = k at s1 hpos hpos2 ST hk9
        go_wp2_with (at_builtin; refine wpList_append_own_at _ rfl _ _ 47 rfl w.heap.size 91 i0 _ 2 16 Try.underlying47 HI.out HZ0.out HZ1.out HZ2.out rfl (by decide) _ _ _ rfl (OJ.out.alloc _) ⟨wr.heap.size, 0, none⟩ 1 1 [.int .i64 (j : Int), .int .i64 (k : Int)] rfl rfl (cell_two_new _ _ _ _) (two_one _ _) (by unfold maxLen; have := HLEN.out; omega) (by have := HLEN.out; omega) (by have := BJ.out.size; simp; omega) ?_; intro v' w4 o4 g4 nil4 loc4; have O4 := Lib.hid o4; have G4 := Lib.hid g4; clear o4 g4 nil4 loc4)
        go_roundw
        case rel =>
          have g34 : wr.grownBy w4 _ := (World.grownBy_alloc wr _ _).trans G4.out
          refine ⟨j + 1, by omega, by go_num, ?_, BJ.out.grown g34 BJ.out.size (fun i e => (OJ.out.lt _ e).1)⟩
          have := O4.out
          rw [ST.out, flat_app, show (looseOf j S ++ [(j, k)]).length = (looseOf j S).length + 1 by simp]
          exact this
        case measure => simp [intOf]; omega
    · have hlt2 : ¬ (j : Int) < (n : Int) := by omega
      have hjn : j = n := by omega
      subst hjn
      obtain ⟨A, c, rfl, lo, _, _⟩ := lo_owned OJ.out
      have LO := Lib.hid lo
      clear lo
      go_wp2
      go_ret
      exact ⟨A, c, rfl, LO.out, BJ.out⟩
end
end Go.Proofs.Ytdkniholeaiemaa.W
