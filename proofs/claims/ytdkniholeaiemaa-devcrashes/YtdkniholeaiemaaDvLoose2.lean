/-
  Contract of Loose. No conditions.
-/
import Derived.Test.YtdkniholeaiemaaDvLoose
namespace Go.Proofs.Ytdkniholeaiemaa.W
open Go.RowKit Oc Dm
set_option linter.unusedVariables false
/-- loose sectors are told, in new memory -/
def ToldL (w : World) (ps : List (Nat × Nat)) (e : Ending) (w' : World) : Prop := ∃ b k c, e = .returned (.slice (some ⟨b, 0, none⟩) k c) ∧ Lo w' (some ⟨b, 0, none⟩) k ps ∧ w.heap.size ≤ b ∧ Below w.heap.size w w'
section
variable {w w' : World} {F : Nat → Prop} {D p n N : Nat} {S : Nat → Sec} {rd wr fx m r : Nat} {g : Nat → Option Pl} {s : PS}
theorem row_ne {v : Value} {e : TypeId} {base size k rr cnt : Nat} {xs : List Value} {left : Nat → Bool} (h : w.ownsRow base e size v k xs) (hl : LR w m rr N n g left cnt) : v.ownBlock ≠ some rr := by
  intro e1
  rcases h.2 with ⟨rfl, _⟩ | ⟨g', cap, cur, rfl, _, hg, _⟩
  · cases e1
  · have : g' = rr := by simpa [Value.ownBlock] using e1
    subst this
    obtain ⟨D', L, ⟨es, clock, since, seen, c0, hb, F', hs, hD, hr, rest⟩, h2⟩ := hl
    rw [hg] at hr
    cases hr
set_option maxRecDepth 100000 in
set_option maxHeartbeats 4000000 in
theorem loose_any (h : DvAt w F D p n N S rd wr fx m r g) : Calls Try.prog 18 #[.pointer (some ⟨D, 0, none⟩)] w (ToldL w (looseOf n S)) := by
  have H := Lib.hid h
  obtain ⟨c0, c1, c2, c3, c4, c5, fr⟩ := h.cells
  have hN := h.hN
  obtain ⟨i0, hi0, hz0, hz1, hz2⟩ := info_parts lo_info
  have HI := Lib.hid hi0
  have HZ0 := Lib.hid hz0
  have HZ1 := Lib.hid hz1
  have HZ2 := Lib.hid hz2
  clear h hi0 hz0 hz1 hz2
  go_enter Try.func18, Try.ntmps18
  go_wp2_with fail
  refine (dmade_any H.out).mono ?_; rintro e w' ⟨rfl, rfl⟩
  go_wp2_with (first | ((with_reducible refine L_len ?_ H.out.lm ?_); exact rfl; intro L hL; have HL := Lib.hid hL; clear hL) | (at_make; refine wpList_make_own _ rfl _ _ 47 rfl w.heap.size 91 i0 _ 2 Try.underlying47 HI.out HZ0.out HZ1.out .i64 .i64 _ L rfl rfl rfl (by rw [HZ2.out]; have := HL.out; omega) (by unfold maxLen; have := HL.out; omega) (Nat.le_refl _) ?_; intro w1 o1 g1; have O1 := Lib.hid o1; have G1 := Lib.hid g1; have H1 := Lib.hid (H.out.grown0 g1); clear o1 g1 c0 c1 c2 c3 c4 c5 fr; obtain ⟨c0, c1, c2, c3, c4, c5, fr⟩ := H1.out.cells) | ((with_reducible refine L_range ?_ H1.out.lm ?_); exact rfl; intro w2 cnt0 lr0 hcnt g2 z2; have L0 := Lib.hid lr0; have CN := Lib.hid hcnt; have G2 := Lib.hid g2; have Z2 := Lib.hid z2; clear lr0 hcnt g2 z2))
  go_frame
  have B1 := Lib.hid ((Below.refl w.heap.size w).grown G1.out (Nat.le_refl _) (fun j e => by cases e))
  have B2 := Lib.hid (B1.out.grown G2.out B1.out.size (fun j e => by cases e))
  go_loopw [3] (fun v wr' => ∃ left cnt ps, Hid (LR wr' m w1.heap.size N n g left cnt) ∧ Hid (Coll n S g left ps) ∧ Hid (wr'.ownsRow w.heap.size 91 2 v ps.length (flatL ps)) ∧ Hid (v ≠ .slice none 0 0) ∧ Hid (Below w.heap.size w wr') ∧ Hid (ps.length + cnt ≤ N)) (fun _ wr' => wr'.rangeLeft m w1.heap.size)
  case atStart =>
    exact ⟨_, _, [], L0, Coll.start, O1.out.kept G2.out (.inr (by simp [Value.ownBlock])), (fun e => by cases e), B2, by show 0 + _ ≤ _; have := CN.out; omega⟩
  case round =>
    obtain ⟨left, cnt, ps, LRJ, CJ, OJ, NJ, BJ, KJ⟩ := hrel
    clear c0 c1 c2 c3 c4 c5 fr
    have HJ := Lib.hid (H.out.below BJ.out)
    go_wp2_with ((with_reducible refine L_next ?_ LRJ.out ?_ ?_); exact rfl)
    · intro hl0
      have HL0 := Lib.hid hl0
      clear hl0
      obtain ⟨hol, hor⟩ := OJ.out
      rcases hor with ⟨e, _⟩ | ⟨b, cap, cur, rfl, hb, hg', h1, h2, h3, h4⟩
      · exact absurd e NJ.out
      have OJ2 := Lib.hid (show _ from OJ.out)
      clear hol hg' h3 h4
      have HB := Lib.hid hb
      go_wp2_with fail
      refine (sort_any OJ.out HJ.out.hn (CJ.out.end_ HJ.out HL0.out) CJ.out.apart).mono ?_; rintro e w5 ⟨rfl, lo5, g5⟩
      have LO5 := Lib.hid lo5
      have G5 := Lib.hid g5
      clear lo5 g5
      go_wp2
      go_ret
      exact ⟨b, _, _, rfl, LO5.out, HB.out, BJ.out.grown G5.out BJ.out.size (fun j e => by injection e with e; subst e; exact HB.out)⟩
    · intro i t w3 cnt3 hi hli hgi lr3 hlt g3 z3 hen
      have B3 := Lib.hid (BJ.out.grown g3 BJ.out.size (fun j e => by injection e with e; subst e; exact B1.out.size))
      have O3 := Lib.hid (OJ.out.kept g3 (.inr (fun e => by
        have h1 := (row_ne OJ.out LRJ.out)
        exact h1 e)))
      have ET := Lib.hid (H.out.some_ i t hi hgi).2.1
      have C3 := Lib.hid (CJ.out.step hi (by rw [hgi]; rfl) hli)
      have L3 := Lib.hid lr3
      have LT := Lib.hid hlt
      clear hli hgi lr3 hlt g3 z3
      go_wp2_with (at_builtin; refine wpList_append_own_at _ rfl _ _ 47 rfl w.heap.size 91 i0 _ 2 16 Try.underlying47 HI.out HZ0.out HZ1.out HZ2.out rfl (by decide) _ _ _ rfl (O3.out.alloc _) ⟨w3.heap.size, 0, none⟩ 1 1 [.int .i64 (i : Int), .int .i64 (t.2.1 : Int)] rfl rfl (cell_two_new _ _ _ _) (two_one _ _) (by unfold maxLen; have := KJ.out; omega) (by have := KJ.out; omega) (by have := B3.out.size; simp; omega) ?_; intro v' w4 o4 g4 nil4 loc4; have O4 := Lib.hid o4; have G4 := Lib.hid g4; have NL4 := Lib.hid nil4; have LC4 := Lib.hid loc4; clear o4 g4 nil4 loc4)
      go_roundw
      case rel =>
        have g34 : w3.grownBy w4 _ := (World.grownBy_alloc w3 _ _).trans G4.out
        have hlo := O3.out.lt
        refine ⟨upd left i false, cnt3, ps ++ [(i, t.2.1)], ?_, ?_, ?_, ?_, ?_, ?_⟩
        · refine L3.out.heap (g34.block _ L3.out.lm.lt (fun e => ?_)) (g34.block _ L3.out.lt (fun e => ?_))
          · have h1 := (hlo _ e.symm).1
            have h2 := H.out.lm.lt
            omega
          · exact (row_ne O3.out L3.out) e.symm
        · have := C3.out
          rw [← ET.out] at this
          exact this
        · have := O4.out
          rw [flat_app]
          rw [show (ps ++ [(i, t.2.1)]).length = ps.length + 1 by simp]
          exact this
        · intro e
          have := (NL4.out.1 e).2
          omega
        · exact B3.out.grown g34 B3.out.size (fun j e => (hlo _ e).1)
        · show (ps ++ [(i, t.2.1)]).length + cnt3 ≤ N
          have h1 := KJ.out
          have h2 := LT.out
          simp
          omega
      case measure =>
        have g34 : w3.grownBy w4 _ := (World.grownBy_alloc w3 _ _).trans G4.out
        have hlo := O3.out.lt
        have L4 : LR w4 m w1.heap.size N n g _ cnt3 := L3.out.heap (g34.block _ L3.out.lm.lt (fun e => by
          have h1 := (hlo _ e.symm).1
          have h2 := H.out.lm.lt
          omega)) (g34.block _ L3.out.lt (fun e => (row_ne O3.out L3.out) e.symm))
        rw [L4.left_eq, LRJ.out.left_eq]
        exact LT.out
end
end Go.Proofs.Ytdkniholeaiemaa.W
