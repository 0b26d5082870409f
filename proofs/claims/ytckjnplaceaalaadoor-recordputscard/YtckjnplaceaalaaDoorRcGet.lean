/-
  The contract of Get. No conditions.
-/
import Derived.Test.YtckjnplaceaalaaDoorRcRead
import Derived.Test.YtckjnplaceaalaaDoorRcPut
namespace Go.Proofs.YtckjnplaceaalaaDoor.W
open Go.RowKit Oc
set_option linter.unusedVariables false

set_option maxRecDepth 100000 in
set_option maxHeartbeats 2000000 in
theorem rcget_any (A : Option Addr) (n c : Nat) (ys : List UInt8) (p : Rc) (E : Int) (w : World) (hn : n ≤ 1000000) (hc : n ≤ c) (ho : Oct w A n ys) (he : Env w) (hW : GWay ys p E) :
    Calls Tryd.prog 8 #[.slice A n c] w fun e w' => e = .returned (.tuple #[(.agg #[.int .u64 (p.q : Int), .int .u64 (p.h : Int), .int .i64 p.x, .int .u64 (p.g : Int), .int .u8 (p.m.toNat : Int)]), .int .i64 E]) ∧ Below w.heap.size w w' := by
  have HO := Lib.hid ho
  have HE := Lib.hid he
  clear ho he
  by_cases h1 : getE ys 2 = 0
  · obtain ⟨d, hd⟩ : ∃ d, d = dec (getL ys 2) := ⟨_, rfl⟩
    obtain ⟨b, hb⟩ : ∃ b : Bool, (b = true ↔ MayBe d) := by
      by_cases h : MayBe d
      · exact ⟨true, fun _ => h, fun _ => rfl⟩
      · exact ⟨false, fun h2 => (by cases h2), fun h2 => absurd h2 h⟩
    obtain ⟨k, hk⟩ : ∃ k, blank ((getL ys 2).drop 27) = k := ⟨_, rfl⟩
    have hx : (b = true ∧ k = true ∧ p = d ∧ E = 0) ∨ (b = true ∧ k = false ∧ p = zr ∧ E = 31) ∨ (b = false ∧ p = zr ∧ E = 31) := by
      rcases hW with ⟨h2, _⟩ | ⟨_, h3, h4, h5⟩ | ⟨_, h3, h4, h5, h6⟩ | ⟨_, h3, h4, h5, h6⟩
      · exact absurd h1 h2
      · refine .inr (.inr ⟨?_, h4, h3⟩)
        cases b
        · rfl
        · rw [← hd] at h5; exact absurd (hb.1 rfl) h5
      · rw [← hd] at h5
        rw [hk] at h6
        exact .inr (.inl ⟨hb.2 h5, h6, h4, h3⟩)
      · rw [hk] at h6
        rw [← hd] at h4
        exact .inl ⟨hb.2 (h4 ▸ h5), h6, h4, h3⟩
    have hl := get58 h1
    have H1 := Lib.hid h1
    have HD := Lib.hid hd
    have HL := Lib.hid hl
    have HB := Lib.hid hb
    have HK := Lib.hid hk
    have K31 : Hid (((getL ys 2).drop 27).length = 31) := by show _ = _; rw [List.length_drop, hl]
    clear hW h1 hd hl hb hk
    go_enter Tryd.func8, Tryd.ntmps8
    go_wp2_with fail
    refine (pget_any _ _ _ ys _ _ hn hc (HO.out.alloc _) (HE.out.alloc _)).mono ?_; rintro e w1 ⟨v1, rfl, o, b1⟩
    rw [H1.out]
    obtain ⟨A1, c1, rfl, l1, s1⟩ := o.form HL.out
    have S1 := Lib.hid s1
    have Y1 := Lib.hid (kept_below (rc_new w) b1)
    have B1 : Hid (Below w.heap.size w w1) := bthen (balloc _ _) b1
    clear o b1 s1
    go_wp2_with fail
    refine (read_rc _ _ _ d _ HD.out S1.out).mono ?_; rintro e w2 ⟨v2, rfl, o2, b2⟩
    obtain ⟨A2, c2, rfl, l2, s2⟩ := o2.form K31.out
    have S2 := Lib.hid s2
    have Y2 := Lib.hid (kept_below Y1.out b2)
    have B2 : Hid (Below w.heap.size w w2) := bthen B1.out b2
    clear o2 b2 s2
    go_wp2_with fail
    refine (maybe_any d b _ HB.out).mono ?_; rintro e w3 ⟨rfl, b3⟩
    have Y3 := Lib.hid (kept_below (kept_below Y2.out (balloc _ _)) b3)
    have X3 := Lib.hid (kept_below (heap_alloc_new w2 (.cells #[.int .u64 (d.q : Int), .int .u64 (d.h : Int), .int .i64 d.x, .int .u64 (d.g : Int), .int .u8 (d.m.toNat : Int)] 24)) b3)
    have S3 := Lib.hid ((S2.out.alloc _).below b3)
    have B3 : Hid (Below w.heap.size w w3) := bthen (bthen B2.out (balloc _ _)) b3
    clear b3
    rcases hx with ⟨rfl, rfl, rfl, rfl⟩ | ⟨rfl, rfl, rfl, rfl⟩ | ⟨rfl, rfl, rfl⟩
    · go_wp2_with fail
      refine (blank_any _ _ _ _ true _ (by omega) S3.out HK.out).mono ?_; rintro e w' ⟨rfl, rfl⟩
      go_wp2_with (first
        | ((with_reducible apply L_loadRc); exact rfl; exact X3.out; exact rfl)
        | ((with_reducible apply L_storeRow (N := 5) info_rc); exact rfl; exact rfl; exact Y3.out; exact rfl; exact rfl; (simp [Value.oneCell']); intro w4 h4 g4; have H4 := Lib.hid h4; have G4 := Lib.hid g4; clear h4 g4))
      refine bodyPost_ret (results_cell_tmp_row rfl _ _ _ _ rfl (run_loadVar_row _ _ _ _ _ _ _ H4.out Tryd.underlying24 rfl info_rc)) rfl ?_
      exact ⟨rfl, below_up B3.out G4.out (Nat.le_refl _)⟩
    · go_wp2_with fail
      refine (blank_any _ _ _ _ false _ (by omega) S3.out HK.out).mono ?_; rintro e w' ⟨rfl, rfl⟩
      go_wp2_with ((with_reducible apply L_storeRow (N := 5) info_rc); exact rfl; exact rfl; exact Y3.out; exact rfl; exact rfl; (simp [Value.oneCell']); intro w4 h4 g4; have H4 := Lib.hid h4; have G4 := Lib.hid g4; clear h4 g4)
      refine bodyPost_ret (results_cell_tmp_row rfl _ _ _ _ rfl (run_loadVar_row _ _ _ _ _ _ _ H4.out Tryd.underlying24 rfl info_rc)) rfl ?_
      exact ⟨rfl, below_up B3.out G4.out (Nat.le_refl _)⟩
    · go_wp2_with ((with_reducible apply L_storeRow (N := 5) info_rc); exact rfl; exact rfl; exact Y3.out; exact rfl; exact rfl; (simp [Value.oneCell']); intro w4 h4 g4; have H4 := Lib.hid h4; have G4 := Lib.hid g4; clear h4 g4)
      refine bodyPost_ret (results_cell_tmp_row rfl _ _ _ _ rfl (run_loadVar_row _ _ _ _ _ _ _ H4.out Tryd.underlying24 rfl info_rc)) rfl ?_
      exact ⟨rfl, below_up B3.out G4.out (Nat.le_refl _)⟩
  · have hp : p = zr ∧ E = getE ys 2 := by
      rcases hW with ⟨_, h3, h4⟩ | ⟨h2, _⟩ | ⟨h2, _⟩ | ⟨h2, _⟩
      · exact ⟨h4, h3⟩
      · exact absurd h2 h1
      · exact absurd h2 h1
      · exact absurd h2 h1
    obtain ⟨rfl, h2⟩ := hp
    have hE0 : ¬ E = 0 := by rw [h2]; exact h1
    have H2 := Lib.hid h2.symm
    clear h1 h2 hW
    go_enter Tryd.func8, Tryd.ntmps8
    go_wp2_with fail
    refine (pget_any _ _ _ ys _ _ hn hc (HO.out.alloc _) (HE.out.alloc _)).mono ?_; rintro e w1 ⟨v1, rfl, o, b⟩
    rw [H2.out]
    have Y1 := Lib.hid (kept_below (rc_new w) b)
    have B1 : Hid (Below w.heap.size w w1) := bthen (balloc _ _) b
    clear o b
    go_wp2_with ((with_reducible apply L_storeRow (N := 5) info_rc); exact rfl; exact rfl; exact Y1.out; exact rfl; exact rfl; (simp [Value.oneCell']); intro w3 h3 g3; have H3 := Lib.hid h3; have G3 := Lib.hid g3; clear h3 g3)
    refine bodyPost_ret (results_cell_tmp_row rfl _ _ _ _ rfl (run_loadVar_row _ _ _ _ _ _ _ H3.out Tryd.underlying24 rfl info_rc)) rfl ?_
    exact ⟨rfl, below_up B1.out G3.out (Nat.le_refl _)⟩
end Go.Proofs.YtckjnplaceaalaaDoor.W
