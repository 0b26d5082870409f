/-
  The contract of Get. No conditions.
-/
import Derived.Test.YtheflapmjopemaaDoorHdRead
namespace Go.Proofs.YtheflapmjopemaaDoor.W.Hd
open Go.RowKit Oc Gt
set_option linter.unusedVariables false

theorem bstr_eq (xs ys : List UInt8) (p : Bool) (hp : decide (xs = ys) = p) : ((bstr xs).toList == (bstr ys).toList) = p := by
  rw [ByteArray.toList_eq, ByteArray.toList_eq]
  show (xs == ys) = p
  rw [← hp]
  by_cases h : xs = ys <;> simp [h]
/-- octets held against octets -/
theorem equal_any (A B : Option Addr) (n m c d : Nat) (xs ys : List UInt8) (p : Bool) (w : World) (h1 : Oct w A n xs) (h2 : Oct w B m ys) (hp : decide (xs = ys) = p) :
    Calls Tryd.prog 28 #[.slice A n c, .slice B m d] w fun e w' => e = .returned (.bool p) ∧ w = w' := by
  have cv1 := h1.conv bt Tryd.underlying9 c
  have cv2 := h2.conv bt Tryd.underlying9 d
  have hb := bstr_eq xs ys p hp
  clear h1 h2 hp
  go_enter Tryd.func28, Tryd.ntmps28
  go_wp2
  go_ret
  exact ⟨rfl, rfl⟩

set_option maxRecDepth 100000 in
set_option maxHeartbeats 2000000 in
theorem hget_any (A : Option Addr) (n c : Nat) (ys : List UInt8) (p : Hd) (E : Int) (w : World) (hn : n ≤ 1000000) (hc : n ≤ c) (ho : Oct w A n ys) (he : EnvH w) (hW : GWay ys p E) :
    Calls Tryd.prog 8 #[.slice A n c] w fun e w' => e = .returned (.tuple #[(.agg #[.bool p.u, .int .i64 p.l, .int .u64 (p.g : Int), .int .u32 (p.s.toNat : Int), .int .u32 (p.r.toNat : Int)]), .int .i64 E]) ∧ Below w.heap.size w w' := by
  have HO := Lib.hid ho
  have HE := Lib.hid he
  clear ho he
  by_cases h1 : getE ys 3 = 0
  · obtain ⟨d, hd⟩ : ∃ d, d = dec (getL ys 3) := ⟨_, rfl⟩
    have hx : (MayBe d ∧ sect d = ys ∧ p = d ∧ E = 0) ∨ (MayBe d ∧ ¬ sect d = ys ∧ p = zr ∧ E = 31) ∨ (¬ MayBe d ∧ p = zr ∧ E = 31) := by
      rcases hW with ⟨h2, _⟩ | ⟨_, h3, h4, h5⟩ | ⟨_, h3, h4, h5, h6⟩ | ⟨_, h3, h4, h5, h6⟩
      · exact absurd h1 h2
      · exact .inr (.inr ⟨by rw [hd]; exact h5, h4, h3⟩)
      · exact .inr (.inl ⟨by rw [hd]; exact h5, by rw [hd]; exact h6, h4, h3⟩)
      · rw [← hd] at h4
        exact .inl ⟨h4 ▸ h5, h4 ▸ h6, h4, h3⟩
    have hl := get58 h1
    have H1 := Lib.hid h1
    have HD := Lib.hid hd
    have HL := Lib.hid hl
    have HXX := Lib.hid hx
    clear hW h1 hd hl hx
    go_enter Tryd.func8, Tryd.ntmps8
    go_wp2_with fail
    refine (pget_any _ _ _ ys _ _ hn hc (HO.out.alloc _) (HE.out.1.alloc _)).mono ?_; rintro e w1 ⟨v1, rfl, o, b1⟩
    rw [H1.out]
    obtain ⟨A1, c1, rfl, l1, s1⟩ := o.form HL.out
    have S1 := Lib.hid s1
    have Y1 := Lib.hid (kept_below (hd_new w) b1)
    have B1 : Hid (Below w.heap.size w w1) := bthen (balloc _ _) b1
    clear o b1 s1
    go_wp2_with fail
    refine (read_hd _ _ _ d _ HD.out S1.out (HE.out.below B1.out)).mono ?_; rintro e w2 ⟨rfl, b2⟩
    have Y2 := Lib.hid (kept_below (kept_below Y1.out b2) (balloc w2 (.cells #[.bool d.u, .int .i64 d.l, .int .u64 (d.g : Int), .int .u32 (d.s.toNat : Int), .int .u32 (d.r.toNat : Int)] 25)))
    have X2 := Lib.hid (heap_alloc_new w2 (.cells #[.bool d.u, .int .i64 d.l, .int .u64 (d.g : Int), .int .u32 (d.s.toNat : Int), .int .u32 (d.r.toNat : Int)] 25))
    have B2 : Hid (Below w.heap.size w (w2.alloc (.cells #[.bool d.u, .int .i64 d.l, .int .u64 (d.g : Int), .int .u32 (d.s.toNat : Int), .int .u32 (d.r.toNat : Int)] 25))) := bthen (bthen B1.out b2) (balloc _ _)
    clear b2 Y1 S1
    rcases HXX.out with ⟨hm, hs, rfl, rfl⟩ | ⟨hm, hs, rfl, rfl⟩ | ⟨hm, rfl, rfl⟩
    · have HM := Lib.hid hm
      have HS := Lib.hid hs
      clear hm hs
      go_wp2_with fail
      refine (hdput_ok p _ HM.out (HE.out.below B2.out)).mono ?_; rintro e w3 ⟨v3, rfl, o3, b3⟩
      rw [HS.out] at o3
      obtain ⟨A3, c3, rfl, l3, s3⟩ := o3.form (n := 64) (by rw [← HS.out]; exact sect_length p)
      have S3 := Lib.hid s3
      have Y3 := Lib.hid (kept_below Y2.out b3)
      have X3 := Lib.hid (kept_below X2.out b3)
      have B3 : Hid (Below w.heap.size w w3) := bthen B2.out b3
      clear b3 s3 o3
      go_wp2_with fail
      refine (equal_any _ _ _ _ _ _ ys ys true _ S3.out (HO.out.below B3.out) (by simp)).mono ?_; rintro e w' ⟨rfl, rfl⟩
      go_wp2_with (first
        | ((with_reducible apply L_loadHd); exact rfl; exact X3.out; exact rfl)
        | ((with_reducible apply L_storeRow (N := 5) info_hd); exact rfl; exact rfl; exact Y3.out; exact rfl; exact rfl; (simp [Value.oneCell']); intro w4 h4 g4; have H4 := Lib.hid h4; have G4 := Lib.hid g4; clear h4 g4))
      refine bodyPost_ret (results_cell_tmp_row rfl _ _ _ _ rfl (run_loadVar_row _ _ _ _ _ _ _ H4.out Tryd.underlying25 rfl info_hd)) rfl ?_
      exact ⟨rfl, below_up B3.out G4.out (Nat.le_refl _)⟩
    · have HM := Lib.hid hm
      have HS := Lib.hid hs
      clear hm hs
      go_wp2_with fail
      refine (hdput_ok d _ HM.out (HE.out.below B2.out)).mono ?_; rintro e w3 ⟨v3, rfl, o3, b3⟩
      obtain ⟨A3, c3, rfl, l3, s3⟩ := o3.form (sect_length d)
      have S3 := Lib.hid s3
      have Y3 := Lib.hid (kept_below Y2.out b3)
      have B3 : Hid (Below w.heap.size w w3) := bthen B2.out b3
      clear b3 s3 o3
      go_wp2_with fail
      refine (equal_any _ _ _ _ _ _ (sect d) ys false _ S3.out (HO.out.below B3.out) (by simp [HS.out])).mono ?_; rintro e w' ⟨rfl, rfl⟩
      go_wp2_with ((with_reducible apply L_storeRow (N := 5) info_hd); exact rfl; exact rfl; exact Y3.out; exact rfl; exact rfl; (simp [Value.oneCell']); intro w4 h4 g4; have H4 := Lib.hid h4; have G4 := Lib.hid g4; clear h4 g4)
      refine bodyPost_ret (results_cell_tmp_row rfl _ _ _ _ rfl (run_loadVar_row _ _ _ _ _ _ _ H4.out Tryd.underlying25 rfl info_hd)) rfl ?_
      exact ⟨rfl, below_up B3.out G4.out (Nat.le_refl _)⟩
    · have HM := Lib.hid hm
      clear hm
      go_wp2_with fail
      refine (hdput_no d _ HM.out).mono ?_; rintro e w3 ⟨rfl, b3⟩
      have Y3 := Lib.hid (kept_below Y2.out b3)
      have B3 : Hid (Below w.heap.size w w3) := bthen B2.out b3
      clear b3
      go_wp2_with ((with_reducible apply L_storeRow (N := 5) info_hd); exact rfl; exact rfl; exact Y3.out; exact rfl; exact rfl; (simp [Value.oneCell']); intro w4 h4 g4; have H4 := Lib.hid h4; have G4 := Lib.hid g4; clear h4 g4)
      refine bodyPost_ret (results_cell_tmp_row rfl _ _ _ _ rfl (run_loadVar_row _ _ _ _ _ _ _ H4.out Tryd.underlying25 rfl info_hd)) rfl ?_
      exact ⟨rfl, below_up B3.out G4.out (Nat.le_refl _)⟩
  · have hp : p = zr ∧ E = getE ys 3 := by
      rcases hW with ⟨_, h3, h4⟩ | ⟨h2, _⟩ | ⟨h2, _⟩ | ⟨h2, _⟩
      · exact ⟨h4, h3⟩
      · exact absurd h2 h1
      · exact absurd h2 h1
      · exact absurd h2 h1
    obtain ⟨rfl, h2⟩ := hp
    have hE0 : ¬ E = 0 := by rw [h2]; exact h1
    have H2 := Lib.hid h2.symm
    clear h1 h2 hW
    go_enter Tryd.func8, Tryd.ntmps8
    go_wp2_with fail
    refine (pget_any _ _ _ ys _ _ hn hc (HO.out.alloc _) (HE.out.1.alloc _)).mono ?_; rintro e w1 ⟨v1, rfl, o, b⟩
    rw [H2.out]
    have Y1 := Lib.hid (kept_below (hd_new w) b)
    have B1 : Hid (Below w.heap.size w w1) := bthen (balloc _ _) b
    clear o b
    go_wp2_with ((with_reducible apply L_storeRow (N := 5) info_hd); exact rfl; exact rfl; exact Y1.out; exact rfl; exact rfl; (simp [Value.oneCell']); intro w3 h3 g3; have H3 := Lib.hid h3; have G3 := Lib.hid g3; clear h3 g3)
    refine bodyPost_ret (results_cell_tmp_row rfl _ _ _ _ rfl (run_loadVar_row _ _ _ _ _ _ _ H3.out Tryd.underlying25 rfl info_hd)) rfl ?_
    exact ⟨rfl, below_up B1.out G3.out (Nat.le_refl _)⟩
end Go.Proofs.YtheflapmjopemaaDoor.W.Hd
