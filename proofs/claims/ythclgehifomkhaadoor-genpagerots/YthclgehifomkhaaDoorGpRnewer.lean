/-
  Contracts of the reference's Get and Newer, by what they tell. No conditions.
-/
import Derived.Test.YthclgehifomkhaaDoorGpRgetW
namespace Go.Proofs.YthclgehifomkhaaDoor.W
open Go.RowKit Oc
set_option linter.unusedVariables false

theorem Like.symm {p d : Gp} (h : Like p d) : Like d p := ⟨h.1.symm, h.2.1.symm, fun i hi => (h.2.2 i hi).symm⟩
set_option maxHeartbeats 2000000 in
theorem rgget_any (A : Option Addr) (n c : Nat) (ys : List UInt8) (no : Int) (p : Gp) (E : Int) (w : World) (hn : n ≤ 1000000) (hc : n ≤ c) (ho : Oct w A n ys) (hW : GWay ys no p E) :
    Calls Tryd.prog 11 #[.slice A n c, .int .i64 no] w fun e w' => e = .returned (.tuple #[(.agg #[.int .i64 p.no, .int .u64 (p.v : Int), .int .u64 (p.g 0 : Int), .int .u64 (p.g 1 : Int), .int .u64 (p.g 2 : Int), .int .u64 (p.g 3 : Int), .int .u64 (p.g 4 : Int), .int .u64 (p.g 5 : Int)]), .int .i64 E]) ∧ Below w.heap.size w w' := by
  rcases hW with ⟨h1, h2, h3⟩ | ⟨h1, h2, h3, h4⟩ | ⟨h1, h2, h3, h4, h5⟩
  · subst h3
    have HO := Lib.hid ho
    have hE0 : ¬ E = 0 := by rw [h2]; exact h1
    have H2 := Lib.hid h2.symm
    clear h1 h2 ho
    go_enter Tryd.func11, Tryd.ntmps11
    go_wp2_with fail
    refine (rget2_any _ _ _ ys _ _ hn hc (HO.out.alloc _)).mono ?_; rintro e w1 ⟨A1, m1, c1, hmc, rfl, o, kk, hw⟩
    rw [H2.out]
    have Y1 := Lib.hid (gp_new2 (o := .cells #[] 0) hw)
    have B1 : Hid (Below w.heap.size w w1) := by show Below _ _ _; rw [hw]; exact below_drewN (balloc _ _) kk
    clear o hw
    go_wp2_with ((with_reducible apply L_storeRow (N := 8) info_gp); exact rfl; exact rfl; exact Y1.out; exact rfl; exact rfl; (simp [Value.oneCell']); intro w3 h3 g3; have H3 := Lib.hid h3; have G3 := Lib.hid g3; clear h3 g3)
    refine bodyPost_ret (results_cell_tmp_row rfl _ _ _ _ rfl (run_loadVar_row _ _ _ _ _ _ _ H3.out Tryd.underlying25 rfl info_gp)) rfl ?_
    exact ⟨rfl, below_up B1.out G3.out (Nat.le_refl _)⟩
  · subst h3 h2
    obtain ⟨d, hd⟩ : ∃ d, d = dec (getL ys 1) := ⟨_, rfl⟩
    rw [← hd] at h4
    by_cases hm : MayBe d
    · exact rgget_dec A n c ys no d w hn hc ho h1 hd true ⟨fun _ => hm, fun _ => rfl⟩ _ 31 (.inr (.inl ⟨rfl, fun h => h4 ⟨hm, h⟩, rfl, rfl⟩))
    · exact rgget_dec A n c ys no d w hn hc ho h1 hd false ⟨fun h => (by cases h), fun h => absurd h hm⟩ _ 31 (.inr (.inr ⟨rfl, rfl, rfl⟩))
  · subst h2 h5
    obtain ⟨d, hd⟩ : ∃ d, d = dec (getL ys 1) := ⟨_, rfl⟩
    rw [← hd] at h3
    exact rgget_dec A n c ys p.no d w hn hc ho h1 hd true ⟨fun _ => h3.symm.may h4, fun _ => rfl⟩ _ 0 (.inl ⟨rfl, h3.1.symm, like_val h3, rfl⟩)

set_option maxHeartbeats 2000000 in
theorem rnewer1 (A1 A2 : Option Addr) (n1 c1 n2 c2 : Nat) (ys zs : List UInt8) (no : Int) (p q : Gp) (E F : Int) (w : World) (hn1 : n1 ≤ 1000000) (hc1 : n1 ≤ c1) (hn2 : n2 ≤ 1000000) (hc2 : n2 ≤ c2) (ho1 : Oct w A1 n1 ys) (ho2 : Oct w A2 n2 zs) (h1 : GWay ys no p E) (h2 : GWay zs no q F) (hE : E = 0) (hF : ¬ F = 0) :
    Calls Tryd.prog 13 #[.slice A1 n1 c1, .slice A2 n2 c2, .int .i64 no] w fun e w' => e = .returned (.tuple #[(.agg #[.int .i64 p.no, .int .u64 (p.v : Int), .int .u64 (p.g 0 : Int), .int .u64 (p.g 1 : Int), .int .u64 (p.g 2 : Int), .int .u64 (p.g 3 : Int), .int .u64 (p.g 4 : Int), .int .u64 (p.g 5 : Int)]), .int .i64 0, .bool true]) ∧ Below w.heap.size w w' := by
  have O1 := Lib.hid ho1
  have O2 := Lib.hid ho2
  have H1 := Lib.hid h1
  have H2 := Lib.hid h2
  clear ho1 ho2 h1 h2
  subst hE
  go_enter Tryd.func13, Tryd.ntmps13
  go_wp2_with fail
  refine (rgget_any _ _ _ ys _ p _ _ hn1 hc1 (O1.out.alloc _) H1.out).mono ?_; rintro e w1 ⟨rfl, b1⟩
  have Y1 := Lib.hid (kept_below (gp_new w) b1)
  have B1 : Hid (Below w.heap.size w w1) := bthen (balloc _ _) b1
  clear b1
  go_wp2_with fail
  refine (rgget_any _ _ _ zs _ q _ _ hn2 hc2 ((O2.out.below B1.out).alloc _) H2.out).mono ?_; rintro e w2 ⟨rfl, b2⟩
  have Y2 := Lib.hid (kept_below (kept_below Y1.out (balloc w1 (.cells #[.int .i64 p.no, .int .u64 (p.v : Int), .int .u64 (p.g 0 : Int), .int .u64 (p.g 1 : Int), .int .u64 (p.g 2 : Int), .int .u64 (p.g 3 : Int), .int .u64 (p.g 4 : Int), .int .u64 (p.g 5 : Int)] 25))) b2)
  have X2 := Lib.hid (kept_below (heap_alloc_new w1 (.cells #[.int .i64 p.no, .int .u64 (p.v : Int), .int .u64 (p.g 0 : Int), .int .u64 (p.g 1 : Int), .int .u64 (p.g 2 : Int), .int .u64 (p.g 3 : Int), .int .u64 (p.g 4 : Int), .int .u64 (p.g 5 : Int)] 25)) b2)
  have B2 : Hid (Below w.heap.size w w2) := bthen (bthen B1.out (balloc w1 (.cells #[.int .i64 p.no, .int .u64 (p.v : Int), .int .u64 (p.g 0 : Int), .int .u64 (p.g 1 : Int), .int .u64 (p.g 2 : Int), .int .u64 (p.g 3 : Int), .int .u64 (p.g 4 : Int), .int .u64 (p.g 5 : Int)] 25))) b2
  have hne : w1.heap.size ≠ w2.heap.size := by have := (Array.getElem?_eq_some_iff.1 X2.out).1; omega
  clear b2
  have Y3 := Lib.hid (kept_below Y2.out (balloc w2 (.cells #[.int .i64 q.no, .int .u64 (q.v : Int), .int .u64 (q.g 0 : Int), .int .u64 (q.g 1 : Int), .int .u64 (q.g 2 : Int), .int .u64 (q.g 3 : Int), .int .u64 (q.g 4 : Int), .int .u64 (q.g 5 : Int)] 25)))
  have B3 : Hid (Below w.heap.size w (w2.alloc (.cells #[.int .i64 q.no, .int .u64 (q.v : Int), .int .u64 (q.g 0 : Int), .int .u64 (q.g 1 : Int), .int .u64 (q.g 2 : Int), .int .u64 (q.g 3 : Int), .int .u64 (q.g 4 : Int), .int .u64 (q.g 5 : Int)] 25))) := bthen B2.out (balloc w2 (.cells #[.int .i64 q.no, .int .u64 (q.v : Int), .int .u64 (q.g 0 : Int), .int .u64 (q.g 1 : Int), .int .u64 (q.g 2 : Int), .int .u64 (q.g 3 : Int), .int .u64 (q.g 4 : Int), .int .u64 (q.g 5 : Int)] 25))
  have X3 := Lib.hid (kept_below X2.out (balloc w2 (.cells #[.int .i64 q.no, .int .u64 (q.v : Int), .int .u64 (q.g 0 : Int), .int .u64 (q.g 1 : Int), .int .u64 (q.g 2 : Int), .int .u64 (q.g 3 : Int), .int .u64 (q.g 4 : Int), .int .u64 (q.g 5 : Int)] 25)))
  obtain ⟨x0, x1, x2, x3, x4, x5, x6, x7⟩ := gp_cells X3.out
  go_wp2_with (first
    | ((with_reducible apply L_loadGp); exact rfl; exact X3.out; exact rfl)
    | ((with_reducible apply L_storeRow (N := 8) info_gp); exact rfl; exact rfl; exact Y3.out; exact rfl; exact rfl; (simp [Value.oneCell']); intro w4 h4 g4; have H4 := Lib.hid h4; have G4 := Lib.hid g4; clear h4 g4))
  refine bodyPost_ret (results_cell_tmp2_row rfl _ _ _ _ rfl (run_loadVar_row _ _ _ _ _ _ _ H4.out Tryd.underlying25 rfl info_gp)) rfl ?_
  exact ⟨rfl, below_up B3.out G4.out (Nat.le_refl _)⟩

set_option maxHeartbeats 2000000 in
theorem rnewer2 (A1 A2 : Option Addr) (n1 c1 n2 c2 : Nat) (ys zs : List UInt8) (no : Int) (p q : Gp) (E F : Int) (w : World) (hn1 : n1 ≤ 1000000) (hc1 : n1 ≤ c1) (hn2 : n2 ≤ 1000000) (hc2 : n2 ≤ c2) (ho1 : Oct w A1 n1 ys) (ho2 : Oct w A2 n2 zs) (h1 : GWay ys no p E) (h2 : GWay zs no q F) (hE : E = 0) (hF : F = 0) (hle : q.v ≤ p.v) :
    Calls Tryd.prog 13 #[.slice A1 n1 c1, .slice A2 n2 c2, .int .i64 no] w fun e w' => e = .returned (.tuple #[(.agg #[.int .i64 p.no, .int .u64 (p.v : Int), .int .u64 (p.g 0 : Int), .int .u64 (p.g 1 : Int), .int .u64 (p.g 2 : Int), .int .u64 (p.g 3 : Int), .int .u64 (p.g 4 : Int), .int .u64 (p.g 5 : Int)]), .int .i64 0, .bool true]) ∧ Below w.heap.size w w' := by
  have O1 := Lib.hid ho1
  have O2 := Lib.hid ho2
  have H1 := Lib.hid h1
  have H2 := Lib.hid h2
  clear ho1 ho2 h1 h2
  subst hE
  subst hF
  go_enter Tryd.func13, Tryd.ntmps13
  go_wp2_with fail
  refine (rgget_any _ _ _ ys _ p _ _ hn1 hc1 (O1.out.alloc _) H1.out).mono ?_; rintro e w1 ⟨rfl, b1⟩
  have Y1 := Lib.hid (kept_below (gp_new w) b1)
  have B1 : Hid (Below w.heap.size w w1) := bthen (balloc _ _) b1
  clear b1
  go_wp2_with fail
  refine (rgget_any _ _ _ zs _ q _ _ hn2 hc2 ((O2.out.below B1.out).alloc _) H2.out).mono ?_; rintro e w2 ⟨rfl, b2⟩
  have Y2 := Lib.hid (kept_below (kept_below Y1.out (balloc w1 (.cells #[.int .i64 p.no, .int .u64 (p.v : Int), .int .u64 (p.g 0 : Int), .int .u64 (p.g 1 : Int), .int .u64 (p.g 2 : Int), .int .u64 (p.g 3 : Int), .int .u64 (p.g 4 : Int), .int .u64 (p.g 5 : Int)] 25))) b2)
  have X2 := Lib.hid (kept_below (heap_alloc_new w1 (.cells #[.int .i64 p.no, .int .u64 (p.v : Int), .int .u64 (p.g 0 : Int), .int .u64 (p.g 1 : Int), .int .u64 (p.g 2 : Int), .int .u64 (p.g 3 : Int), .int .u64 (p.g 4 : Int), .int .u64 (p.g 5 : Int)] 25)) b2)
  have B2 : Hid (Below w.heap.size w w2) := bthen (bthen B1.out (balloc w1 (.cells #[.int .i64 p.no, .int .u64 (p.v : Int), .int .u64 (p.g 0 : Int), .int .u64 (p.g 1 : Int), .int .u64 (p.g 2 : Int), .int .u64 (p.g 3 : Int), .int .u64 (p.g 4 : Int), .int .u64 (p.g 5 : Int)] 25))) b2
  have hne : w1.heap.size ≠ w2.heap.size := by have := (Array.getElem?_eq_some_iff.1 X2.out).1; omega
  clear b2
  have Y3 := Lib.hid (kept_below Y2.out (balloc w2 (.cells #[.int .i64 q.no, .int .u64 (q.v : Int), .int .u64 (q.g 0 : Int), .int .u64 (q.g 1 : Int), .int .u64 (q.g 2 : Int), .int .u64 (q.g 3 : Int), .int .u64 (q.g 4 : Int), .int .u64 (q.g 5 : Int)] 25)))
  have B3 : Hid (Below w.heap.size w (w2.alloc (.cells #[.int .i64 q.no, .int .u64 (q.v : Int), .int .u64 (q.g 0 : Int), .int .u64 (q.g 1 : Int), .int .u64 (q.g 2 : Int), .int .u64 (q.g 3 : Int), .int .u64 (q.g 4 : Int), .int .u64 (q.g 5 : Int)] 25))) := bthen B2.out (balloc w2 (.cells #[.int .i64 q.no, .int .u64 (q.v : Int), .int .u64 (q.g 0 : Int), .int .u64 (q.g 1 : Int), .int .u64 (q.g 2 : Int), .int .u64 (q.g 3 : Int), .int .u64 (q.g 4 : Int), .int .u64 (q.g 5 : Int)] 25))
  have X3 := Lib.hid (kept_below X2.out (balloc w2 (.cells #[.int .i64 q.no, .int .u64 (q.v : Int), .int .u64 (q.g 0 : Int), .int .u64 (q.g 1 : Int), .int .u64 (q.g 2 : Int), .int .u64 (q.g 3 : Int), .int .u64 (q.g 4 : Int), .int .u64 (q.g 5 : Int)] 25)))
  obtain ⟨x0, x1, x2, x3, x4, x5, x6, x7⟩ := gp_cells X3.out
  go_wp2_with (first
    | ((with_reducible apply L_loadGp); exact rfl; exact X3.out; exact rfl)
    | ((with_reducible apply L_storeRow (N := 8) info_gp); exact rfl; exact rfl; exact Y3.out; exact rfl; exact rfl; (simp [Value.oneCell']); intro w4 h4 g4; have H4 := Lib.hid h4; have G4 := Lib.hid g4; clear h4 g4))
  refine bodyPost_ret (results_cell_tmp2_row rfl _ _ _ _ rfl (run_loadVar_row _ _ _ _ _ _ _ H4.out Tryd.underlying25 rfl info_gp)) rfl ?_
  exact ⟨rfl, below_up B3.out G4.out (Nat.le_refl _)⟩

set_option maxHeartbeats 2000000 in
theorem rnewer3 (A1 A2 : Option Addr) (n1 c1 n2 c2 : Nat) (ys zs : List UInt8) (no : Int) (p q : Gp) (E F : Int) (w : World) (hn1 : n1 ≤ 1000000) (hc1 : n1 ≤ c1) (hn2 : n2 ≤ 1000000) (hc2 : n2 ≤ c2) (ho1 : Oct w A1 n1 ys) (ho2 : Oct w A2 n2 zs) (h1 : GWay ys no p E) (h2 : GWay zs no q F) (hE : E = 0) (hF : F = 0) (hlt : p.v < q.v) :
    Calls Tryd.prog 13 #[.slice A1 n1 c1, .slice A2 n2 c2, .int .i64 no] w fun e w' => e = .returned (.tuple #[(.agg #[.int .i64 q.no, .int .u64 (q.v : Int), .int .u64 (q.g 0 : Int), .int .u64 (q.g 1 : Int), .int .u64 (q.g 2 : Int), .int .u64 (q.g 3 : Int), .int .u64 (q.g 4 : Int), .int .u64 (q.g 5 : Int)]), .int .i64 1, .bool true]) ∧ Below w.heap.size w w' := by
  have O1 := Lib.hid ho1
  have O2 := Lib.hid ho2
  have H1 := Lib.hid h1
  have H2 := Lib.hid h2
  clear ho1 ho2 h1 h2
  subst hE
  subst hF
  go_enter Tryd.func13, Tryd.ntmps13
  go_wp2_with fail
  refine (rgget_any _ _ _ ys _ p _ _ hn1 hc1 (O1.out.alloc _) H1.out).mono ?_; rintro e w1 ⟨rfl, b1⟩
  have Y1 := Lib.hid (kept_below (gp_new w) b1)
  have B1 : Hid (Below w.heap.size w w1) := bthen (balloc _ _) b1
  clear b1
  go_wp2_with fail
  refine (rgget_any _ _ _ zs _ q _ _ hn2 hc2 ((O2.out.below B1.out).alloc _) H2.out).mono ?_; rintro e w2 ⟨rfl, b2⟩
  have Y2 := Lib.hid (kept_below (kept_below Y1.out (balloc w1 (.cells #[.int .i64 p.no, .int .u64 (p.v : Int), .int .u64 (p.g 0 : Int), .int .u64 (p.g 1 : Int), .int .u64 (p.g 2 : Int), .int .u64 (p.g 3 : Int), .int .u64 (p.g 4 : Int), .int .u64 (p.g 5 : Int)] 25))) b2)
  have X2 := Lib.hid (kept_below (heap_alloc_new w1 (.cells #[.int .i64 p.no, .int .u64 (p.v : Int), .int .u64 (p.g 0 : Int), .int .u64 (p.g 1 : Int), .int .u64 (p.g 2 : Int), .int .u64 (p.g 3 : Int), .int .u64 (p.g 4 : Int), .int .u64 (p.g 5 : Int)] 25)) b2)
  have B2 : Hid (Below w.heap.size w w2) := bthen (bthen B1.out (balloc w1 (.cells #[.int .i64 p.no, .int .u64 (p.v : Int), .int .u64 (p.g 0 : Int), .int .u64 (p.g 1 : Int), .int .u64 (p.g 2 : Int), .int .u64 (p.g 3 : Int), .int .u64 (p.g 4 : Int), .int .u64 (p.g 5 : Int)] 25))) b2
  have hne : w1.heap.size ≠ w2.heap.size := by have := (Array.getElem?_eq_some_iff.1 X2.out).1; omega
  clear b2
  have Y3 := Lib.hid (kept_below Y2.out (balloc w2 (.cells #[.int .i64 q.no, .int .u64 (q.v : Int), .int .u64 (q.g 0 : Int), .int .u64 (q.g 1 : Int), .int .u64 (q.g 2 : Int), .int .u64 (q.g 3 : Int), .int .u64 (q.g 4 : Int), .int .u64 (q.g 5 : Int)] 25)))
  have B3 : Hid (Below w.heap.size w (w2.alloc (.cells #[.int .i64 q.no, .int .u64 (q.v : Int), .int .u64 (q.g 0 : Int), .int .u64 (q.g 1 : Int), .int .u64 (q.g 2 : Int), .int .u64 (q.g 3 : Int), .int .u64 (q.g 4 : Int), .int .u64 (q.g 5 : Int)] 25))) := bthen B2.out (balloc w2 (.cells #[.int .i64 q.no, .int .u64 (q.v : Int), .int .u64 (q.g 0 : Int), .int .u64 (q.g 1 : Int), .int .u64 (q.g 2 : Int), .int .u64 (q.g 3 : Int), .int .u64 (q.g 4 : Int), .int .u64 (q.g 5 : Int)] 25))
  have X3 := Lib.hid (kept_below X2.out (balloc w2 (.cells #[.int .i64 q.no, .int .u64 (q.v : Int), .int .u64 (q.g 0 : Int), .int .u64 (q.g 1 : Int), .int .u64 (q.g 2 : Int), .int .u64 (q.g 3 : Int), .int .u64 (q.g 4 : Int), .int .u64 (q.g 5 : Int)] 25)))
  obtain ⟨x0, x1, x2, x3, x4, x5, x6, x7⟩ := gp_cells X3.out
  go_wp2_with (first
    | ((with_reducible apply L_loadGp); exact rfl; exact X3.out; exact rfl)
    | ((with_reducible apply L_storeRow (N := 8) info_gp); exact rfl; exact rfl; exact Y3.out; exact rfl; exact rfl; (simp [Value.oneCell']); intro w4 h4 g4; have H4 := Lib.hid h4; have G4 := Lib.hid g4; clear h4 g4))
  refine bodyPost_ret (results_cell_tmp2_row rfl _ _ _ _ rfl (run_loadVar_row _ _ _ _ _ _ _ H4.out Tryd.underlying25 rfl info_gp)) rfl ?_
  exact ⟨rfl, below_up B3.out G4.out (Nat.le_refl _)⟩

set_option maxHeartbeats 2000000 in
theorem rnewer4 (A1 A2 : Option Addr) (n1 c1 n2 c2 : Nat) (ys zs : List UInt8) (no : Int) (p q : Gp) (E F : Int) (w : World) (hn1 : n1 ≤ 1000000) (hc1 : n1 ≤ c1) (hn2 : n2 ≤ 1000000) (hc2 : n2 ≤ c2) (ho1 : Oct w A1 n1 ys) (ho2 : Oct w A2 n2 zs) (h1 : GWay ys no p E) (h2 : GWay zs no q F) (hE : ¬ E = 0) (hF : F = 0) :
    Calls Tryd.prog 13 #[.slice A1 n1 c1, .slice A2 n2 c2, .int .i64 no] w fun e w' => e = .returned (.tuple #[(.agg #[.int .i64 q.no, .int .u64 (q.v : Int), .int .u64 (q.g 0 : Int), .int .u64 (q.g 1 : Int), .int .u64 (q.g 2 : Int), .int .u64 (q.g 3 : Int), .int .u64 (q.g 4 : Int), .int .u64 (q.g 5 : Int)]), .int .i64 1, .bool true]) ∧ Below w.heap.size w w' := by
  have O1 := Lib.hid ho1
  have O2 := Lib.hid ho2
  have H1 := Lib.hid h1
  have H2 := Lib.hid h2
  clear ho1 ho2 h1 h2
  subst hF
  go_enter Tryd.func13, Tryd.ntmps13
  go_wp2_with fail
  refine (rgget_any _ _ _ ys _ p _ _ hn1 hc1 (O1.out.alloc _) H1.out).mono ?_; rintro e w1 ⟨rfl, b1⟩
  have Y1 := Lib.hid (kept_below (gp_new w) b1)
  have B1 : Hid (Below w.heap.size w w1) := bthen (balloc _ _) b1
  clear b1
  go_wp2_with fail
  refine (rgget_any _ _ _ zs _ q _ _ hn2 hc2 ((O2.out.below B1.out).alloc _) H2.out).mono ?_; rintro e w2 ⟨rfl, b2⟩
  have Y2 := Lib.hid (kept_below (kept_below Y1.out (balloc w1 (.cells #[.int .i64 p.no, .int .u64 (p.v : Int), .int .u64 (p.g 0 : Int), .int .u64 (p.g 1 : Int), .int .u64 (p.g 2 : Int), .int .u64 (p.g 3 : Int), .int .u64 (p.g 4 : Int), .int .u64 (p.g 5 : Int)] 25))) b2)
  have X2 := Lib.hid (kept_below (heap_alloc_new w1 (.cells #[.int .i64 p.no, .int .u64 (p.v : Int), .int .u64 (p.g 0 : Int), .int .u64 (p.g 1 : Int), .int .u64 (p.g 2 : Int), .int .u64 (p.g 3 : Int), .int .u64 (p.g 4 : Int), .int .u64 (p.g 5 : Int)] 25)) b2)
  have B2 : Hid (Below w.heap.size w w2) := bthen (bthen B1.out (balloc w1 (.cells #[.int .i64 p.no, .int .u64 (p.v : Int), .int .u64 (p.g 0 : Int), .int .u64 (p.g 1 : Int), .int .u64 (p.g 2 : Int), .int .u64 (p.g 3 : Int), .int .u64 (p.g 4 : Int), .int .u64 (p.g 5 : Int)] 25))) b2
  have hne : w1.heap.size ≠ w2.heap.size := by have := (Array.getElem?_eq_some_iff.1 X2.out).1; omega
  clear b2
  have Y3 := Lib.hid (kept_below Y2.out (balloc w2 (.cells #[.int .i64 q.no, .int .u64 (q.v : Int), .int .u64 (q.g 0 : Int), .int .u64 (q.g 1 : Int), .int .u64 (q.g 2 : Int), .int .u64 (q.g 3 : Int), .int .u64 (q.g 4 : Int), .int .u64 (q.g 5 : Int)] 25)))
  have B3 : Hid (Below w.heap.size w (w2.alloc (.cells #[.int .i64 q.no, .int .u64 (q.v : Int), .int .u64 (q.g 0 : Int), .int .u64 (q.g 1 : Int), .int .u64 (q.g 2 : Int), .int .u64 (q.g 3 : Int), .int .u64 (q.g 4 : Int), .int .u64 (q.g 5 : Int)] 25))) := bthen B2.out (balloc w2 (.cells #[.int .i64 q.no, .int .u64 (q.v : Int), .int .u64 (q.g 0 : Int), .int .u64 (q.g 1 : Int), .int .u64 (q.g 2 : Int), .int .u64 (q.g 3 : Int), .int .u64 (q.g 4 : Int), .int .u64 (q.g 5 : Int)] 25))
  have X3 := Lib.hid (kept_below X2.out (balloc w2 (.cells #[.int .i64 q.no, .int .u64 (q.v : Int), .int .u64 (q.g 0 : Int), .int .u64 (q.g 1 : Int), .int .u64 (q.g 2 : Int), .int .u64 (q.g 3 : Int), .int .u64 (q.g 4 : Int), .int .u64 (q.g 5 : Int)] 25)))
  obtain ⟨x0, x1, x2, x3, x4, x5, x6, x7⟩ := gp_cells X3.out
  go_wp2_with (first
    | ((with_reducible apply L_loadGp); exact rfl; exact X3.out; exact rfl)
    | ((with_reducible apply L_storeRow (N := 8) info_gp); exact rfl; exact rfl; exact Y3.out; exact rfl; exact rfl; (simp [Value.oneCell']); intro w4 h4 g4; have H4 := Lib.hid h4; have G4 := Lib.hid g4; clear h4 g4))
  refine bodyPost_ret (results_cell_tmp2_row rfl _ _ _ _ rfl (run_loadVar_row _ _ _ _ _ _ _ H4.out Tryd.underlying25 rfl info_gp)) rfl ?_
  exact ⟨rfl, below_up B3.out G4.out (Nat.le_refl _)⟩

set_option maxHeartbeats 2000000 in
theorem rnewer5 (A1 A2 : Option Addr) (n1 c1 n2 c2 : Nat) (ys zs : List UInt8) (no : Int) (p q : Gp) (E F : Int) (w : World) (hn1 : n1 ≤ 1000000) (hc1 : n1 ≤ c1) (hn2 : n2 ≤ 1000000) (hc2 : n2 ≤ c2) (ho1 : Oct w A1 n1 ys) (ho2 : Oct w A2 n2 zs) (h1 : GWay ys no p E) (h2 : GWay zs no q F) (hE : ¬ E = 0) (hF : ¬ F = 0) :
    Calls Tryd.prog 13 #[.slice A1 n1 c1, .slice A2 n2 c2, .int .i64 no] w fun e w' => e = .returned (.tuple #[(.agg #[.int .i64 zp.no, .int .u64 (zp.v : Int), .int .u64 (zp.g 0 : Int), .int .u64 (zp.g 1 : Int), .int .u64 (zp.g 2 : Int), .int .u64 (zp.g 3 : Int), .int .u64 (zp.g 4 : Int), .int .u64 (zp.g 5 : Int)]), .int .i64 0, .bool false]) ∧ Below w.heap.size w w' := by
  have O1 := Lib.hid ho1
  have O2 := Lib.hid ho2
  have H1 := Lib.hid h1
  have H2 := Lib.hid h2
  clear ho1 ho2 h1 h2
  go_enter Tryd.func13, Tryd.ntmps13
  go_wp2_with fail
  refine (rgget_any _ _ _ ys _ p _ _ hn1 hc1 (O1.out.alloc _) H1.out).mono ?_; rintro e w1 ⟨rfl, b1⟩
  have Y1 := Lib.hid (kept_below (gp_new w) b1)
  have B1 : Hid (Below w.heap.size w w1) := bthen (balloc _ _) b1
  clear b1
  go_wp2_with fail
  refine (rgget_any _ _ _ zs _ q _ _ hn2 hc2 ((O2.out.below B1.out).alloc _) H2.out).mono ?_; rintro e w2 ⟨rfl, b2⟩
  have Y2 := Lib.hid (kept_below (kept_below Y1.out (balloc w1 (.cells #[.int .i64 p.no, .int .u64 (p.v : Int), .int .u64 (p.g 0 : Int), .int .u64 (p.g 1 : Int), .int .u64 (p.g 2 : Int), .int .u64 (p.g 3 : Int), .int .u64 (p.g 4 : Int), .int .u64 (p.g 5 : Int)] 25))) b2)
  have X2 := Lib.hid (kept_below (heap_alloc_new w1 (.cells #[.int .i64 p.no, .int .u64 (p.v : Int), .int .u64 (p.g 0 : Int), .int .u64 (p.g 1 : Int), .int .u64 (p.g 2 : Int), .int .u64 (p.g 3 : Int), .int .u64 (p.g 4 : Int), .int .u64 (p.g 5 : Int)] 25)) b2)
  have B2 : Hid (Below w.heap.size w w2) := bthen (bthen B1.out (balloc w1 (.cells #[.int .i64 p.no, .int .u64 (p.v : Int), .int .u64 (p.g 0 : Int), .int .u64 (p.g 1 : Int), .int .u64 (p.g 2 : Int), .int .u64 (p.g 3 : Int), .int .u64 (p.g 4 : Int), .int .u64 (p.g 5 : Int)] 25))) b2
  have hne : w1.heap.size ≠ w2.heap.size := by have := (Array.getElem?_eq_some_iff.1 X2.out).1; omega
  clear b2
  have Y3 := Lib.hid (kept_below Y2.out (balloc w2 (.cells #[.int .i64 q.no, .int .u64 (q.v : Int), .int .u64 (q.g 0 : Int), .int .u64 (q.g 1 : Int), .int .u64 (q.g 2 : Int), .int .u64 (q.g 3 : Int), .int .u64 (q.g 4 : Int), .int .u64 (q.g 5 : Int)] 25)))
  have B3 : Hid (Below w.heap.size w (w2.alloc (.cells #[.int .i64 q.no, .int .u64 (q.v : Int), .int .u64 (q.g 0 : Int), .int .u64 (q.g 1 : Int), .int .u64 (q.g 2 : Int), .int .u64 (q.g 3 : Int), .int .u64 (q.g 4 : Int), .int .u64 (q.g 5 : Int)] 25))) := bthen B2.out (balloc w2 (.cells #[.int .i64 q.no, .int .u64 (q.v : Int), .int .u64 (q.g 0 : Int), .int .u64 (q.g 1 : Int), .int .u64 (q.g 2 : Int), .int .u64 (q.g 3 : Int), .int .u64 (q.g 4 : Int), .int .u64 (q.g 5 : Int)] 25))
  have X3 := Lib.hid (kept_below X2.out (balloc w2 (.cells #[.int .i64 q.no, .int .u64 (q.v : Int), .int .u64 (q.g 0 : Int), .int .u64 (q.g 1 : Int), .int .u64 (q.g 2 : Int), .int .u64 (q.g 3 : Int), .int .u64 (q.g 4 : Int), .int .u64 (q.g 5 : Int)] 25)))
  obtain ⟨x0, x1, x2, x3, x4, x5, x6, x7⟩ := gp_cells X3.out
  go_wp2_with (first
    | ((with_reducible apply L_loadGp); exact rfl; exact X3.out; exact rfl)
    | ((with_reducible apply L_storeRow (N := 8) info_gp); exact rfl; exact rfl; exact Y3.out; exact rfl; exact rfl; (simp [Value.oneCell']); intro w4 h4 g4; have H4 := Lib.hid h4; have G4 := Lib.hid g4; clear h4 g4))
  refine bodyPost_ret (results_cell_tmp2_row rfl _ _ _ _ rfl (run_loadVar_row _ _ _ _ _ _ _ H4.out Tryd.underlying25 rfl info_gp)) rfl ?_
  exact ⟨rfl, below_up B3.out G4.out (Nat.le_refl _)⟩

theorem rnewer_any (A1 A2 : Option Addr) (n1 c1 n2 c2 : Nat) (ys zs : List UInt8) (no : Int) (p q : Gp) (E F : Int) (x : Gp) (k : Int) (ok : Bool) (w : World) (hn1 : n1 ≤ 1000000) (hc1 : n1 ≤ c1) (hn2 : n2 ≤ 1000000) (hc2 : n2 ≤ c2) (ho1 : Oct w A1 n1 ys) (ho2 : Oct w A2 n2 zs) (h1 : GWay ys no p E) (h2 : GWay zs no q F) (hN : NWay p E q F x k ok) :
    Calls Tryd.prog 13 #[.slice A1 n1 c1, .slice A2 n2 c2, .int .i64 no] w fun e w' => e = .returned (.tuple #[(.agg #[.int .i64 x.no, .int .u64 (x.v : Int), .int .u64 (x.g 0 : Int), .int .u64 (x.g 1 : Int), .int .u64 (x.g 2 : Int), .int .u64 (x.g 3 : Int), .int .u64 (x.g 4 : Int), .int .u64 (x.g 5 : Int)]), .int .i64 k, .bool ok]) ∧ Below w.heap.size w w' := by
  rcases hN with ⟨a, b, h3, h4, rfl, rfl, rfl⟩ | ⟨a, b, h3, h4, rfl, rfl, rfl⟩ | ⟨a, b, h3, rfl, rfl, rfl⟩ | ⟨a, b, h3, h4, rfl, rfl, rfl⟩ | ⟨a, b, h3, h4, rfl, rfl, rfl⟩
  · exact rnewer1 A1 A2 n1 c1 n2 c2 ys zs no x q E F w hn1 hc1 hn2 hc2 ho1 ho2 h1 h2 a b
  · exact rnewer2 A1 A2 n1 c1 n2 c2 ys zs no x q E F w hn1 hc1 hn2 hc2 ho1 ho2 h1 h2 a b h4
  · exact rnewer3 A1 A2 n1 c1 n2 c2 ys zs no p x E F w hn1 hc1 hn2 hc2 ho1 ho2 h1 h2 a b h3
  · exact rnewer4 A1 A2 n1 c1 n2 c2 ys zs no p x E F w hn1 hc1 hn2 hc2 ho1 ho2 h1 h2 a b
  · exact rnewer5 A1 A2 n1 c1 n2 c2 ys zs no p q E F w hn1 hc1 hn2 hc2 ho1 ho2 h1 h2 a b
end Go.Proofs.YthclgehifomkhaaDoor.W
