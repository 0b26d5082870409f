/-
  Contracts of Get and Newer. No conditions.
-/
import Derived.Test.YthclgehifomkhaaDoorGpRead
import Derived.ChangeKeysEq
namespace Go.Proofs.YthclgehifomkhaaDoor.W
open Go.RowKit Oc
set_option linter.unusedVariables false

/-- a struct and a number come back; and one with two -/
theorem results_cell_tmp_row {fn : Func} {p u : Tmp} {ty : TypeId} (h : fn.results = #[.cell p ty, .tmp u]) (tmps : Array Value) (w : World) (g : Nat) (cs : Array Value)
    (hp : tmps.getD p undef = .pointer (some ⟨g, 0, none⟩)) (hl : (loadVar ty ⟨g, 0, none⟩).run Tryd.prog w = .ok (.agg cs) w) :
    (results fn tmps).run Tryd.prog w = .ok (.tuple #[.agg cs, tmps.getD u undef]) w := by
  rw [results_cell_tmp h, hp]
  simp [asAddr, hl, Result.andThen]
theorem results_cell_tmp2_row {fn : Func} {p u u2 : Tmp} {ty : TypeId} (h : fn.results = #[.cell p ty, .tmp u, .tmp u2]) (tmps : Array Value) (w : World) (g : Nat) (cs : Array Value)
    (hp : tmps.getD p undef = .pointer (some ⟨g, 0, none⟩)) (hl : (loadVar ty ⟨g, 0, none⟩).run Tryd.prog w = .ok (.agg cs) w) :
    (results fn tmps).run Tryd.prog w = .ok (.tuple #[.agg cs, tmps.getD u undef, tmps.getD u2 undef]) w := by
  have hp' : tmps[p]?.getD undef = .pointer (some ⟨g, 0, none⟩) := by simpa using hp
  simp only [results, h]
  simp [hp', asAddr, hl, Result.andThen]

theorem gp_new (w : World) : (w.alloc (.cells #[.int .i64 0, .int .u64 0, .int .u64 0, .int .u64 0, .int .u64 0, .int .u64 0, .int .u64 0, .int .u64 0] 25)).heap[w.heap.size]? = some (.cells #[.int .i64 0, .int .u64 0, .int .u64 0, .int .u64 0, .int .u64 0, .int .u64 0, .int .u64 0, .int .u64 0] 25 (0, 0)) := heap_alloc_new w _
theorem like_val {p d : Gp} (h : Like p d) : ((.agg #[.int .i64 p.no, .int .u64 (p.v : Int), .int .u64 (p.g 0 : Int), .int .u64 (p.g 1 : Int), .int .u64 (p.g 2 : Int), .int .u64 (p.g 3 : Int), .int .u64 (p.g 4 : Int), .int .u64 (p.g 5 : Int)]) : Value) = (.agg #[.int .i64 d.no, .int .u64 (d.v : Int), .int .u64 (d.g 0 : Int), .int .u64 (d.g 1 : Int), .int .u64 (d.g 2 : Int), .int .u64 (d.g 3 : Int), .int .u64 (d.g 4 : Int), .int .u64 (d.g 5 : Int)]) := by
  obtain ⟨h1, h2, h3⟩ := h
  rw [h1, h2, h3 0 (by omega), h3 1 (by omega), h3 2 (by omega), h3 3 (by omega), h3 4 (by omega), h3 5 (by omega)]
theorem get58 {ys : List UInt8} {k : Int} (h : getE ys k = 0) : (getL ys k).length = 58 := by
  obtain ⟨h1, h2, _⟩ := getE_zero h
  rw [getL_ok h, List.length_drop, openL_length h1 h2]

set_option maxHeartbeats 2000000 in
theorem gget_any (A : Option Addr) (n c : Nat) (ys : List UInt8) (no : Int) (p : Gp) (E : Int) (w : World) (hn : n ≤ 1000000) (hc : n ≤ c) (ho : Oct w A n ys) (he : Env w) (hW : GWay ys no p E) :
    Calls Tryd.prog 9 #[.slice A n c, .int .i64 no] w fun e w' => e = .returned (.tuple #[(.agg #[.int .i64 p.no, .int .u64 (p.v : Int), .int .u64 (p.g 0 : Int), .int .u64 (p.g 1 : Int), .int .u64 (p.g 2 : Int), .int .u64 (p.g 3 : Int), .int .u64 (p.g 4 : Int), .int .u64 (p.g 5 : Int)]), .int .i64 E]) ∧ Below w.heap.size w w' := by
  have HO := Lib.hid ho
  have HE := Lib.hid he
  clear ho he
  rcases hW with ⟨h1, h2, h3⟩ | ⟨h1, h2, h3, h4⟩ | ⟨h1, h2, h3, h4, h5⟩
  · subst h3
    have hE0 : ¬ E = 0 := by rw [h2]; exact h1
    have H2 := Lib.hid h2.symm
    clear h1 h2
    go_enter Tryd.func9, Tryd.ntmps9
    go_wp2_with fail
    refine (pget_any _ _ _ ys _ _ hn hc (HO.out.alloc _) (HE.out.alloc _)).mono ?_; rintro e w1 ⟨v1, rfl, o, b⟩
    rw [H2.out]
    have Y1 := Lib.hid (kept_below (gp_new w) b)
    have B1 : Hid (Below w.heap.size w w1) := bthen (balloc _ _) b
    clear o b
    go_wp2_with ((with_reducible apply L_storeRow (N := 8) info_gp); exact rfl; exact rfl; exact Y1.out; exact rfl; exact rfl; (simp [Value.oneCell']); intro w3 h3 g3; have H3 := Lib.hid h3; have G3 := Lib.hid g3; clear h3 g3)
    refine bodyPost_ret (results_cell_tmp_row rfl _ _ _ _ rfl (run_loadVar_row _ _ _ _ _ _ _ H3.out Tryd.underlying25 rfl info_gp)) rfl ?_
    exact ⟨rfl, below_up B1.out G3.out (Nat.le_refl _)⟩
  · subst h3 h2
    obtain ⟨d, hd⟩ : ∃ d, d = dec (getL ys 1) := ⟨_, rfl⟩
    rw [← hd] at h4
    have H1 := Lib.hid h1
    have HD := Lib.hid hd
    have HL := Lib.hid (get58 h1)
    have hb : ∃ b : Bool, (b = true ↔ MayBe d) := by
      by_cases h : MayBe d
      · exact ⟨true, fun _ => h, fun _ => rfl⟩
      · exact ⟨false, fun h2 => (by cases h2), fun h2 => absurd h2 h⟩
    obtain ⟨b, hb⟩ := hb
    have HB := Lib.hid hb
    have hno : b = true → ¬ d.no = no := fun h h2 => h4 ⟨hb.1 h, h2⟩
    have HN := Lib.hid hno
    clear h1 hd h4 hb hno
    go_enter Tryd.func9, Tryd.ntmps9
    go_wp2_with fail
    refine (pget_any _ _ _ ys _ _ hn hc (HO.out.alloc _) (HE.out.alloc _)).mono ?_; rintro e w1 ⟨v1, rfl, o, b1⟩
    rw [H1.out]
    obtain ⟨A1, c1, rfl, l1, s1⟩ := o.form HL.out
    have S1 := Lib.hid s1
    have Y1 := Lib.hid (kept_below (gp_new w) b1)
    have B1 : Hid (Below w.heap.size w w1) := bthen (balloc _ _) b1
    clear o b1 s1
    go_wp2_with fail
    refine (read_gp _ _ _ d _ HD.out S1.out).mono ?_; rintro e w2 ⟨rfl, b2⟩
    have Y2 := Lib.hid (kept_below Y1.out b2)
    have B2 : Hid (Below w.heap.size w w2) := bthen B1.out b2
    clear b2
    go_wp2_with fail
    refine (maybe_any d b _ HB.out).mono ?_; rintro e w3 ⟨rfl, b3⟩
    have Y3 := Lib.hid (kept_below (kept_below Y2.out (balloc _ _)) b3)
    have X3 := Lib.hid (kept_below (heap_alloc_new w2 (.cells #[.int .i64 d.no, .int .u64 (d.v : Int), .int .u64 (d.g 0 : Int), .int .u64 (d.g 1 : Int), .int .u64 (d.g 2 : Int), .int .u64 (d.g 3 : Int), .int .u64 (d.g 4 : Int), .int .u64 (d.g 5 : Int)] 25)) b3)
    have B3 : Hid (Below w.heap.size w w3) := bthen (bthen B2.out (balloc _ _)) b3
    clear b3
    cases b
    · go_wp2_with ((with_reducible apply L_storeRow (N := 8) info_gp); exact rfl; exact rfl; exact Y3.out; exact rfl; exact rfl; (simp [Value.oneCell']); intro w4 h4 g4; have H4 := Lib.hid h4; have G4 := Lib.hid g4; clear h4 g4)
      refine bodyPost_ret (results_cell_tmp_row rfl _ _ _ _ rfl (run_loadVar_row _ _ _ _ _ _ _ H4.out Tryd.underlying25 rfl info_gp)) rfl ?_
      exact ⟨rfl, below_up B3.out G4.out (Nat.le_refl _)⟩
    · have hne := HN.out rfl
      have hx := cell_of_row w3 w2.heap.size 0 _ _ _ X3.out
      have hx0 : w3.cell? ⟨w2.heap.size, 0, none⟩ = some (.int .i64 d.no) := hx
      clear hx
      go_wp2_with ((with_reducible apply L_storeRow (N := 8) info_gp); exact rfl; exact rfl; exact Y3.out; exact rfl; exact rfl; (simp [Value.oneCell']); intro w4 h4 g4; have H4 := Lib.hid h4; have G4 := Lib.hid g4; clear h4 g4)
      refine bodyPost_ret (results_cell_tmp_row rfl _ _ _ _ rfl (run_loadVar_row _ _ _ _ _ _ _ H4.out Tryd.underlying25 rfl info_gp)) rfl ?_
      exact ⟨rfl, below_up B3.out G4.out (Nat.le_refl _)⟩
  · subst h2 h5
    obtain ⟨d, hd⟩ : ∃ d, d = dec (getL ys 1) := ⟨_, rfl⟩
    rw [← hd] at h3
    have H1 := Lib.hid h1
    have HD := Lib.hid hd
    have HL := Lib.hid (get58 h1)
    have HM := Lib.hid h4
    have HV : Hid (((.agg #[.int .i64 d.no, .int .u64 (d.v : Int), .int .u64 (d.g 0 : Int), .int .u64 (d.g 1 : Int), .int .u64 (d.g 2 : Int), .int .u64 (d.g 3 : Int), .int .u64 (d.g 4 : Int), .int .u64 (d.g 5 : Int)]) : Value) = (.agg #[.int .i64 p.no, .int .u64 (p.v : Int), .int .u64 (p.g 0 : Int), .int .u64 (p.g 1 : Int), .int .u64 (p.g 2 : Int), .int .u64 (p.g 3 : Int), .int .u64 (p.g 4 : Int), .int .u64 (p.g 5 : Int)])) := (like_val h3).symm
    clear h1 hd h3 h4
    go_enter Tryd.func9, Tryd.ntmps9
    go_wp2_with fail
    refine (pget_any _ _ _ ys _ _ hn hc (HO.out.alloc _) (HE.out.alloc _)).mono ?_; rintro e w1 ⟨v1, rfl, o, b1⟩
    rw [H1.out]
    obtain ⟨A1, c1, rfl, l1, s1⟩ := o.form HL.out
    have S1 := Lib.hid s1
    have Y1 := Lib.hid (kept_below (gp_new w) b1)
    have B1 : Hid (Below w.heap.size w w1) := bthen (balloc _ _) b1
    clear o b1 s1
    go_wp2_with fail
    refine (read_gp _ _ _ d _ HD.out S1.out).mono ?_; rintro e w2 ⟨rfl, b2⟩
    rw [HV.out]
    have Y2 := Lib.hid (kept_below Y1.out b2)
    have B2 : Hid (Below w.heap.size w w2) := bthen B1.out b2
    clear b2
    go_wp2_with fail
    refine (maybe_any p true _ ⟨fun _ => HM.out, fun _ => rfl⟩).mono ?_; rintro e w3 ⟨rfl, b3⟩
    have Y3 := Lib.hid (kept_below (kept_below Y2.out (balloc _ _)) b3)
    have X3 := Lib.hid (kept_below (heap_alloc_new w2 (.cells #[.int .i64 p.no, .int .u64 (p.v : Int), .int .u64 (p.g 0 : Int), .int .u64 (p.g 1 : Int), .int .u64 (p.g 2 : Int), .int .u64 (p.g 3 : Int), .int .u64 (p.g 4 : Int), .int .u64 (p.g 5 : Int)] 25)) b3)
    have B3 : Hid (Below w.heap.size w w3) := bthen (bthen B2.out (balloc _ _)) b3
    clear b3
    have hx := cell_of_row w3 w2.heap.size 0 _ _ _ X3.out
    have hx0 : w3.cell? ⟨w2.heap.size, 0, none⟩ = some (.int .i64 p.no) := hx
    clear hx
    go_wp2_with (first
      | ((with_reducible apply L_loadGp); exact rfl; exact X3.out; exact rfl)
      | ((with_reducible apply L_storeRow (N := 8) info_gp); exact rfl; exact rfl; exact Y3.out; exact rfl; exact rfl; (simp [Value.oneCell']); intro w4 h4 g4; have H4 := Lib.hid h4; have G4 := Lib.hid g4; clear h4 g4))
    refine bodyPost_ret (results_cell_tmp_row rfl _ _ _ _ rfl (run_loadVar_row _ _ _ _ _ _ _ H4.out Tryd.underlying25 rfl info_gp)) rfl ?_
    exact ⟨rfl, below_up B3.out G4.out (Nat.le_refl _)⟩
end Go.Proofs.YthclgehifomkhaaDoor.W
