/-
  Contracts of mayBe and of the reference's May, of both Matches. No conditions.
-/
import Derived.Test.YtheflapmjopemaaDoorHdMem
import Derived.Deep.CutRange
import Derived.Deep.CutBlock
namespace Go.Proofs.YtheflapmjopemaaDoor.W.Hd
open Go.RowKit Oc Gt
set_option linter.unusedVariables false

theorem bool_of {b : Bool} {P : Prop} (h : b = true ↔ P) (hp : P) : (.returned (.bool true) : Ending) = .returned (.bool b) := by rw [h.2 hp]
theorem bool_not {b : Bool} {P : Prop} (h : b = true ↔ P) (hp : ¬ P) : (.returned (.bool false) : Ending) = .returned (.bool b) := by
  cases b
  · rfl
  · exact absurd (h.1 rfl) hp

set_option maxHeartbeats 1000000 in
theorem maybe_free (l g s r : Int) (b : Bool) (w : World) (hb : b = true ↔ (l = 0 ∧ g = 0 ∧ s = 0)) :
    Calls Tryd.prog 18 #[.agg #[.bool false, .int .i64 l, .int .u64 g, .int .u32 s, .int .u32 r]] w fun e w' => e = .returned (.bool b) ∧ Below w.heap.size w w' := by
  have HB := Lib.hid hb
  have X := Lib.hid (heap_alloc_new w (.cells #[.bool false, .int .i64 l, .int .u64 g, .int .u32 s, .int .u32 r] 25))
  clear hb
  go_enter Tryd.func18, Tryd.ntmps18
  go_upto_region 2 with fail
  obtain ⟨y, hy⟩ : ∃ y, y = w.alloc (.cells #[.bool false, .int .i64 l, .int .u64 g, .int .u32 s, .int .u32 r] 25) := ⟨_, rfl⟩
  have XY : Hid (y.heap[w.heap.size]? = some (.cells #[.bool false, .int .i64 l, .int .u64 g, .int .u32 s, .int .u32 r] 25 (0, 0))) := by show _ = _; rw [hy]; exact X.out
  have BY : Hid (Below w.heap.size w y) := by show Below _ _ _; rw [hy]; exact balloc _ _
  rw [← hy]
  clear hy X
  go_wp2_with fail
  refine gate (fun x => x.heap[w.heap.size]? = some (.cells #[.bool false, .int .i64 l, .int .u64 g, .int .u32 s, .int .u32 r] 25 (0, 0))) 5 [0, 1, 2] 3 (by kernel_rfl) (by kernel_rfl) (by kernel_rfl) rfl ?_ XY.out ?_
  · intro d v c a w h
    cases d <;> exact h
  refine yields_step (.agg #[.bool false, .int .i64 l, .int .u64 g, .int .u32 s, .int .u32 r]) rfl rfl ?_ ?_
  · intro x hS; exact exec_ld rfl (by go_simp) (run_load5 rfl hS)
  refine yields_step ?_ rfl rfl ?_ ?_
  rotate_left
  · intro x hS; go_simp; rfl
  refine yields_step (.int .u32 r) rfl rfl ?_ ?_
  · intro x hS; have c4 := (cells5 hS).2.2.2.2; go_simp
  refine Gate.next (i := 3) (by kernel_rfl) rfl rfl (fun K hK => ?_)
  go_simp
  refine (free_any r _).mono ?_; rintro e w1 ⟨rfl, b1⟩
  have X1 := Lib.hid (kept_below (w := y.drew) XY.out b1)
  have B1 : Hid (Below w.heap.size w w1) := bthen (below_drew1 BY.out) b1
  refine hK _ _ (fun _ => X1.out) ?_
  clear hK K b1
  refine Gate.next (i := 4) (by kernel_rfl) rfl rfl (fun K hK => ?_)
  have hx : (l = 0 ∧ g = 0 ∧ s = 0 ∧ b = true) ∨ (¬ l = 0 ∧ b = false) ∨ (l = 0 ∧ ¬ g = 0 ∧ b = false) ∨ (l = 0 ∧ g = 0 ∧ ¬ s = 0 ∧ b = false) := by
    have h := HB.out
    by_cases h1 : l = 0
    · by_cases h2 : g = 0
      · by_cases h3 : s = 0
        · exact .inl ⟨h1, h2, h3, h.2 ⟨h1, h2, h3⟩⟩
        · exact .inr (.inr (.inr ⟨h1, h2, h3, by cases b; rfl; exact absurd (h.1 rfl).2.2 h3⟩))
      · exact .inr (.inr (.inl ⟨h1, h2, by cases b; rfl; exact absurd (h.1 rfl).2.1 h2⟩))
    · exact .inr (.inl ⟨h1, by cases b; rfl; exact absurd (h.1 rfl).1 h1⟩)
  clear HB
  rcases hx with ⟨h1, h2, h3, rfl⟩ | ⟨h1, rfl⟩ | ⟨h1, h2, rfl⟩ | ⟨h1, h2, h3, rfl⟩
  all_goals
    go_simp
    refine hK _ _ (fun _ => X1.out) ?_
    clear hK K
    refine Gate.next (i := 5) (by kernel_rfl) rfl rfl (fun K hK => ?_)
    go_simp
    refine hK _ _ (fun h => absurd rfl h) ?_
    clear hK K
    refine Gate.done (by kernel_rfl) ?_
    go_wp2
    go_ret
    exact ⟨rfl, B1.out⟩

set_option maxHeartbeats 1000000 in
theorem maybe_used (l g s r : Int) (b : Bool) (w : World) (hb : b = true ↔ ((0 ≤ l ∧ l < 65536) ∧ (1 ≤ g ∧ g ≤ 4611686018427387904))) :
    Calls Tryd.prog 18 #[.agg #[.bool true, .int .i64 l, .int .u64 g, .int .u32 s, .int .u32 r]] w fun e w' => e = .returned (.bool b) ∧ Below w.heap.size w w' := by
  obtain ⟨B, h3⟩ : ∃ A : Int, (if l < 0 then (0 : Int) else l) = A := ⟨_, rfl⟩
  obtain ⟨A3, h4⟩ : ∃ A : Int, (if (65535 : Int) < B then (65535 : Int) else B) = A := ⟨_, rfl⟩
  obtain ⟨G, h5⟩ : ∃ A : Int, (if g < 1 then (1 : Int) else g) = A := ⟨_, rfl⟩
  obtain ⟨A4, h6⟩ : ∃ A : Int, (if (4611686018427387904 : Int) < G then (4611686018427387904 : Int) else G) = A := ⟨_, rfl⟩
  have e3 : (l = A3) ↔ (0 ≤ l ∧ l < 65536) := by rw [← h4, ← h3]; split <;> split <;> omega
  have e4 : (g = A4) ↔ (1 ≤ g ∧ g ≤ 4611686018427387904) := by rw [← h6, ← h5]; split <;> split <;> omega
  have E3 := Lib.hid e3
  have E4 := Lib.hid e4
  have HB := Lib.hid hb
  clear e3 e4 hb
  go_enter Tryd.func18, Tryd.ntmps18
  go_wp2
  all_goals go_ret
  all_goals refine ⟨?_, balloc _ _⟩
  all_goals first
    | exact bool_of HB.out ⟨E3.out.1 (by assumption), E4.out.1 (by assumption)⟩
    | exact bool_not HB.out fun k => by first | exact absurd (E3.out.2 k.1) (by assumption) | exact absurd (E4.out.2 k.2) (by assumption)

theorem maybe_any (p : Hd) (b : Bool) (w : World) (hb : b = true ↔ MayBe p) : Calls Tryd.prog 18 #[(.agg #[.bool p.u, .int .i64 p.l, .int .u64 (p.g : Int), .int .u32 (p.s.toNat : Int), .int .u32 (p.r.toNat : Int)])] w fun e w' => e = .returned (.bool b) ∧ Below w.heap.size w w' := by
  obtain ⟨u, l, g, s, r⟩ := p
  cases u
  · refine maybe_free l g s.toNat r.toNat b w (hb.trans ?_)
    unfold MayBe
    dsimp only
    constructor
    · rintro (⟨h, _⟩ | ⟨_, h1, h2, h3⟩)
      · cases h
      · omega
    · rintro ⟨h1, h2, h3⟩
      exact .inr ⟨rfl, h1, by omega, by omega⟩
  · refine maybe_used l g s.toNat r.toNat b w (hb.trans ?_)
    unfold MayBe
    dsimp only
    constructor
    · rintro (⟨_, h1, h2, h3⟩ | ⟨h, _⟩)
      · omega
      · cases h
    · rintro ⟨h1, h2, h3⟩
      exact .inl ⟨rfl, h1, by omega, by omega⟩

set_option maxHeartbeats 1000000 in
theorem rmay_free (l g s r : Int) (b : Bool) (w : World) (hb : b = true ↔ (l = 0 ∧ g = 0 ∧ s = 0)) :
    Calls Tryd.prog 22 #[.agg #[.bool false, .int .i64 l, .int .u64 g, .int .u32 s, .int .u32 r]] w fun e w' => e = .returned (.bool b) ∧ Below w.heap.size w w' := by
  have HB := Lib.hid hb
  clear hb
  by_cases h1 : l = 0
  · by_cases h2 : g = 0
    · by_cases h3 : s = 0
      · go_enter Tryd.func22, Tryd.ntmps22
        go_wp2
        go_ret
        exact ⟨bool_of HB.out ⟨h1, h2, h3⟩, balloc _ _⟩
      · have h4 : (s == 0) = false := by simpa using h3
        go_enter Tryd.func22, Tryd.ntmps22
        go_wp2
        go_ret
        exact ⟨bool_not HB.out fun k => h3 k.2.2, balloc _ _⟩
    · go_enter Tryd.func22, Tryd.ntmps22
      go_wp2
      go_ret
      exact ⟨bool_not HB.out fun k => h2 k.2.1, balloc _ _⟩
  · go_enter Tryd.func22, Tryd.ntmps22
    go_wp2
    go_ret
    exact ⟨bool_not HB.out fun k => h1 k.1, balloc _ _⟩
set_option maxHeartbeats 1000000 in
theorem rmay_used (l g s r : Int) (b : Bool) (w : World) (hb : b = true ↔ ((0 ≤ l ∧ l < 65536) ∧ (1 ≤ g ∧ g ≤ 4611686018427387904))) :
    Calls Tryd.prog 22 #[.agg #[.bool true, .int .i64 l, .int .u64 g, .int .u32 s, .int .u32 r]] w fun e w' => e = .returned (.bool b) ∧ Below w.heap.size w w' := by
  have HB := Lib.hid hb
  clear hb
  by_cases c3 : 0 ≤ l
  · by_cases c4 : l < 65536
    · by_cases c5 : 1 ≤ g
      · by_cases c6 : g ≤ 4611686018427387904
        · go_enter Tryd.func22, Tryd.ntmps22
          go_wp2
          go_ret
          exact ⟨bool_of HB.out ⟨⟨c3, c4⟩, c5, c6⟩, balloc _ _⟩
        · go_enter Tryd.func22, Tryd.ntmps22
          go_wp2
          go_ret
          exact ⟨bool_not HB.out fun k => (by have := k.1.1; have := k.1.2; have := k.2.1; have := k.2.2; omega), balloc _ _⟩
      · go_enter Tryd.func22, Tryd.ntmps22
        go_wp2
        go_ret
        exact ⟨bool_not HB.out fun k => (by have := k.1.1; have := k.1.2; have := k.2.1; have := k.2.2; omega), balloc _ _⟩
    · go_enter Tryd.func22, Tryd.ntmps22
      go_wp2
      go_ret
      exact ⟨bool_not HB.out fun k => (by have := k.1.1; have := k.1.2; have := k.2.1; have := k.2.2; omega), balloc _ _⟩
  · go_enter Tryd.func22, Tryd.ntmps22
    go_wp2
    go_ret
    exact ⟨bool_not HB.out fun k => (by have := k.1.1; have := k.1.2; have := k.2.1; have := k.2.2; omega), balloc _ _⟩
theorem rmay_any (p : Hd) (b : Bool) (w : World) (hb : b = true ↔ MayBe p) : Calls Tryd.prog 22 #[(.agg #[.bool p.u, .int .i64 p.l, .int .u64 (p.g : Int), .int .u32 (p.s.toNat : Int), .int .u32 (p.r.toNat : Int)])] w fun e w' => e = .returned (.bool b) ∧ Below w.heap.size w w' := by
  obtain ⟨u, l, g, s, r⟩ := p
  cases u
  · refine rmay_free l g s.toNat r.toNat b w (hb.trans ?_)
    unfold MayBe
    dsimp only
    constructor
    · rintro (⟨h, _⟩ | ⟨_, h1, h2, h3⟩)
      · cases h
      · omega
    · rintro ⟨h1, h2, h3⟩
      exact .inr ⟨rfl, h1, by omega, by omega⟩
  · refine rmay_used l g s.toNat r.toNat b w (hb.trans ?_)
    unfold MayBe
    dsimp only
    constructor
    · rintro (⟨_, h1, h2, h3⟩ | ⟨h, _⟩)
      · omega
      · cases h
    · rintro ⟨h1, h2, h3⟩
      exact .inl ⟨rfl, h1, by omega, by omega⟩

/-- what both Matches tell -/
def MWay (u : Bool) (l s b : Int) (z : Nat) (E : Int) : Prop := (u = false ∧ E = 4) ∨ (u = true ∧ ¬ l = b ∧ E = 4) ∨ (u = true ∧ l = b ∧ ¬ s = (z : Int) ∧ E = 40) ∨ (u = true ∧ l = b ∧ s = (z : Int) ∧ E = 0)
theorem mway_some (u : Bool) (l s b : Int) (z : Nat) : ∃ E, MWay u l s b z E := by
  cases u
  · exact ⟨4, .inl ⟨rfl, rfl⟩⟩
  · by_cases h : l = b
    · by_cases h2 : s = (z : Int)
      · exact ⟨0, .inr (.inr (.inr ⟨rfl, h, h2, rfl⟩))⟩
      · exact ⟨40, .inr (.inr (.inl ⟨rfl, h, h2, rfl⟩))⟩
    · exact ⟨4, .inr (.inl ⟨rfl, h, rfl⟩)⟩
set_option maxHeartbeats 1000000 in
theorem rmatches_any (A : Option Addr) (n c : Nat) (xs : List UInt8) (u : Bool) (l g s r b E : Int) (z : Nat) (w : World) (hn : n ≤ 1000000) (ho : Oct w A n xs) (hz : sum xs = z) (hE : MWay u l s b z E) :
    Calls Tryd.prog 17 #[.agg #[.bool u, .int .i64 l, .int .u64 g, .int .u32 s, .int .u32 r], .int .i64 b, .slice A n c] w fun e w' => e = .returned (.int .i64 E) ∧ Below w.heap.size w w' := by
  have HO := Lib.hid ho
  have HZ := Lib.hid hz
  clear ho hz
  rcases hE with ⟨rfl, rfl⟩ | ⟨rfl, h1, rfl⟩ | ⟨rfl, rfl, h2, rfl⟩ | ⟨rfl, rfl, rfl, rfl⟩
  · go_enter Tryd.func17, Tryd.ntmps17
    go_wp2
    go_ret
    exact ⟨rfl, balloc _ _⟩
  · go_enter Tryd.func17, Tryd.ntmps17
    go_wp2
    go_ret
    exact ⟨rfl, balloc _ _⟩
  · have R := Lib.hid (fun m => rsum_any A n c xs z ((w.alloc (.cells #[.bool true, .int .i64 l, .int .u64 g, .int .u32 s, .int .u32 r] 25)).drewN m) (by omega) ((HO.out.alloc _).drewN m) HZ.out)
    go_enter Tryd.func17, Tryd.ntmps17
    go_wp2_with fail
    go_quiet ((first | (exact quiet (R.out _))))
    go_wp2
    go_ret
    exact ⟨rfl, below_drewN (balloc _ _) _⟩
  · have R := Lib.hid (fun m => rsum_any A n c xs z ((w.alloc (.cells #[.bool true, .int .i64 l, .int .u64 g, .int .u32 (z : Int), .int .u32 r] 25)).drewN m) (by omega) ((HO.out.alloc _).drewN m) HZ.out)
    go_enter Tryd.func17, Tryd.ntmps17
    go_wp2_with fail
    go_quiet ((first | (exact quiet (R.out _))))
    go_wp2
    go_ret
    exact ⟨rfl, below_drewN (balloc _ _) _⟩
set_option maxHeartbeats 2000000 in
theorem matches_any (A : Option Addr) (n c : Nat) (xs : List UInt8) (u : Bool) (l g s r b E : Int) (z : Nat) (w : World) (hn : n ≤ 1000000) (ho : Oct w A n xs) (he : Env w) (hz : sum xs = z) (hE : MWay u l s b z E) :
    Calls Tryd.prog 16 #[.agg #[.bool u, .int .i64 l, .int .u64 g, .int .u32 s, .int .u32 r], .int .i64 b, .slice A n c] w fun e w' => e = .returned (.int .i64 E) ∧ Below w.heap.size w w' := by
  have HO := Lib.hid ho
  have HE := Lib.hid he
  have HZ := Lib.hid hz
  clear ho hz he
  rcases hE with ⟨rfl, rfl⟩ | ⟨rfl, h1, rfl⟩ | ⟨rfl, rfl, h2, rfl⟩ | ⟨rfl, rfl, rfl, rfl⟩
  · go_enter Tryd.func16, Tryd.ntmps16
    go_wp2
    go_ret
    exact ⟨rfl, balloc _ _⟩
  · go_enter Tryd.func16, Tryd.ntmps16
    go_wp2
    go_ret
    exact ⟨rfl, balloc _ _⟩
  · go_enter Tryd.func16, Tryd.ntmps16
    go_wp2_with fail
    go_region_with (first | (go_at_call 31; refine (sum_at A n c xs z _ (w.alloc (.cells #[.bool true, .int .i64 l, .int .u64 g, .int .u32 s, .int .u32 r] 25)).drew (by simp) (by omega) (HO.out.alloc _).drew (HE.out.alloc _) HZ.out).mono ?_; rintro e w' ⟨rfl, rfl⟩))
    all_goals go_wp2
    all_goals go_ret
    all_goals exact ⟨rfl, below_drew1 (bthen (balloc _ _) (balloc _ _))⟩
  · go_enter Tryd.func16, Tryd.ntmps16
    go_wp2_with fail
    go_region_with (first | (go_at_call 31; refine (sum_at A n c xs z _ (w.alloc (.cells #[.bool true, .int .i64 l, .int .u64 g, .int .u32 (z : Int), .int .u32 r] 25)).drew (by simp) (by omega) (HO.out.alloc _).drew (HE.out.alloc _) HZ.out).mono ?_; rintro e w' ⟨rfl, rfl⟩))
    all_goals go_wp2
    all_goals go_ret
    all_goals exact ⟨rfl, below_drew1 (bthen (balloc _ _) (balloc _ _))⟩
end Go.Proofs.YtheflapmjopemaaDoor.W.Hd
