/-
  Contract of New. No conditions.
-/
import Derived.Test.YtngfhcapjonkcaaLsPush
namespace Go.Proofs.Ytngfhcapjonkcaa.W
open Go.RowKit Rw Ls
set_option linter.unusedVariables false

/-- what make lays -/
def lkArr (N : Nat) : Array Value := madeCells #[Value.int .i64 0, Value.int .i64 0, Value.int .i64 0] (N * 3)
def szArr (m : Nat) : Array Value := madeCells #[Value.int .i64 0] m
theorem link_info : (Try.prog.info? 50).map (fun i => (i.zero, i.size, i.bytes)) = some (some (.agg #[.int .i64 0, .int .i64 0, .int .i64 0]), 3, 24) := by kernel_rfl
theorem int_info : (Try.prog.info? 3).map (fun i => (i.zero, i.size, i.bytes)) = some (some (.int .i64 0), 1, 8) := by kernel_rfl
theorem make_links (N : Nat) (hN : N ≤ 5000) (w : World) : (Instr.makeSlice 36 (.int .i64 (N : Int)) (.int .i64 (N : Int))).run Try.prog w = .ok (.slice (some ⟨w.heap.size, 0, none⟩) N N) (w.alloc (.cells (lkArr N) 50)) := by
  obtain ⟨i, hi, hz0, hz1, hz2⟩ := info_parts link_info
  have := run_make (P := Try.prog) w 36 50 i _ Try.underlying36 hi hz0 .i64 .i64 (N : Int) (N : Int) (by omega) (Int.le_refl _) (by rw [hz2]; omega) (by omega)
  rw [Int.toNat_natCast, hz1] at this
  exact this
theorem make_sizes (m : Nat) (hm : m ≤ 5000) (w : World) : (Instr.makeSlice 37 (.int .i64 (m : Int)) (.int .i64 (m : Int))).run Try.prog w = .ok (.slice (some ⟨w.heap.size, 0, none⟩) m m) (w.alloc (.cells (szArr m) 3)) := by
  obtain ⟨i, hi, hz0, hz1, hz2⟩ := info_parts int_info
  have := run_make (P := Try.prog) w 37 3 i _ Try.underlying37 hi hz0 .i64 .i64 (m : Int) (m : Int) (by omega) (Int.le_refl _) (by rw [hz2]; omega) (by omega)
  rw [Int.toNat_natCast, hz1, Nat.mul_one] at this
  exact this
theorem lk_cell (N : Nat) (i : Nat) (h : i < N * 3) : (lkArr N)[i]? = some (lc (fun _ => ⟨0, 0, 0⟩) i) := by
  unfold lkArr madeCells lc
  have : i % 3 = 0 ∨ i % 3 = 1 ∨ i % 3 = 2 := by omega
  rcases this with e | e | e <;> simp [h, e]
theorem lk_size (N : Nat) : (lkArr N).size = N * 3 := size_madeCells _ _
theorem sz_cell (m : Nat) (i : Nat) (h : i < m) : (szArr m)[i]? = some (sc (fun _ => 0) i) := by
  unfold szArr madeCells sc
  simp [h, Nat.mod_one]
theorem sz_size (m : Nat) : (szArr m).size = m := size_madeCells _ _

/-- the nodes laid, j of them -/
def f1 (j : Nat) (i : Nat) : Lnk := if i < j then ⟨i, i, -1⟩ else ⟨0, 0, 0⟩
/-- the nodes laid, and k heads -/
def f2 (n k : Nat) (i : Nat) : Lnk := if i < n then ⟨i, i, -1⟩ else if i < n + k then ⟨i, i, (i : Int) - (n : Int)⟩ else ⟨0, 0, 0⟩
theorem f1_zero : f1 0 = fun _ => ⟨0, 0, 0⟩ := by funext i; simp [f1]
theorem f1_step (j : Nat) : setLnk (f1 j) j ⟨j, j, -1⟩ = f1 (j + 1) := by
  funext i
  unfold setLnk f1
  by_cases e : i = j
  · subst e; simp
  · by_cases h : i < j
    · simp [e, h, show i < j + 1 by omega]
    · simp [e, h, show ¬ i < j + 1 by omega]
theorem f2_zero (n : Nat) : f2 n 0 = f1 n := by
  funext i
  unfold f2 f1
  by_cases h : i < n
  · simp [h]
  · simp [h]
theorem f2_step (n k : Nat) : setLnk (f2 n k) (n + k) ⟨n + k, n + k, (k : Int)⟩ = f2 n (k + 1) := by
  funext i
  unfold setLnk f2
  by_cases e : i = n + k
  · subst e
    simp only [if_true]
    rw [if_neg (by omega), if_pos (by omega)]
    have : ((n + k : Nat) : Int) - (n : Int) = (k : Int) := by omega
    rw [this]
  · by_cases h : i < n
    · simp [e, h]
    · by_cases h2 : i < n + k
      · simp [e, h, h2, show i < n + (k + 1) by omega]
      · simp [e, h, h2, show ¬ i < n + (k + 1) by omega]
theorem rep_at {m k : Nat} {r : List Nat} (h : (List.replicate m ([] : List Nat))[k]? = some r) : k < m ∧ r = [] := by
  rw [List.getElem?_replicate] at h
  split at h
  · rename_i hk; exact ⟨hk, by injection h with h; exact h.symm⟩
  · cases h
theorem fit_new (n m : Nat) : Fit n (List.replicate m []) (f2 n m) := by
  have hd : ∀ k, k < m → f2 n m (n + k) = ⟨n + k, n + k, (k : Int)⟩ := fun k hk => by
    unfold f2
    rw [if_neg (by omega), if_pos (by omega)]
    have : ((n + k : Nat) : Int) - (n : Int) = (k : Int) := by omega
    rw [this]
  refine ⟨fun k r hk => ?_, fun k r hk x hx => ?_, fun x hx _ => ?_⟩
  · obtain ⟨hk', rfl⟩ := rep_at hk
    show (f2 n m (n + k)).next = n + k ∧ (f2 n m (n + k)).prev = n + k ∧ True
    rw [hd k hk']
    exact ⟨rfl, rfl, trivial⟩
  · obtain ⟨hk', rfl⟩ := rep_at hk
    simp at hx
    subst hx
    rw [hd k hk']
  · unfold f2; rw [if_pos hx]
theorem ok_new (n m : Nat) : Ok n (List.replicate m []) :=
  ⟨fun k r hk x hx => by rw [(rep_at hk).2] at hx; simp at hx, fun k r hk => by rw [(rep_at hk).2]; simp, fun j k r t x hj hk hx => by rw [(rep_at hj).2] at hx; simp at hx⟩

/-- what New leaves -/
def Opened (w : World) (n m : Nat) (e : Ending) (w' : World) : Prop :=
  ∃ R g1 g2, e = .returned (.tuple #[.pointer (some ⟨R, 0, none⟩), .int .i64 0]) ∧ Rows w' R g1 g2 n (List.replicate m []) ∧ w.heap.size ≤ R ∧ w.heap.size ≤ g1 ∧ w.heap.size ≤ g2 ∧ Below w.heap.size w w'

theorem new_bad (n m : Int) (w : World) (h : ¬ (0 ≤ n ∧ n ≤ 1024 ∧ 0 ≤ m ∧ m ≤ 16)) : Calls Try.prog 6 #[.int .i64 n, .int .i64 m] w fun e w' => e = .returned (.tuple #[.pointer none, .int .i64 1]) ∧ w = w' := by
  have hc : n < 0 ∨ (0 ≤ n ∧ 1024 < n) ∨ (0 ≤ n ∧ n ≤ 1024 ∧ m < 0) ∨ (0 ≤ n ∧ n ≤ 1024 ∧ 0 ≤ m ∧ 16 < m) := by omega
  clear h
  rcases hc with h | ⟨h, h1⟩ | ⟨h, h1, h2⟩ | ⟨h, h1, h2, h3⟩
  all_goals
    go_enter Try.func6, Try.ntmps6
    go_wp2
    go_ret2
    exact ⟨rfl, rfl⟩

theorem new_a (w : World) (n m N : Nat) (hN : n + m = N) (hn : n ≤ 1024) (hm : m ≤ 16) :
    St (((w.alloc (.cells (lkArr N) 50)).alloc (.cells (szArr m) 3)).alloc (.cells #[.int .i64 (n : Int), .slice (some ⟨w.heap.size, 0, none⟩) N N, .slice (some ⟨w.heap.size + 1, 0, none⟩) m m] 39)).drew (w.heap.size + 2) w.heap.size (w.heap.size + 1) n m N (f1 0) (fun _ => 0) ∧
    Below w.heap.size w (((w.alloc (.cells (lkArr N) 50)).alloc (.cells (szArr m) 3)).alloc (.cells #[.int .i64 (n : Int), .slice (some ⟨w.heap.size, 0, none⟩) N N, .slice (some ⟨w.heap.size + 1, 0, none⟩) m m] 39)).drew := by
  have r1 := World.rowIs_alloc w (lkArr N) 50 (lc fun _ => ⟨0, 0, 0⟩) (fun i hi => lk_cell N i (by rw [lk_size] at hi; exact hi))
  rw [lk_size] at r1
  have r2 := World.rowIs_alloc (w.alloc (.cells (lkArr N) 50)) (szArr m) 3 (sc fun _ => 0) (fun i hi => sz_cell m i (by rw [sz_size] at hi; exact hi))
  rw [sz_size, World.size_alloc] at r2
  refine ⟨⟨?_, ?_, r2.alloc _, hN, hn, hm⟩, ((((Below.refl _ w).alloc (Nat.le_refl _) _).alloc (by simp) _).alloc (by simp; omega) _).drew⟩
  · have := heap_alloc_new ((w.alloc (.cells (lkArr N) 50)).alloc (.cells (szArr m) 3)) (.cells #[.int .i64 (n : Int), .slice (some ⟨w.heap.size, 0, none⟩) N N, .slice (some ⟨w.heap.size + 1, 0, none⟩) m m] 39)
    rw [World.size_alloc, World.size_alloc] at this
    exact this
  · rw [f1_zero]; exact (r1.alloc _).alloc _
theorem new_b (w : World) (n m N : Nat) (hN : n + m = N) (hn : n ≤ 1024) (hm : m ≤ 16) :
    St (((w.alloc (.cells (szArr m) 3)).alloc (.cells (lkArr N) 50)).alloc (.cells #[.int .i64 (n : Int), .slice (some ⟨w.heap.size + 1, 0, none⟩) N N, .slice (some ⟨w.heap.size, 0, none⟩) m m] 39)).drew (w.heap.size + 2) (w.heap.size + 1) w.heap.size n m N (f1 0) (fun _ => 0) ∧
    Below w.heap.size w (((w.alloc (.cells (szArr m) 3)).alloc (.cells (lkArr N) 50)).alloc (.cells #[.int .i64 (n : Int), .slice (some ⟨w.heap.size + 1, 0, none⟩) N N, .slice (some ⟨w.heap.size, 0, none⟩) m m] 39)).drew := by
  have r2 := World.rowIs_alloc w (szArr m) 3 (sc fun _ => 0) (fun i hi => sz_cell m i (by rw [sz_size] at hi; exact hi))
  rw [sz_size] at r2
  have r1 := World.rowIs_alloc (w.alloc (.cells (szArr m) 3)) (lkArr N) 50 (lc fun _ => ⟨0, 0, 0⟩) (fun i hi => lk_cell N i (by rw [lk_size] at hi; exact hi))
  rw [lk_size, World.size_alloc] at r1
  refine ⟨⟨?_, ?_, (r2.alloc _).alloc _, hN, hn, hm⟩, ((((Below.refl _ w).alloc (Nat.le_refl _) _).alloc (by simp) _).alloc (by simp; omega) _).drew⟩
  · have := heap_alloc_new ((w.alloc (.cells (szArr m) 3)).alloc (.cells (lkArr N) 50)) (.cells #[.int .i64 (n : Int), .slice (some ⟨w.heap.size + 1, 0, none⟩) N N, .slice (some ⟨w.heap.size, 0, none⟩) m m] 39)
    rw [World.size_alloc, World.size_alloc] at this
    exact this
  · rw [f1_zero]; exact r1.alloc _

set_option maxHeartbeats 8000000 in
theorem new_any (n m : Nat) (w : World) (hn : n ≤ 1024) (hm : m ≤ 16) : Calls Try.prog 6 #[.int .i64 (n : Int), .int .i64 (m : Int)] w (Opened w n m) := by
  obtain ⟨N, hN⟩ : ∃ N, n + m = N := ⟨_, rfl⟩
  have hS : (n : Int) + (m : Int) = (N : Int) := by omega
  have k1 := make_links N (by omega)
  have k2 := make_sizes m (by omega)
  have HN := Lib.hid hN
  clear hN
  go_enter Try.func6, Try.ntmps6
  go_wp2
  go_region
  · have ST0 := Lib.hid (new_a w n m N HN.out hn hm).1
    have B0 := Lib.hid (new_a w n m N HN.out hn hm).2
    clear k1 k2 hS
    go_wp2
    go_loopw [34] (fun q wr => ∃ j : Nat, j ≤ n ∧ q = .int .i64 (j : Int) ∧ Hid (St wr (w.heap.size + 2) (w.heap.size) (w.heap.size + 1) n m N (f1 j) (fun _ => 0)) ∧ Hid (Below w.heap.size w wr)) (fun q _ => n - (intOf q).toNat)
    case atStart => exact ⟨0, by omega, rfl, ST0, B0⟩
    case round =>
      obtain ⟨j, hj, rfl, SJ, BJ⟩ := hrel
      by_cases hlt : j < n
      · have hjN : j < N := by have := HN.out; omega
        obtain ⟨c0, c1, c2⟩ := SJ.out.cells
        have d0 := SJ.out.prev hjN
        have d1 := SJ.out.next hjN
        have d2 := SJ.out.list hjN
        have fr : ∀ i, wr.frozen? ⟨w.heap.size, i, none⟩ = false := SJ.out.ring.frozen
        have SN := Lib.hid (SJ.out.setLnk j j j (-1))
        have BN : Hid (Below w.heap.size w _) := (((BJ.out.setCell (p := ⟨w.heap.size, j * 3, none⟩) (by simp) (.int .i64 (j : Int))).setCell (p := ⟨w.heap.size, j * 3 + 1, none⟩) (by simp) (.int .i64 (j : Int))).setCell (p := ⟨w.heap.size, j * 3 + 2, none⟩) (by simp) (.int .i64 (-1)))
        clear c0 c2
        go_wp2
        go_roundw
        case rel => exact ⟨j + 1, by omega, by go_num, by show St _ _ _ _ _ _ _ _ _; rw [← f1_step]; exact SN.out, BN⟩
        case measure => simp [intOf]; omega
      · have : j = n := by omega
        subst this
        have SJ2 : Hid (St wr (w.heap.size + 2) (w.heap.size) (w.heap.size + 1) j m N (f2 j 0) (fun _ => 0)) := by show St _ _ _ _ _ _ _ _ _; rw [f2_zero]; exact SJ.out
        clear SJ
        go_wp2
        go_loopw [48] (fun q wr => ∃ k : Nat, k ≤ m ∧ q = .int .i64 (k : Int) ∧ Hid (St wr (w.heap.size + 2) (w.heap.size) (w.heap.size + 1) j m N (f2 j k) (fun _ => 0)) ∧ Hid (Below w.heap.size w wr)) (fun q _ => m - (intOf q).toNat)
        case atStart => exact ⟨0, by omega, rfl, SJ2, BJ⟩
        case round =>
          clear BJ SJ2
          obtain ⟨k, hk, rfl, SK, BK⟩ := hrel
          by_cases hlt2 : k < m
          · obtain ⟨hh, hhe⟩ : ∃ hh, j + k = hh := ⟨_, rfl⟩
            have hhN : hh < N := by have := HN.out; omega
            have HH := Lib.hid hhe
            obtain ⟨c0, c1, c2⟩ := SK.out.cells
            have d0 := SK.out.prev hhN
            have d1 := SK.out.next hhN
            have d2 := SK.out.list hhN
            have fr : ∀ i, wr.frozen? ⟨w.heap.size, i, none⟩ = false := SK.out.ring.frozen
            have SN := Lib.hid (SK.out.setLnk hh hh hh (k : Int))
            have BN : Hid (Below w.heap.size w _) := (((BK.out.setCell (p := ⟨w.heap.size, hh * 3, none⟩) (by simp) (.int .i64 (hh : Int))).setCell (p := ⟨w.heap.size, hh * 3 + 1, none⟩) (by simp) (.int .i64 (hh : Int))).setCell (p := ⟨w.heap.size, hh * 3 + 2, none⟩) (by simp) (.int .i64 (k : Int)))
            clear c0 c2 hhe
            go_wp2_with fail
            refine (head_any SK.out k (by omega) hh HH.out).mono ?_; rintro e w' ⟨rfl, rfl⟩
            go_wp2
            go_roundw
            case rel => exact ⟨k + 1, by omega, by go_num, by show St _ _ _ _ _ _ _ _ _; rw [← f2_step, HH.out]; exact SN.out, BN⟩
            case measure => simp [intOf]; omega
          · have : k = m := by omega
            subst this
            go_wp2
            go_ret2
            exact ⟨_, _, _, rfl, ⟨_, _, ⟨by rw [List.length_replicate, HN.out]; exact SK.out, ok_new _ _, fit_new _ _, fun k r hk => by rw [(rep_at hk).2]; rfl⟩⟩, by omega, by omega, by omega, BK.out⟩
  · have ST0 := Lib.hid (new_b w n m N HN.out hn hm).1
    have B0 := Lib.hid (new_b w n m N HN.out hn hm).2
    clear k1 k2 hS
    go_wp2
    go_loopw [34] (fun q wr => ∃ j : Nat, j ≤ n ∧ q = .int .i64 (j : Int) ∧ Hid (St wr (w.heap.size + 2) (w.heap.size + 1) (w.heap.size) n m N (f1 j) (fun _ => 0)) ∧ Hid (Below w.heap.size w wr)) (fun q _ => n - (intOf q).toNat)
    case atStart => exact ⟨0, by omega, rfl, ST0, B0⟩
    case round =>
      obtain ⟨j, hj, rfl, SJ, BJ⟩ := hrel
      by_cases hlt : j < n
      · have hjN : j < N := by have := HN.out; omega
        obtain ⟨c0, c1, c2⟩ := SJ.out.cells
        have d0 := SJ.out.prev hjN
        have d1 := SJ.out.next hjN
        have d2 := SJ.out.list hjN
        have fr : ∀ i, wr.frozen? ⟨w.heap.size + 1, i, none⟩ = false := SJ.out.ring.frozen
        have SN := Lib.hid (SJ.out.setLnk j j j (-1))
        have BN : Hid (Below w.heap.size w _) := (((BJ.out.setCell (p := ⟨w.heap.size + 1, j * 3, none⟩) (by simp) (.int .i64 (j : Int))).setCell (p := ⟨w.heap.size + 1, j * 3 + 1, none⟩) (by simp) (.int .i64 (j : Int))).setCell (p := ⟨w.heap.size + 1, j * 3 + 2, none⟩) (by simp) (.int .i64 (-1)))
        clear c0 c2
        go_wp2
        go_roundw
        case rel => exact ⟨j + 1, by omega, by go_num, by show St _ _ _ _ _ _ _ _ _; rw [← f1_step]; exact SN.out, BN⟩
        case measure => simp [intOf]; omega
      · have : j = n := by omega
        subst this
        have SJ2 : Hid (St wr (w.heap.size + 2) (w.heap.size + 1) (w.heap.size) j m N (f2 j 0) (fun _ => 0)) := by show St _ _ _ _ _ _ _ _ _; rw [f2_zero]; exact SJ.out
        clear SJ
        go_wp2
        go_loopw [48] (fun q wr => ∃ k : Nat, k ≤ m ∧ q = .int .i64 (k : Int) ∧ Hid (St wr (w.heap.size + 2) (w.heap.size + 1) (w.heap.size) j m N (f2 j k) (fun _ => 0)) ∧ Hid (Below w.heap.size w wr)) (fun q _ => m - (intOf q).toNat)
        case atStart => exact ⟨0, by omega, rfl, SJ2, BJ⟩
        case round =>
          clear BJ SJ2
          obtain ⟨k, hk, rfl, SK, BK⟩ := hrel
          by_cases hlt2 : k < m
          · obtain ⟨hh, hhe⟩ : ∃ hh, j + k = hh := ⟨_, rfl⟩
            have hhN : hh < N := by have := HN.out; omega
            have HH := Lib.hid hhe
            obtain ⟨c0, c1, c2⟩ := SK.out.cells
            have d0 := SK.out.prev hhN
            have d1 := SK.out.next hhN
            have d2 := SK.out.list hhN
            have fr : ∀ i, wr.frozen? ⟨w.heap.size + 1, i, none⟩ = false := SK.out.ring.frozen
            have SN := Lib.hid (SK.out.setLnk hh hh hh (k : Int))
            have BN : Hid (Below w.heap.size w _) := (((BK.out.setCell (p := ⟨w.heap.size + 1, hh * 3, none⟩) (by simp) (.int .i64 (hh : Int))).setCell (p := ⟨w.heap.size + 1, hh * 3 + 1, none⟩) (by simp) (.int .i64 (hh : Int))).setCell (p := ⟨w.heap.size + 1, hh * 3 + 2, none⟩) (by simp) (.int .i64 (k : Int)))
            clear c0 c2 hhe
            go_wp2_with fail
            refine (head_any SK.out k (by omega) hh HH.out).mono ?_; rintro e w' ⟨rfl, rfl⟩
            go_wp2
            go_roundw
            case rel => exact ⟨k + 1, by omega, by go_num, by show St _ _ _ _ _ _ _ _ _; rw [← f2_step, HH.out]; exact SN.out, BN⟩
            case measure => simp [intOf]; omega
          · have : k = m := by omega
            subst this
            go_wp2
            go_ret2
            exact ⟨_, _, _, rfl, ⟨_, _, ⟨by rw [List.length_replicate, HN.out]; exact SK.out, ok_new _ _, fit_new _ _, fun k r hk => by rw [(rep_at hk).2]; rfl⟩⟩, by omega, by omega, by omega, BK.out⟩
end Go.Proofs.Ytngfhcapjonkcaa.W
