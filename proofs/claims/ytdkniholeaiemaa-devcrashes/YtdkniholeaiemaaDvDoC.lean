/-
  A call on both pairs: Write, Crash of raw fates. No conditions.
-/
import Derived.Test.YtdkniholeaiemaaDvDoKit
import Derived.Deep.RegionHeld
import Derived.Deep.DrawnRows
namespace Go.Proofs.Ytdkniholeaiemaa.W
open Go.RowKit Oc Dm Gt Tn
set_option linter.unusedVariables false
set_option maxRecDepth 100000
attribute [local go_sem ↓] Go.wp_at_zero Go.wp_at_succ
section
variable {o : Nat → Nat} {w : World} {T p q : Nat} {D E ns : Nat → Nat} {N : Nat} {s : PS} {d : Nat → DD}
set_option maxHeartbeats 8000000 in
theorem do1a (h : Mid o w T p q D E ns N s d s d) (hN : N + 1 ≤ 1000000) (k : Nat) (hk : k < 2) (z1 z2 z3 z4 z5 z6 z7 z9 : Int) (u : Value) (y : UInt8) (hrem : z1.tmod 2 = (k : Int)) :
    Calls Try.prog 8 #[.pointer (some ⟨T, 0, none⟩), .agg #[.int .i64 1, .int .i64 z1, .int .i64 z2, .int .i64 z3, .int .i64 z4, .int .u32 z5, .int .u64 z6, .int .u64 z7, .int .u8 (y.toNat : Int), .int .i64 z9, u]] w fun e w' => e = .returned (.bool true) ∧ After o w T ns (N + 1) w' := by
  have H := Lib.hid h
  obtain ⟨l, hl⟩ : ∃ l, fillLen z9 = l := ⟨_, rfl⟩
  have HL := Lib.hid hl
  have hl100 : l ≤ 100 := by rw [← hl]; exact fillLen_le z9
  obtain ⟨xs, hxs⟩ : ∃ xs, List.replicate l y = xs := ⟨_, rfl⟩
  have HXS := Lib.hid hxs
  obtain ⟨v, s', d', hw⟩ := wr_way (ns k) s (d k) z2 xs
  have HW := Lib.hid hw
  have HS : Hid (s.done + 1 ≤ N + 1) := by have := H.out.hs; show _ ≤ _; omega
  have HBD : Hid (∀ i, i < ns k → ((d k).S i).loose.length ≤ 1000000000) := fun i hi => by have := ((H.out.secs hk).2 i hi).1; have := H.out.hN; omega
  obtain ⟨B, hB⟩ : ∃ B, tx xs = .string B := ⟨_, rfl⟩
  have HB := Lib.hid hB
  clear hw hl hxs hB
  clear h
  go_enter Try.func8, Try.ntmps8
  go_wp2_with ((with_reducible refine L_boxAct (cs := #[.int .i64 1, .int .i64 z1, .int .i64 z2, .int .i64 z3, .int .i64 z4, .int .u32 z5, .int .u64 z6, .int .u64 z7, .int .u8 (y.toNat : Int), .int .i64 z9, u]) ?_ ?_); exact rfl; intro w1 b1 bx1; have M1 := Lib.hid (H.out.below b1); have X1 := Lib.hid (Ex.of_below (o := o) b1); have BX1 := Lib.hid (bx1 o H.out.lt); have a0 := BX1.out.cells 0 _ rfl; have a1 := BX1.out.cells 1 _ rfl; obtain ⟨t0, t3, tk, tf⟩ := M1.out.cells; obtain ⟨tD, tE⟩ := tk k hk; clear b1 bx1 tk)
  have hk2 : (k : Int) < 2 := by omega
  go_quiet (fail)
  have M2 := Lib.hid (M1.out.drewN nq)
  have X2 := Lib.hid (X1.out.trans (Ex.drewN o w1 nq))
  have BX2 := Lib.hid (BX1.out.ex (Ex.drewN o w1 nq))
  generalize w1.drewN nq = w2 at M2 X2 BX2 ⊢
  clear M1 X1 BX1 a0 a1 t0 t3 tf tD tE
  have a0 := BX2.out.cells 0 _ rfl
  have a2 := BX2.out.cells 2 _ rfl
  have a8 := BX2.out.cells 8 _ rfl
  have a9 := BX2.out.cells 9 _ rfl
  go_wp2_with fail
  refine (fill_any w2 y z9).mono ?_; rintro e w3 ⟨b3, rfl, hb3, o3, bb3⟩
  rw [HL.out] at o3 ⊢
  have oc3 : Oct w3 (some ⟨b3, 0, none⟩) l xs := by
    have := oct_own (xs := List.replicate l y) (by rw [List.map_replicate]; exact o3) (by simp)
    rwa [HXS.out] at this
  have OC3 := Lib.hid oc3
  have HA3 : Hid (∀ b off, (some ⟨b3, 0, none⟩ : Option Addr) = some ⟨b, off, none⟩ → w2.heap.size ≤ b) := fun b off e => by injection e with e; injection e with e; rw [← e]; exact hb3
  have cv3 := oc3.drew.conv bt Try.underlying9 l
  rw [show Value.string (bstr xs) = .string B from HB.out] at cv3
  have BB3 : Hid (Below w2.heap.size w2 w3.drew) := bb3.drew
  have BX3 := Lib.hid (BX2.out.ex (Ex.of_below BB3.out))
  have HO3 : Hid (∀ b off, 0 < l → (some ⟨b3, 0, none⟩ : Option Addr) = some ⟨b, off, none⟩ → o b = 0) := fun b off _ e => by
    have h1 := HA3.out b off e
    rcases Nat.eq_zero_or_pos (o b) with e0 | e0
    · exact e0
    · have := M2.out.lt b (by omega); omega
  have a2' : w3.cell? ⟨w.heap.size, 2, none⟩ = some (.int .i64 z2) := BX3.out.cells 2 _ rfl
  clear oc3 o3 bb3 hb3 a0 a2 a8 a9
  go_wp2_with fail
  go_region_held (fun w' => w'.cell? ⟨w.heap.size, 2, none⟩ = some (.int .i64 z2)) (first | go_keep | exact BX5.out.cells 2 _ rfl | exact BX4.out.cells 2 _ rfl)
    (first
      | (go_at_call 21; (with_reducible refine (mid_write M2.out hk hN BB3.out OC3.out.drew HA3.out HW.out).mono ?_); rintro e w4 ⟨rfl, o4, m4, x4⟩; have M4 := Lib.hid m4; have X4 := Lib.hid ((X2.out.trans (Ex.of_below BB3.out)).trans x4); have BX4 := Lib.hid (BX3.out.ex x4); have cv4 := (oct_ex OC3.out.drew HO3.out x4).conv bt Try.underlying9 l; rw [show Value.string (bstr xs) = .string B from HB.out] at cv4; clear m4 x4)
      | (go_at_call 32; (with_reducible refine (mid_rwrite (B := B) M4.out hk HS.out HBD.out HB.out HW.out).mono ?_); rintro e w5 ⟨rfl, o5, m5, x5⟩; have M5 := Lib.hid m5; have X5 := Lib.hid (X4.out.trans x5); have BX5 := Lib.hid (BX4.out.ex x5); clear m5 x5))
  all_goals go_wp2
  all_goals (go_ret; exact ⟨rfl, o5, p, q, D, E, _, _, M5.out, X5.out⟩)
set_option maxHeartbeats 8000000 in
theorem do1b (h : Mid o w T p q D E ns N s d s d) (hN : N + 1 ≤ 1000000) (z1 z2 z3 z4 z5 z6 z7 z9 : Int) (u : Value) (y : UInt8) (hrem : z1.tmod 2 = -1) :
    Calls Try.prog 8 #[.pointer (some ⟨T, 0, none⟩), .agg #[.int .i64 1, .int .i64 z1, .int .i64 z2, .int .i64 z3, .int .i64 z4, .int .u32 z5, .int .u64 z6, .int .u64 z7, .int .u8 (y.toNat : Int), .int .i64 z9, u]] w fun e w' => e = .returned (.bool true) ∧ After o w T ns (N + 1) w' := by
  have H := Lib.hid h
  have hk : 1 < 2 := by decide
  obtain ⟨l, hl⟩ : ∃ l, fillLen z9 = l := ⟨_, rfl⟩
  have HL := Lib.hid hl
  have hl100 : l ≤ 100 := by rw [← hl]; exact fillLen_le z9
  obtain ⟨xs, hxs⟩ : ∃ xs, List.replicate l y = xs := ⟨_, rfl⟩
  have HXS := Lib.hid hxs
  obtain ⟨v, s', d', hw⟩ := wr_way (ns 1) s (d 1) z2 xs
  have HW := Lib.hid hw
  have HS : Hid (s.done + 1 ≤ N + 1) := by have := H.out.hs; show _ ≤ _; omega
  have HBD : Hid (∀ i, i < ns 1 → ((d 1).S i).loose.length ≤ 1000000000) := fun i hi => by have := ((H.out.secs hk).2 i hi).1; have := H.out.hN; omega
  obtain ⟨B, hB⟩ : ∃ B, tx xs = .string B := ⟨_, rfl⟩
  have HB := Lib.hid hB
  clear hw hl hxs hB
  clear h
  go_enter Try.func8, Try.ntmps8
  go_wp2_with ((with_reducible refine L_boxAct (cs := #[.int .i64 1, .int .i64 z1, .int .i64 z2, .int .i64 z3, .int .i64 z4, .int .u32 z5, .int .u64 z6, .int .u64 z7, .int .u8 (y.toNat : Int), .int .i64 z9, u]) ?_ ?_); exact rfl; intro w1 b1 bx1; have M1 := Lib.hid (H.out.below b1); have X1 := Lib.hid (Ex.of_below (o := o) b1); have BX1 := Lib.hid (bx1 o H.out.lt); have a0 := BX1.out.cells 0 _ rfl; have a1 := BX1.out.cells 1 _ rfl; obtain ⟨t0, t3, tk, tf⟩ := M1.out.cells; obtain ⟨tD, tE⟩ : w1.cell? ⟨T, 2, none⟩ = some (.pointer (some ⟨D 1, 0, none⟩)) ∧ w1.cell? ⟨T, 5, none⟩ = some (.pointer (some ⟨E 1, 0, none⟩)) := tk 1 hk; clear b1 bx1 tk)
  go_quiet (fail)
  have M2 := Lib.hid (M1.out.drewN nq)
  have X2 := Lib.hid (X1.out.trans (Ex.drewN o w1 nq))
  have BX2 := Lib.hid (BX1.out.ex (Ex.drewN o w1 nq))
  generalize w1.drewN nq = w2 at M2 X2 BX2 ⊢
  clear M1 X1 BX1 a0 a1 t0 t3 tf tD tE
  have a0 := BX2.out.cells 0 _ rfl
  have a2 := BX2.out.cells 2 _ rfl
  have a8 := BX2.out.cells 8 _ rfl
  have a9 := BX2.out.cells 9 _ rfl
  go_wp2_with fail
  refine (fill_any w2 y z9).mono ?_; rintro e w3 ⟨b3, rfl, hb3, o3, bb3⟩
  rw [HL.out] at o3 ⊢
  have oc3 : Oct w3 (some ⟨b3, 0, none⟩) l xs := by
    have := oct_own (xs := List.replicate l y) (by rw [List.map_replicate]; exact o3) (by simp)
    rwa [HXS.out] at this
  have OC3 := Lib.hid oc3
  have HA3 : Hid (∀ b off, (some ⟨b3, 0, none⟩ : Option Addr) = some ⟨b, off, none⟩ → w2.heap.size ≤ b) := fun b off e => by injection e with e; injection e with e; rw [← e]; exact hb3
  have cv3 := oc3.drew.conv bt Try.underlying9 l
  rw [show Value.string (bstr xs) = .string B from HB.out] at cv3
  have BB3 : Hid (Below w2.heap.size w2 w3.drew) := bb3.drew
  have BX3 := Lib.hid (BX2.out.ex (Ex.of_below BB3.out))
  have HO3 : Hid (∀ b off, 0 < l → (some ⟨b3, 0, none⟩ : Option Addr) = some ⟨b, off, none⟩ → o b = 0) := fun b off _ e => by
    have h1 := HA3.out b off e
    rcases Nat.eq_zero_or_pos (o b) with e0 | e0
    · exact e0
    · have := M2.out.lt b (by omega); omega
  have a2' : w3.cell? ⟨w.heap.size, 2, none⟩ = some (.int .i64 z2) := BX3.out.cells 2 _ rfl
  clear oc3 o3 bb3 hb3 a0 a2 a8 a9
  go_wp2_with fail
  go_region_held (fun w' => w'.cell? ⟨w.heap.size, 2, none⟩ = some (.int .i64 z2)) (first | go_keep | exact BX5.out.cells 2 _ rfl | exact BX4.out.cells 2 _ rfl)
    (first
      | (go_at_call 21; (with_reducible refine (mid_write M2.out hk hN BB3.out OC3.out.drew HA3.out HW.out).mono ?_); rintro e w4 ⟨rfl, o4, m4, x4⟩; have M4 := Lib.hid m4; have X4 := Lib.hid ((X2.out.trans (Ex.of_below BB3.out)).trans x4); have BX4 := Lib.hid (BX3.out.ex x4); have cv4 := (oct_ex OC3.out.drew HO3.out x4).conv bt Try.underlying9 l; rw [show Value.string (bstr xs) = .string B from HB.out] at cv4; clear m4 x4)
      | (go_at_call 32; (with_reducible refine (mid_rwrite (B := B) M4.out hk HS.out HBD.out HB.out HW.out).mono ?_); rintro e w5 ⟨rfl, o5, m5, x5⟩; have M5 := Lib.hid m5; have X5 := Lib.hid (X4.out.trans x5); have BX5 := Lib.hid (BX4.out.ex x5); clear m5 x5))
  all_goals go_wp2
  all_goals (go_ret; exact ⟨rfl, o5, p, q, D, E, _, _, M5.out, X5.out⟩)
set_option maxHeartbeats 8000000 in
theorem do8a (h : Mid o w T p q D E ns N s d s d) (hN : N + 1 ≤ 1000000) (k : Nat) (hk : k < 2) (z1 z2 z3 z4 z5 z6 z7 z8 z9 : Int) (fa : Option Addr) (fl fc : Nat) (fs : List Int) (hf : Fo o w fa fl fs) (hrem : z1.tmod 2 = (k : Int)) :
    Calls Try.prog 8 #[.pointer (some ⟨T, 0, none⟩), .agg #[.int .i64 8, .int .i64 z1, .int .i64 z2, .int .i64 z3, .int .i64 z4, .int .u32 z5, .int .u64 z6, .int .u64 z7, .int .u8 z8, .int .i64 z9, .slice fa fl fc]] w fun e w' => e = .returned (.bool true) ∧ After o w T ns (N + 1) w' := by
  have H := Lib.hid h
  have HF := Lib.hid hf
  obtain ⟨v, hw⟩ := cr_way (looseOf (ns k) (d k).S) fs fl
  have HW := Lib.hid hw
  have HBD : Hid (∀ i, i < ns k → ((d k).S i).loose.length ≤ 1000000000) := fun i hi => by have := ((H.out.secs hk).2 i hi).1; have := H.out.hN; omega
  clear hw hf
  clear h
  go_enter Try.func8, Try.ntmps8
  go_wp2_with ((with_reducible refine L_boxAct (cs := #[.int .i64 8, .int .i64 z1, .int .i64 z2, .int .i64 z3, .int .i64 z4, .int .u32 z5, .int .u64 z6, .int .u64 z7, .int .u8 z8, .int .i64 z9, .slice fa fl fc]) ?_ ?_); exact rfl; intro w1 b1 bx1; have M1 := Lib.hid (H.out.below b1); have X1 := Lib.hid (Ex.of_below (o := o) b1); have BX1 := Lib.hid (bx1 o H.out.lt); have a0 := BX1.out.cells 0 _ rfl; have a1 := BX1.out.cells 1 _ rfl; obtain ⟨t0, t3, tk, tf⟩ := M1.out.cells; obtain ⟨tD, tE⟩ := tk k hk; clear b1 bx1 tk)
  have hk2 : (k : Int) < 2 := by omega
  go_quiet (fail)
  have M2 := Lib.hid (M1.out.drewN nq)
  have X2 := Lib.hid (X1.out.trans (Ex.drewN o w1 nq))
  have BX2 := Lib.hid (BX1.out.ex (Ex.drewN o w1 nq))
  generalize w1.drewN nq = w2 at M2 X2 BX2 ⊢
  clear M1 X1 BX1 a0 a1 t0 t3 tf tD tE
  have a0 := BX2.out.cells 0 _ rfl
  have a10 := BX2.out.cells 10 _ rfl
  have F2 := Lib.hid (HF.out.ex X2.out)
  go_wp2_with fail
  go_region_held (fun w' => w'.cell? ⟨w.heap.size, 10, none⟩ = some (.slice fa fl fc)) (first | go_keep | exact BX4.out.cells 10 _ rfl | exact BX3.out.cells 10 _ rfl)
    (first
      | (go_at_call 12; (with_reducible refine (newpower_any _).mono ?_); rintro e w3 ⟨rfl, p3, b3, z3'⟩; have P3 : Hid (Pw w3 w2.heap.size ⟨false, none, 0⟩) := p3; have E3 := Lib.hid (show Ex o o w2 w3 from (Ex.drew o w2).trans (Ex.of_below b3)); have M3 := Lib.hid (M2.out.drew.below b3); have BX3 := Lib.hid (BX2.out.ex E3.out); have F3 := Lib.hid (F2.out.ex E3.out); have FI3 : Hid (Fi w3 fa fl fs) := F3.out.1; clear p3 b3 z3')
      | (go_at_call 11; (with_reducible refine (mid_crash M3.out hk P3.out FI3.out HW.out).mono ?_); rintro e w4 ⟨Xp, rfl, hXp, b4⟩; have E4 := Lib.hid (Ex.of_below (o := o) b4); have M4 := Lib.hid (M3.out.below b4); have BX4 := Lib.hid (BX3.out.ex E4.out); have F4 := Lib.hid (F3.out.ex E4.out); have HXP := Lib.hid hXp; clear b4 hXp))
  all_goals
    have X4 := Lib.hid ((X2.out.trans E3.out).trans E4.out)
    have a10 := BX4.out.cells 10 _ rfl
    have M5 := Lib.hid (M4.out.below (balloc w4 (.cells #[.bool false, .bool false, .int .i64 0, .int .i64 0] 80)))
    have F5 := Lib.hid (F4.out.ex (Ex.of_below (o := o) (balloc w4 (.cells #[.bool false, .bool false, .int .i64 0, .int .i64 0] 80))))
    have X5 := Lib.hid (X4.out.trans (Ex.of_below (o := o) (balloc w4 (.cells #[.bool false, .bool false, .int .i64 0, .int .i64 0] 80))))
    have a10' : (w4.alloc (.cells #[.bool false, .bool false, .int .i64 0, .int .i64 0] 80)).cell? ⟨w.heap.size, 10, none⟩ = some (.slice fa fl fc) := (BX4.out.ex (Ex.of_below (o := o) (balloc w4 _))).cells 10 _ rfl
    go_wp2_with fail
    refine (mid_rcrash M5.out hk HBD.out F5.out.1 HW.out).mono ?_; rintro e w6 ⟨Yp, rfl, b6⟩
    have M6 := Lib.hid (M5.out.below b6)
    have X6 := Lib.hid (X5.out.trans (Ex.of_below (o := o) b6))
    have hXp := HXP.out
    clear b6 a10 a10'
    cases Xp with
    | none =>
      have hv : ¬ v = 0 := by simpa using hXp
      have hv2 : (v == 0) = false := by simp [hv]
      clear hXp
      go_wp2
      go_ret
      exact ⟨by simp, o, p, q, D, E, s, d, M6.out.more (Nat.le_succ N) hN, X6.out⟩
    | some Xa =>
      have hv : v = 0 := by simpa using hXp
      subst hv
      clear hXp
      go_wp2
      go_ret
      exact ⟨rfl, o, p, q, D, E, s, d, M6.out.more (Nat.le_succ N) hN, X6.out⟩
set_option maxHeartbeats 8000000 in
theorem do8b (h : Mid o w T p q D E ns N s d s d) (hN : N + 1 ≤ 1000000) (z1 z2 z3 z4 z5 z6 z7 z8 z9 : Int) (fa : Option Addr) (fl fc : Nat) (fs : List Int) (hf : Fo o w fa fl fs) (hrem : z1.tmod 2 = -1) :
    Calls Try.prog 8 #[.pointer (some ⟨T, 0, none⟩), .agg #[.int .i64 8, .int .i64 z1, .int .i64 z2, .int .i64 z3, .int .i64 z4, .int .u32 z5, .int .u64 z6, .int .u64 z7, .int .u8 z8, .int .i64 z9, .slice fa fl fc]] w fun e w' => e = .returned (.bool true) ∧ After o w T ns (N + 1) w' := by
  have H := Lib.hid h
  have hk : 1 < 2 := by decide
  have HF := Lib.hid hf
  obtain ⟨v, hw⟩ := cr_way (looseOf (ns 1) (d 1).S) fs fl
  have HW := Lib.hid hw
  have HBD : Hid (∀ i, i < ns 1 → ((d 1).S i).loose.length ≤ 1000000000) := fun i hi => by have := ((H.out.secs hk).2 i hi).1; have := H.out.hN; omega
  clear hw hf
  clear h
  go_enter Try.func8, Try.ntmps8
  go_wp2_with ((with_reducible refine L_boxAct (cs := #[.int .i64 8, .int .i64 z1, .int .i64 z2, .int .i64 z3, .int .i64 z4, .int .u32 z5, .int .u64 z6, .int .u64 z7, .int .u8 z8, .int .i64 z9, .slice fa fl fc]) ?_ ?_); exact rfl; intro w1 b1 bx1; have M1 := Lib.hid (H.out.below b1); have X1 := Lib.hid (Ex.of_below (o := o) b1); have BX1 := Lib.hid (bx1 o H.out.lt); have a0 := BX1.out.cells 0 _ rfl; have a1 := BX1.out.cells 1 _ rfl; obtain ⟨t0, t3, tk, tf⟩ := M1.out.cells; obtain ⟨tD, tE⟩ : w1.cell? ⟨T, 2, none⟩ = some (.pointer (some ⟨D 1, 0, none⟩)) ∧ w1.cell? ⟨T, 5, none⟩ = some (.pointer (some ⟨E 1, 0, none⟩)) := tk 1 hk; clear b1 bx1 tk)
  go_quiet (fail)
  have M2 := Lib.hid (M1.out.drewN nq)
  have X2 := Lib.hid (X1.out.trans (Ex.drewN o w1 nq))
  have BX2 := Lib.hid (BX1.out.ex (Ex.drewN o w1 nq))
  generalize w1.drewN nq = w2 at M2 X2 BX2 ⊢
  clear M1 X1 BX1 a0 a1 t0 t3 tf tD tE
  have a0 := BX2.out.cells 0 _ rfl
  have a10 := BX2.out.cells 10 _ rfl
  have F2 := Lib.hid (HF.out.ex X2.out)
  go_wp2_with fail
  go_region_held (fun w' => w'.cell? ⟨w.heap.size, 10, none⟩ = some (.slice fa fl fc)) (first | go_keep | exact BX4.out.cells 10 _ rfl | exact BX3.out.cells 10 _ rfl)
    (first
      | (go_at_call 12; (with_reducible refine (newpower_any _).mono ?_); rintro e w3 ⟨rfl, p3, b3, z3'⟩; have P3 : Hid (Pw w3 w2.heap.size ⟨false, none, 0⟩) := p3; have E3 := Lib.hid (show Ex o o w2 w3 from (Ex.drew o w2).trans (Ex.of_below b3)); have M3 := Lib.hid (M2.out.drew.below b3); have BX3 := Lib.hid (BX2.out.ex E3.out); have F3 := Lib.hid (F2.out.ex E3.out); have FI3 : Hid (Fi w3 fa fl fs) := F3.out.1; clear p3 b3 z3')
      | (go_at_call 11; (with_reducible refine (mid_crash M3.out hk P3.out FI3.out HW.out).mono ?_); rintro e w4 ⟨Xp, rfl, hXp, b4⟩; have E4 := Lib.hid (Ex.of_below (o := o) b4); have M4 := Lib.hid (M3.out.below b4); have BX4 := Lib.hid (BX3.out.ex E4.out); have F4 := Lib.hid (F3.out.ex E4.out); have HXP := Lib.hid hXp; clear b4 hXp))
  all_goals
    have X4 := Lib.hid ((X2.out.trans E3.out).trans E4.out)
    have a10 := BX4.out.cells 10 _ rfl
    have M5 := Lib.hid (M4.out.below (balloc w4 (.cells #[.bool false, .bool false, .int .i64 0, .int .i64 0] 80)))
    have F5 := Lib.hid (F4.out.ex (Ex.of_below (o := o) (balloc w4 (.cells #[.bool false, .bool false, .int .i64 0, .int .i64 0] 80))))
    have X5 := Lib.hid (X4.out.trans (Ex.of_below (o := o) (balloc w4 (.cells #[.bool false, .bool false, .int .i64 0, .int .i64 0] 80))))
    have a10' : (w4.alloc (.cells #[.bool false, .bool false, .int .i64 0, .int .i64 0] 80)).cell? ⟨w.heap.size, 10, none⟩ = some (.slice fa fl fc) := (BX4.out.ex (Ex.of_below (o := o) (balloc w4 _))).cells 10 _ rfl
    go_wp2_with fail
    refine (mid_rcrash M5.out hk HBD.out F5.out.1 HW.out).mono ?_; rintro e w6 ⟨Yp, rfl, b6⟩
    have M6 := Lib.hid (M5.out.below b6)
    have X6 := Lib.hid (X5.out.trans (Ex.of_below (o := o) b6))
    have hXp := HXP.out
    clear b6 a10 a10'
    cases Xp with
    | none =>
      have hv : ¬ v = 0 := by simpa using hXp
      have hv2 : (v == 0) = false := by simp [hv]
      clear hXp
      go_wp2
      go_ret
      exact ⟨by simp, o, p, q, D, E, s, d, M6.out.more (Nat.le_succ N) hN, X6.out⟩
    | some Xa =>
      have hv : v = 0 := by simpa using hXp
      subst hv
      clear hXp
      go_wp2
      go_ret
      exact ⟨rfl, o, p, q, D, E, s, d, M6.out.more (Nat.le_succ N) hN, X6.out⟩
end
end Go.Proofs.Ytdkniholeaiemaa.W
