/-
  The contract of the reference's Get. No conditions.
-/
import Derived.Test.YtheflapmjopemaaDoorHdRg
import Derived.Test.YtheflapmjopemaaDoorHdRput
namespace Go.Proofs.YtheflapmjopemaaDoor.W.Hd
open Go.RowKit Oc Gt
set_option linter.unusedVariables false

theorem rof2 (A : Option Addr) (c : Nat) (xs : List UInt8) (w : World) (ho : Oct w A 2 xs) (u : Nat) (hu : num xs = u) : Calls Tryd.prog 30 #[.slice A 2 c] w fun e w' => e = .returned (.int .u64 (u : Int)) ∧ w = w' := W.of_any A 2 c xs w (by omega) ho u hu
theorem rof4 (A : Option Addr) (c : Nat) (xs : List UInt8) (w : World) (ho : Oct w A 4 xs) (u : Nat) (hu : num xs = u) : Calls Tryd.prog 30 #[.slice A 4 c] w fun e w' => e = .returned (.int .u64 (u : Int)) ∧ w = w' := W.of_any A 4 c xs w (by omega) ho u hu
theorem rof8 (A : Option Addr) (c : Nat) (xs : List UInt8) (w : World) (ho : Oct w A 8 xs) (u : Nat) (hu : num xs = u) : Calls Tryd.prog 30 #[.slice A 8 c] w fun e w' => e = .returned (.int .u64 (u : Int)) ∧ w = w' := W.of_any A 8 c xs w (by omega) ho u hu
theorem oct_sub {w : World} {b off n : Nat} {xs : List UInt8} (h : Oct w (some ⟨b, off, none⟩) n xs) {i k o : Nat} (hk : i + k ≤ n) (ho : o = off + i) : Oct w (some ⟨b, o, none⟩) k ((xs.drop i).take k) := by
  subst ho
  have h2 := h.sub (i := i) (k := k) hk
  rw [show Option.map (fun x => x.add i) (some (⟨b, off, none⟩ : Addr)) = some ⟨b, off + i, none⟩ by simp [Go.WideShapes.add_plain]] at h2
  exact h2
theorem wrap_le {x : Nat} (h : x ≤ 1000000000) : IntKind.i64.wrap (x : Int) = (x : Int) := by
  unfold IntKind.wrap
  simp [IntKind.signed, IntKind.bits]
  omega
theorem wrap_32 {x : Nat} (h : x < 4294967296) : IntKind.u32.wrap (x : Int) = (x : Int) := by
  unfold IntKind.wrap
  simp [IntKind.signed, IntKind.bits]
  omega
theorem hd_new2 {w w1 : World} {k : Nat} {cs : Array Value} {T : TypeId} (h : w1 = (w.alloc (.cells cs T)).drewN k) : w1.heap[w.heap.size]? = some (.cells cs T (0, 0)) := by rw [h]; exact heap_alloc_new w _

set_option maxRecDepth 100000 in
set_option maxHeartbeats 8000000 in
theorem rhget_dec (A : Option Addr) (n c : Nat) (ys : List UInt8) (d p : Hd) (E : Int) (w : World) (hn : n ≤ 1000000) (hc : n ≤ c) (ho : Oct w A n ys) (h1 : getE ys 3 = 0) (hd : d = dec (getL ys 3))
    (hx : (MayBe d ∧ sect d = ys ∧ p = d ∧ E = 0) ∨ (MayBe d ∧ ¬ sect d = ys ∧ p = zr ∧ E = 31) ∨ (¬ MayBe d ∧ p = zr ∧ E = 31)) :
    Calls Tryd.prog 11 #[.slice A n c] w fun e w' => e = .returned (.tuple #[(.agg #[.bool p.u, .int .i64 p.l, .int .u64 (p.g : Int), .int .u32 (p.s.toNat : Int), .int .u32 (p.r.toNat : Int)]), .int .i64 E]) ∧ Below w.heap.size w w' := by
  have HO := Lib.hid ho
  have H1 := Lib.hid h1
  obtain ⟨ps, hps⟩ : ∃ ps, getL ys 3 = ps := ⟨_, rfl⟩
  have hpl : ps.length = 58 := by rw [← hps]; exact get58 h1
  rw [hps] at hd
  obtain ⟨N1, e1⟩ : ∃ N, num ((ps.drop 1).take 2) = N := ⟨_, rfl⟩
  obtain ⟨N2, e2⟩ : ∃ N, num ((ps.drop 3).take 8) = N := ⟨_, rfl⟩
  obtain ⟨N3, e3⟩ : ∃ N, num ((ps.drop 11).take 4) = N := ⟨_, rfl⟩
  obtain ⟨N4, e4⟩ : ∃ N, num ((ps.drop 15).take 4) = N := ⟨_, rfl⟩
  have hN1 : N1 < 65536 := by
    have h := num_lt_of (xs := (ps.drop 1).take 2) (k := 2) (by simp [hpl])
    omega
  have hN3 : N3 < 4294967296 := by
    have h := num_lt_of (xs := (ps.drop 11).take 4) (k := 4) (by simp [hpl])
    omega
  have hN4 : N4 < 4294967296 := by
    have h := num_lt_of (xs := (ps.drop 15).take 4) (k := 4) (by simp [hpl])
    omega
  obtain ⟨m, hm⟩ : ∃ m, ps[0]? = some m := ⟨_, List.getElem?_eq_getElem (by omega)⟩
  obtain ⟨u, hu⟩ : ∃ u : Bool, decide (m.toNat = 1) = u := ⟨_, rfl⟩
  have e0 : decide (num (ps.take 1) = 1) = u := by
    obtain ⟨hk, hx⟩ := List.getElem?_eq_some_iff.1 hm
    have h := List.drop_eq_getElem_cons hk
    rw [List.drop_zero, hx] at h
    rw [h, ← hu]
    simp [num]
  have hu2 : ((m.toNat : Int) == 1) = u := by
    rw [← hu]
    by_cases h : m.toNat = 1
    · simp [h]
    · have h2 : ¬ ((m.toNat : Int) = 1) := by omega
      simp [h, h2]
  have hdv : ((.agg #[.bool d.u, .int .i64 d.l, .int .u64 (d.g : Int), .int .u32 (d.s.toNat : Int), .int .u32 (d.r.toNat : Int)]) : Value) = .agg #[.bool u, .int .i64 (N1 : Int), .int .u64 (N2 : Int), .int .u32 (N3 : Int), .int .u32 (N4 : Int)] := by
    rw [hd]; unfold dec; dsimp only; rw [e0, e1, e2, e3, e4]
    rw [UInt32.toNat_ofNat_of_lt' (by show _ < 2 ^ 32; omega), UInt32.toNat_ofNat_of_lt' (by show _ < 2 ^ 32; omega)]
  have HDV := Lib.hid hdv
  have HPS := Lib.hid hps
  have HPL := Lib.hid hpl
  have E1 := Lib.hid e1
  have E2 := Lib.hid e2
  have E3 := Lib.hid e3
  have E4 := Lib.hid e4
  have HM := Lib.hid hm
  have HXX := Lib.hid hx
  have hw1 : IntKind.i64.wrap (N1 : Int) = (N1 : Int) := wrap_le (by omega)
  have hw3 : IntKind.u32.wrap (N3 : Int) = (N3 : Int) := wrap_32 hN3
  have hw4 : IntKind.u32.wrap (N4 : Int) = (N4 : Int) := wrap_32 hN4
  clear ho h1 hps hpl e0 e1 e2 e3 e4 hd hdv hm hx hu
  go_enter Tryd.func11, Tryd.ntmps11
  go_wp2_with fail
  refine (rget2_any _ _ _ ys _ _ hn hc (HO.out.alloc _)).mono ?_; rintro e w1 ⟨A1, m1, c1, hmc, rfl, o, kk, hw⟩
  rw [H1.out]
  rw [HPS.out] at o
  have hm1 : m1 = 58 := by rw [← o.len]; exact HPL.out
  subst hm1
  have S1 : Hid (Oct w1 A1 58 ps) := by show Oct _ _ _ _; rw [hw]; exact o.drewN kk
  have Y1 := Lib.hid (hd_new2 hw)
  have B1 : Hid (Below w.heap.size w w1) := by show Below _ _ _; rw [hw]; exact below_drewN (balloc _ _) kk
  clear o hw
  obtain ⟨b, off, hA1, _⟩ := S1.out.2 (by omega)
  subst hA1
  obtain ⟨y0, hy0⟩ : ∃ y, y = w1.drew := ⟨_, rfl⟩
  have SY : Hid (Oct y0 (some ⟨b, off, none⟩) 58 ps) := by show Oct _ _ _ _; rw [hy0]; exact S1.out.drew
  have Y0 : Hid (y0.heap[w.heap.size]? = some (.cells #[.bool false, .int .i64 0, .int .u64 0, .int .u32 0, .int .u32 0] 25 (0, 0))) := by show _ = _; rw [hy0]; exact Y1.out
  have BY : Hid (Below w.heap.size w y0) := by show Below _ _ _; rw [hy0]; exact ⟨B1.out.os, B1.out.tape, B1.out.output, B1.out.size, B1.out.block⟩
  go_upto_region 4 with fail
  go_cut [6] from 18 to 37 (fun s wc => s = .pointer (some ⟨y0.heap.size, 0, none⟩) ∧ wc = y0.alloc (.cells #[.bool u, .int .i64 (N1 : Int), .int .u64 (N2 : Int), .int .u32 (N3 : Int), .int .u32 (N4 : Int)] 25))
  case first =>
    go_wp2_with fail
    refine gate (fun x => Oct x (some ⟨b, off, none⟩) 58 ps) 21 [0, 1, 2, 3, 4, 5, 8, 9, 11, 12, 15, 16] 10 (by kernel_rfl) (by kernel_rfl) (by kernel_rfl) rfl ?_ S1.out ?_
    · intro d v c a w h
      cases d <;> exact h
    rw [← hy0]
    clear hy0 S1 Y1 B1
    refine yields_step ?_ rfl rfl ?_ ?_
    rotate_left
    · intro x hS; go_simp; rfl
    refine yields_step (.pointer (some ⟨b, off, none⟩)) rfl rfl ?_ ?_
    · intro x hS; go_simp; try rfl
    refine yields_step (.int .u8 (m.toNat : Int)) rfl rfl ?_ ?_
    · intro x hS
      have hc0 : x.cell? ⟨b, off, none⟩ = some (.int .u8 (m.toNat : Int)) := by
        obtain ⟨b', off', e', h'⟩ := hS.2 (by omega)
        injection e' with e'
        injection e' with e1 e2
        subst e1 e2
        exact h' 0 m HM.out
      go_simp
    refine yields_step (.bool u) rfl rfl ?_ ?_
    · intro x hS; go_simp
    refine yields_step ?_ rfl rfl ?_ ?_
    rotate_left
    · intro x hS; go_simp; rfl
    refine yields_step (.slice (some ⟨b, off + 1, none⟩) 2 (c1 - 1)) rfl rfl ?_ ?_
    · intro x hS; go_simp; rw [if_pos (by omega), if_neg (by omega)]
    refine yields_step ?_ rfl rfl ?_ ?_
    rotate_left
    · intro x hS; go_simp; rfl
    refine yields_step (.slice (some ⟨b, off + 3, none⟩) 8 (c1 - 3)) rfl rfl ?_ ?_
    · intro x hS; go_simp; rw [if_pos (by omega), if_neg (by omega)]
    refine yields_step ?_ rfl rfl ?_ ?_
    rotate_left
    · intro x hS; go_simp; rfl
    refine yields_step (.slice (some ⟨b, off + 11, none⟩) 4 (c1 - 11)) rfl rfl ?_ ?_
    · intro x hS; go_simp; rw [if_pos (by omega), if_neg (by omega)]
    refine yields_step ?_ rfl rfl ?_ ?_
    rotate_left
    · intro x hS; go_simp; rfl
    refine yields_step (.slice (some ⟨b, off + 15, none⟩) 4 (c1 - 15)) rfl rfl ?_ ?_
    · intro x hS; go_simp; rw [if_pos (by omega), if_neg (by omega)]
    refine Gate.fork (i := 6) (j := 20) (by kernel_rfl) rfl rfl rfl rfl (fun K hK => ?_) (fun K hK => ?_)
    · go_simp
      refine (rof2 (some ⟨b, off + 1, none⟩) (c1 - 1) ((ps.drop 1).take 2) y0 (oct_sub SY.out (by omega) rfl) N1 E1.out).mono ?_; rintro e w' ⟨rfl, rfl⟩
      refine hK _ _ (fun _ => SY.out) ?_
      clear hK K
      refine Gate.takes (P := Tryd.prog) (t := 21) (by kernel_rfl) (fun d v c a w h => by cases d <;> exact h) SY.out [7] 8 _ _ (by kernel_rfl) ?_
      refine yields_step (.int .i64 (N1 : Int)) rfl rfl ?_ ?_
      · intro x hS; go_simp
      refine Gate.fork (i := 10) (j := 20) (by kernel_rfl) rfl rfl rfl rfl (fun K hK => ?_) (fun K hK => ?_)
      · go_simp
        refine (rof8 (some ⟨b, off + 3, none⟩) (c1 - 3) ((ps.drop 3).take 8) y0 (oct_sub SY.out (by omega) rfl) N2 E2.out).mono ?_; rintro e w' ⟨rfl, rfl⟩
        refine hK _ _ (fun _ => SY.out) ?_
        clear hK K
        refine Gate.fork (i := 13) (j := 20) (by kernel_rfl) rfl rfl rfl rfl (fun K hK => ?_) (fun K hK => ?_)
        · go_simp
          refine (rof4 (some ⟨b, off + 11, none⟩) (c1 - 11) ((ps.drop 11).take 4) y0 (oct_sub SY.out (by omega) rfl) N3 E3.out).mono ?_; rintro e w' ⟨rfl, rfl⟩
          refine hK _ _ (fun _ => SY.out) ?_
          clear hK K
          refine Gate.takes (P := Tryd.prog) (t := 21) (by kernel_rfl) (fun d v c a w h => by cases d <;> exact h) SY.out [14] 5 _ _ (by kernel_rfl) ?_
          refine yields_step (.int .u32 (N3 : Int)) rfl rfl ?_ ?_
          · intro x hS; go_simp
          refine Gate.fork (i := 17) (j := 20) (by kernel_rfl) rfl rfl rfl rfl (fun K hK => ?_) (fun K hK => ?_)
          · go_simp
            refine (rof4 (some ⟨b, off + 15, none⟩) (c1 - 15) ((ps.drop 15).take 4) y0 (oct_sub SY.out (by omega) rfl) N4 E4.out).mono ?_; rintro e w' ⟨rfl, rfl⟩
            refine hK _ _ (fun _ => SY.out) ?_
            clear hK K
            refine Gate.takes (P := Tryd.prog) (t := 21) (by kernel_rfl) (fun d v c a w h => by cases d <;> exact h) SY.out [18, 19] 2 _ _ (by kernel_rfl) ?_
            refine yields_step (.int .u32 (N4 : Int)) rfl rfl ?_ ?_
            · intro x hS; go_simp
            refine yields_step (.agg #[.bool u, .int .i64 (N1 : Int), .int .u64 (N2 : Int), .int .u32 (N3 : Int), .int .u32 (N4 : Int)]) rfl rfl ?_ ?_
            · intro x hS; go_simp
            refine Gate.next (i := 20) (by kernel_rfl) rfl rfl (fun K hK => ?_)
            go_simp
            refine hK _ _ (fun _ => SY.out.alloc _) ?_
            clear hK K
            refine Gate.next (i := 21) (by kernel_rfl) rfl rfl (fun K hK => ?_)
            go_simp
            refine hK _ _ (fun h => absurd rfl h) ?_
            clear hK K
            refine Gate.done (by kernel_rfl) ?_
            go_wp2_with fail
            go_meet
            exact ⟨rfl, rfl⟩
          · go_simp
            refine hK _ _ (fun _ => SY.out.alloc _) ?_
            clear hK K
            refine Gate.next (i := 17) (by kernel_rfl) rfl rfl (fun K hK => ?_)
            go_simp
            refine (rof4 (some ⟨b, off + 15, none⟩) (c1 - 15) ((ps.drop 15).take 4) (y0.alloc (.cells #[.bool false, .int .i64 0, .int .u64 0, .int .u32 0, .int .u32 0] 25)) (oct_sub (SY.out.alloc _) (by omega) rfl) N4 E4.out).mono ?_; rintro e w' ⟨rfl, rfl⟩
            refine hK _ _ (fun _ => (SY.out.alloc _)) ?_
            clear hK K
            refine Gate.takes (P := Tryd.prog) (t := 21) (by kernel_rfl) (fun d v c a w h => by cases d <;> exact h) (SY.out.alloc _) [18, 19] 1 _ _ (by kernel_rfl) ?_
            refine yields_step (.int .u32 (N4 : Int)) rfl rfl ?_ ?_
            · intro x hS; go_simp
            refine yields_step (.agg #[.bool u, .int .i64 (N1 : Int), .int .u64 (N2 : Int), .int .u32 (N3 : Int), .int .u32 (N4 : Int)]) rfl rfl ?_ ?_
            · intro x hS; go_simp
            refine Gate.next (i := 21) (by kernel_rfl) rfl rfl (fun K hK => ?_)
            go_simp
            refine hK _ _ (fun h => absurd rfl h) ?_
            clear hK K
            refine Gate.done (by kernel_rfl) ?_
            go_wp2_with fail
            go_meet
            exact ⟨rfl, rfl⟩
        · go_simp
          refine hK _ _ (fun _ => SY.out.alloc _) ?_
          clear hK K
          refine Gate.next (i := 13) (by kernel_rfl) rfl rfl (fun K hK => ?_)
          go_simp
          refine (rof4 (some ⟨b, off + 11, none⟩) (c1 - 11) ((ps.drop 11).take 4) (y0.alloc (.cells #[.bool false, .int .i64 0, .int .u64 0, .int .u32 0, .int .u32 0] 25)) (oct_sub (SY.out.alloc _) (by omega) rfl) N3 E3.out).mono ?_; rintro e w' ⟨rfl, rfl⟩
          refine hK _ _ (fun _ => (SY.out.alloc _)) ?_
          clear hK K
          refine Gate.takes (P := Tryd.prog) (t := 21) (by kernel_rfl) (fun d v c a w h => by cases d <;> exact h) (SY.out.alloc _) [14] 4 _ _ (by kernel_rfl) ?_
          refine yields_step (.int .u32 (N3 : Int)) rfl rfl ?_ ?_
          · intro x hS; go_simp
          refine Gate.next (i := 17) (by kernel_rfl) rfl rfl (fun K hK => ?_)
          go_simp
          refine (rof4 (some ⟨b, off + 15, none⟩) (c1 - 15) ((ps.drop 15).take 4) (y0.alloc (.cells #[.bool false, .int .i64 0, .int .u64 0, .int .u32 0, .int .u32 0] 25)) (oct_sub (SY.out.alloc _) (by omega) rfl) N4 E4.out).mono ?_; rintro e w' ⟨rfl, rfl⟩
          refine hK _ _ (fun _ => (SY.out.alloc _)) ?_
          clear hK K
          refine Gate.takes (P := Tryd.prog) (t := 21) (by kernel_rfl) (fun d v c a w h => by cases d <;> exact h) (SY.out.alloc _) [18, 19] 1 _ _ (by kernel_rfl) ?_
          refine yields_step (.int .u32 (N4 : Int)) rfl rfl ?_ ?_
          · intro x hS; go_simp
          refine yields_step (.agg #[.bool u, .int .i64 (N1 : Int), .int .u64 (N2 : Int), .int .u32 (N3 : Int), .int .u32 (N4 : Int)]) rfl rfl ?_ ?_
          · intro x hS; go_simp
          refine Gate.next (i := 21) (by kernel_rfl) rfl rfl (fun K hK => ?_)
          go_simp
          refine hK _ _ (fun h => absurd rfl h) ?_
          clear hK K
          refine Gate.done (by kernel_rfl) ?_
          go_wp2_with fail
          go_meet
          exact ⟨rfl, rfl⟩
      · go_simp
        refine hK _ _ (fun _ => SY.out.alloc _) ?_
        clear hK K
        refine Gate.next (i := 10) (by kernel_rfl) rfl rfl (fun K hK => ?_)
        go_simp
        refine (rof8 (some ⟨b, off + 3, none⟩) (c1 - 3) ((ps.drop 3).take 8) (y0.alloc (.cells #[.bool false, .int .i64 0, .int .u64 0, .int .u32 0, .int .u32 0] 25)) (oct_sub (SY.out.alloc _) (by omega) rfl) N2 E2.out).mono ?_; rintro e w' ⟨rfl, rfl⟩
        refine hK _ _ (fun _ => (SY.out.alloc _)) ?_
        clear hK K
        refine Gate.next (i := 13) (by kernel_rfl) rfl rfl (fun K hK => ?_)
        go_simp
        refine (rof4 (some ⟨b, off + 11, none⟩) (c1 - 11) ((ps.drop 11).take 4) (y0.alloc (.cells #[.bool false, .int .i64 0, .int .u64 0, .int .u32 0, .int .u32 0] 25)) (oct_sub (SY.out.alloc _) (by omega) rfl) N3 E3.out).mono ?_; rintro e w' ⟨rfl, rfl⟩
        refine hK _ _ (fun _ => (SY.out.alloc _)) ?_
        clear hK K
        refine Gate.takes (P := Tryd.prog) (t := 21) (by kernel_rfl) (fun d v c a w h => by cases d <;> exact h) (SY.out.alloc _) [14] 4 _ _ (by kernel_rfl) ?_
        refine yields_step (.int .u32 (N3 : Int)) rfl rfl ?_ ?_
        · intro x hS; go_simp
        refine Gate.next (i := 17) (by kernel_rfl) rfl rfl (fun K hK => ?_)
        go_simp
        refine (rof4 (some ⟨b, off + 15, none⟩) (c1 - 15) ((ps.drop 15).take 4) (y0.alloc (.cells #[.bool false, .int .i64 0, .int .u64 0, .int .u32 0, .int .u32 0] 25)) (oct_sub (SY.out.alloc _) (by omega) rfl) N4 E4.out).mono ?_; rintro e w' ⟨rfl, rfl⟩
        refine hK _ _ (fun _ => (SY.out.alloc _)) ?_
        clear hK K
        refine Gate.takes (P := Tryd.prog) (t := 21) (by kernel_rfl) (fun d v c a w h => by cases d <;> exact h) (SY.out.alloc _) [18, 19] 1 _ _ (by kernel_rfl) ?_
        refine yields_step (.int .u32 (N4 : Int)) rfl rfl ?_ ?_
        · intro x hS; go_simp
        refine yields_step (.agg #[.bool u, .int .i64 (N1 : Int), .int .u64 (N2 : Int), .int .u32 (N3 : Int), .int .u32 (N4 : Int)]) rfl rfl ?_ ?_
        · intro x hS; go_simp
        refine Gate.next (i := 21) (by kernel_rfl) rfl rfl (fun K hK => ?_)
        go_simp
        refine hK _ _ (fun h => absurd rfl h) ?_
        clear hK K
        refine Gate.done (by kernel_rfl) ?_
        go_wp2_with fail
        go_meet
        exact ⟨rfl, rfl⟩
    · go_simp
      refine hK _ _ (fun _ => SY.out.alloc _) ?_
      clear hK K
      refine Gate.next (i := 6) (by kernel_rfl) rfl rfl (fun K hK => ?_)
      go_simp
      refine (rof2 (some ⟨b, off + 1, none⟩) (c1 - 1) ((ps.drop 1).take 2) (y0.alloc (.cells #[.bool false, .int .i64 0, .int .u64 0, .int .u32 0, .int .u32 0] 25)) (oct_sub (SY.out.alloc _) (by omega) rfl) N1 E1.out).mono ?_; rintro e w' ⟨rfl, rfl⟩
      refine hK _ _ (fun _ => (SY.out.alloc _)) ?_
      clear hK K
      refine Gate.takes (P := Tryd.prog) (t := 21) (by kernel_rfl) (fun d v c a w h => by cases d <;> exact h) (SY.out.alloc _) [7] 7 _ _ (by kernel_rfl) ?_
      refine yields_step (.int .i64 (N1 : Int)) rfl rfl ?_ ?_
      · intro x hS; go_simp
      refine Gate.next (i := 10) (by kernel_rfl) rfl rfl (fun K hK => ?_)
      go_simp
      refine (rof8 (some ⟨b, off + 3, none⟩) (c1 - 3) ((ps.drop 3).take 8) (y0.alloc (.cells #[.bool false, .int .i64 0, .int .u64 0, .int .u32 0, .int .u32 0] 25)) (oct_sub (SY.out.alloc _) (by omega) rfl) N2 E2.out).mono ?_; rintro e w' ⟨rfl, rfl⟩
      refine hK _ _ (fun _ => (SY.out.alloc _)) ?_
      clear hK K
      refine Gate.next (i := 13) (by kernel_rfl) rfl rfl (fun K hK => ?_)
      go_simp
      refine (rof4 (some ⟨b, off + 11, none⟩) (c1 - 11) ((ps.drop 11).take 4) (y0.alloc (.cells #[.bool false, .int .i64 0, .int .u64 0, .int .u32 0, .int .u32 0] 25)) (oct_sub (SY.out.alloc _) (by omega) rfl) N3 E3.out).mono ?_; rintro e w' ⟨rfl, rfl⟩
      refine hK _ _ (fun _ => (SY.out.alloc _)) ?_
      clear hK K
      refine Gate.takes (P := Tryd.prog) (t := 21) (by kernel_rfl) (fun d v c a w h => by cases d <;> exact h) (SY.out.alloc _) [14] 4 _ _ (by kernel_rfl) ?_
      refine yields_step (.int .u32 (N3 : Int)) rfl rfl ?_ ?_
      · intro x hS; go_simp
      refine Gate.next (i := 17) (by kernel_rfl) rfl rfl (fun K hK => ?_)
      go_simp
      refine (rof4 (some ⟨b, off + 15, none⟩) (c1 - 15) ((ps.drop 15).take 4) (y0.alloc (.cells #[.bool false, .int .i64 0, .int .u64 0, .int .u32 0, .int .u32 0] 25)) (oct_sub (SY.out.alloc _) (by omega) rfl) N4 E4.out).mono ?_; rintro e w' ⟨rfl, rfl⟩
      refine hK _ _ (fun _ => (SY.out.alloc _)) ?_
      clear hK K
      refine Gate.takes (P := Tryd.prog) (t := 21) (by kernel_rfl) (fun d v c a w h => by cases d <;> exact h) (SY.out.alloc _) [18, 19] 1 _ _ (by kernel_rfl) ?_
      refine yields_step (.int .u32 (N4 : Int)) rfl rfl ?_ ?_
      · intro x hS; go_simp
      refine yields_step (.agg #[.bool u, .int .i64 (N1 : Int), .int .u64 (N2 : Int), .int .u32 (N3 : Int), .int .u32 (N4 : Int)]) rfl rfl ?_ ?_
      · intro x hS; go_simp
      refine Gate.next (i := 21) (by kernel_rfl) rfl rfl (fun K hK => ?_)
      go_simp
      refine hK _ _ (fun h => absurd rfl h) ?_
      clear hK K
      refine Gate.done (by kernel_rfl) ?_
      go_wp2_with fail
      go_meet
      exact ⟨rfl, rfl⟩
  case rest =>
    obtain ⟨rfl, hwc⟩ := hcut
    have XB : Hid (wc.heap[y0.heap.size]? = some (.cells #[.bool u, .int .i64 (N1 : Int), .int .u64 (N2 : Int), .int .u32 (N3 : Int), .int .u32 (N4 : Int)] 25 (0, 0))) := by show _ = _; rw [hwc]; exact heap_alloc_new y0 _
    have YB : Hid (wc.heap[w.heap.size]? = some (.cells #[.bool false, .int .i64 0, .int .u64 0, .int .u32 0, .int .u32 0] 25 (0, 0))) := by show _ = _; rw [hwc]; exact kept_below Y0.out (balloc y0 _)
    have BB : Hid (Below w.heap.size w wc) := by show Below _ _ _; rw [hwc]; exact bthen BY.out (balloc y0 _)
    clear hwc hy0 S1 Y1 B1 SY Y0 BY
    rcases HXX.out with ⟨hm, hs, rfl, rfl⟩ | ⟨hm, hs, rfl, rfl⟩ | ⟨hm, rfl, rfl⟩
    · have ha := bstr_eq (sect p) ys true (by simp [hs])
      have HMD := Lib.hid hm
      clear hm hs
      go_wp2_with ((with_reducible apply L_loadHd); exact rfl; exact XB.out; exact rfl)
      rw [← HDV.out]
      refine (rhput_ok p _ HMD.out).mono ?_; rintro e w8 ⟨v8, rfl, o8, b8⟩
      obtain ⟨A8, c8, rfl, l8, s8⟩ := o8.form (sect_length p)
      have Y8 := Lib.hid (kept_below YB.out b8)
      have X8 := Lib.hid (kept_below XB.out b8)
      have B8 : Hid (Below w.heap.size w w8) := bthen BB.out b8
      have cv1 := s8.conv bt Tryd.underlying9 c8
      have cv2 := (HO.out.below B8.out).conv bt Tryd.underlying9 c
      clear b8 o8 s8
      go_wp2_with (first
        | ((with_reducible apply L_loadHd); exact rfl; exact X8.out; exact rfl)
        | ((with_reducible apply L_storeRow (N := 5) info_hd); exact rfl; exact rfl; exact Y8.out; exact rfl; exact rfl; (simp [Value.oneCell']); intro w4 h4 g4; have H4 := Lib.hid h4; have G4 := Lib.hid g4; clear h4 g4))
      refine bodyPost_ret (results_cell_tmp_row rfl _ _ _ _ rfl (run_loadVar_row _ _ _ _ _ _ _ H4.out Tryd.underlying25 rfl info_hd)) rfl ?_
      exact ⟨by rw [HDV.out]; rfl, below_up B8.out G4.out (Nat.le_refl _)⟩
    · have ha := bstr_eq (sect d) ys false (by simp [hs])
      have HMD := Lib.hid hm
      clear hm hs
      go_wp2_with ((with_reducible apply L_loadHd); exact rfl; exact XB.out; exact rfl)
      rw [← HDV.out]
      refine (rhput_ok d _ HMD.out).mono ?_; rintro e w8 ⟨v8, rfl, o8, b8⟩
      obtain ⟨A8, c8, rfl, l8, s8⟩ := o8.form (sect_length d)
      have Y8 := Lib.hid (kept_below YB.out b8)
      have B8 : Hid (Below w.heap.size w w8) := bthen BB.out b8
      have cv1 := s8.conv bt Tryd.underlying9 c8
      have cv2 := (HO.out.below B8.out).conv bt Tryd.underlying9 c
      clear b8 o8 s8
      go_wp2_with ((with_reducible apply L_storeRow (N := 5) info_hd); exact rfl; exact rfl; exact Y8.out; exact rfl; exact rfl; (simp [Value.oneCell']); intro w4 h4 g4; have H4 := Lib.hid h4; have G4 := Lib.hid g4; clear h4 g4)
      refine bodyPost_ret (results_cell_tmp_row rfl _ _ _ _ rfl (run_loadVar_row _ _ _ _ _ _ _ H4.out Tryd.underlying25 rfl info_hd)) rfl ?_
      exact ⟨rfl, below_up B8.out G4.out (Nat.le_refl _)⟩
    · have HMD := Lib.hid hm
      clear hm
      go_wp2_with ((with_reducible apply L_loadHd); exact rfl; exact XB.out; exact rfl)
      rw [← HDV.out]
      refine (rhput_no d _ HMD.out).mono ?_; rintro e w8 ⟨rfl, b8⟩
      have Y8 := Lib.hid (kept_below YB.out b8)
      have B8 : Hid (Below w.heap.size w w8) := bthen BB.out b8
      clear b8
      go_wp2_with ((with_reducible apply L_storeRow (N := 5) info_hd); exact rfl; exact rfl; exact Y8.out; exact rfl; exact rfl; (simp [Value.oneCell']); intro w4 h4 g4; have H4 := Lib.hid h4; have G4 := Lib.hid g4; clear h4 g4)
      refine bodyPost_ret (results_cell_tmp_row rfl _ _ _ _ rfl (run_loadVar_row _ _ _ _ _ _ _ H4.out Tryd.underlying25 rfl info_hd)) rfl ?_
      exact ⟨rfl, below_up B8.out G4.out (Nat.le_refl _)⟩

set_option maxRecDepth 100000 in
set_option maxHeartbeats 2000000 in
theorem rhget_any (A : Option Addr) (n c : Nat) (ys : List UInt8) (p : Hd) (E : Int) (w : World) (hn : n ≤ 1000000) (hc : n ≤ c) (ho : Oct w A n ys) (hW : GWay ys p E) :
    Calls Tryd.prog 11 #[.slice A n c] w fun e w' => e = .returned (.tuple #[(.agg #[.bool p.u, .int .i64 p.l, .int .u64 (p.g : Int), .int .u32 (p.s.toNat : Int), .int .u32 (p.r.toNat : Int)]), .int .i64 E]) ∧ Below w.heap.size w w' := by
  by_cases h1 : getE ys 3 = 0
  · refine rhget_dec A n c ys _ p E w hn hc ho h1 rfl ?_
    rcases hW with ⟨h2, _⟩ | ⟨_, h3, h4, h5⟩ | ⟨_, h3, h4, h5, h6⟩ | ⟨_, h3, h4, h5, h6⟩
    · exact absurd h1 h2
    · exact .inr (.inr ⟨h5, h4, h3⟩)
    · exact .inr (.inl ⟨h5, h6, h4, h3⟩)
    · exact .inl ⟨h4 ▸ h5, h4 ▸ h6, h4, h3⟩
  · have hp : p = zr ∧ E = getE ys 3 := by
      rcases hW with ⟨_, h3, h4⟩ | ⟨h2, _⟩ | ⟨h2, _⟩ | ⟨h2, _⟩
      · exact ⟨h4, h3⟩
      · exact absurd h2 h1
      · exact absurd h2 h1
      · exact absurd h2 h1
    obtain ⟨rfl, h2⟩ := hp
    have HO := Lib.hid ho
    have hE0 : ¬ E = 0 := by rw [h2]; exact h1
    have H2 := Lib.hid h2.symm
    clear h1 h2 hW ho
    go_enter Tryd.func11, Tryd.ntmps11
    go_wp2_with fail
    refine (rget2_any _ _ _ ys _ _ hn hc (HO.out.alloc _)).mono ?_; rintro e w1 ⟨A1, m1, c1, hmc, rfl, o, kk, hw⟩
    rw [H2.out]
    have Y1 := Lib.hid (hd_new2 hw)
    have B1 : Hid (Below w.heap.size w w1) := by show Below _ _ _; rw [hw]; exact below_drewN (balloc _ _) kk
    clear o hw
    go_wp2_with ((with_reducible apply L_storeRow (N := 5) info_hd); exact rfl; exact rfl; exact Y1.out; exact rfl; exact rfl; (simp [Value.oneCell']); intro w3 h3 g3; have H3 := Lib.hid h3; have G3 := Lib.hid g3; clear h3 g3)
    refine bodyPost_ret (results_cell_tmp_row rfl _ _ _ _ rfl (run_loadVar_row _ _ _ _ _ _ _ H3.out Tryd.underlying25 rfl info_hd)) rfl ?_
    exact ⟨rfl, below_up B1.out G3.out (Nat.le_refl _)⟩
end Go.Proofs.YtheflapmjopemaaDoor.W.Hd
