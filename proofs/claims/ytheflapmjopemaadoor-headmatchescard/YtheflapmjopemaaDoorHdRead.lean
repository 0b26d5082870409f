/-
  The contract of read. No conditions.
-/
import Derived.Test.YtheflapmjopemaaDoorHdPut
namespace Go.Proofs.YtheflapmjopemaaDoor.W.Hd
open Go.RowKit Oc Gt
set_option linter.unusedVariables false

/-- where each number begins -/
def ofs (k : Nat) : Nat := [0, 1, 3, 11, 15, 19].getD k 0
theorem ofs_step {k : Nat} (h : k < 5) : ofs (k + 1) = ofs k + wd k ∧ ofs k + wd k ≤ 19 := by
  match k, h with
  | 0, _ => decide
  | 1, _ => decide
  | 2, _ => decide
  | 3, _ => decide
  | 4, _ => decide
def numP (ps : List UInt8) (k : Nat) : Nat := num ((ps.drop (ofs k)).take (wd k))
/-- the first numbers read, zeros behind -/
def filled (ps : List UInt8) (j : Nat) : Array Value := #[.int .u64 ((if 0 < j then numP ps 0 else 0 : Nat) : Int), .int .u64 ((if 1 < j then numP ps 1 else 0 : Nat) : Int), .int .u64 ((if 2 < j then numP ps 2 else 0 : Nat) : Int), .int .u64 ((if 3 < j then numP ps 3 else 0 : Nat) : Int), .int .u64 ((if 4 < j then numP ps 4 else 0 : Nat) : Int)]
theorem filled_step (ps : List UInt8) {j : Nat} (h : j < 5) : (filled ps j).setIfInBounds j (.int .u64 ((numP ps j : Nat) : Int)) = filled ps (j + 1) := by
  match j, h with
  | 0, _ => rfl
  | 1, _ => rfl
  | 2, _ => rfl
  | 3, _ => rfl
  | 4, _ => rfl
theorem filled_at (ps : List UInt8) {j k : Nat} (h : k < 5) : ∃ z : Int, (filled ps j)[k]? = some (.int .u64 z) := by
  match k, h with
  | 0, _ => exact ⟨_, rfl⟩
  | 1, _ => exact ⟨_, rfl⟩
  | 2, _ => exact ⟨_, rfl⟩
  | 3, _ => exact ⟨_, rfl⟩
  | 4, _ => exact ⟨_, rfl⟩
theorem filled_none (ps : List UInt8) {j k : Nat} (h : ¬ k < 5) : (filled ps j)[k]? = none := by
  rw [Array.getElem?_eq_none]
  show 5 ≤ k
  omega
/-- a reader outlasts a store into a row of numbers -/
theorem rd_filled {w w' : World} {T : TypeId} {R D j : Nat} {xs ps : List UInt8} {g : Bool} {U : TypeId} (h : Rd w T R xs g) (hD : w.heap[D]? = some (.cells (filled ps j) U (0, 0))) (hne : R ≠ D) (hg : w.grownBy w' (some D)) : Rd w' T R xs g := by
  have hl := h.lt
  obtain ⟨A, c, hh, hc, ho⟩ := h
  refine ⟨A, c, (hg.block R hl (fun e => hne (by injection e))).trans hh, hc, ho.grown hg fun off hn e => ?_⟩
  obtain ⟨b, off', x, e', _, hcl⟩ := ho.at_ hn
  rw [e] at e'
  injection e' with e'
  injection e' with e1 e2
  subst e1 e2
  rw [cell_of_row w D _ _ U (0, 0) hD] at hcl
  by_cases h5 : off + 0 < 5
  · obtain ⟨z, hz⟩ := filled_at ps (j := j) h5
    rw [hz] at hcl
    simp at hcl
  · rw [filled_none ps h5] at hcl
    cases hcl

set_option maxRecDepth 100000 in
set_option maxHeartbeats 4000000 in
theorem read_hd (A : Option Addr) (c : Nat) (ps : List UInt8) (p : Hd) (w : World) (hp : p = dec ps) (ho : Oct w A 58 ps) (he : EnvH w) :
    Calls Tryd.prog 27 #[.slice A 58 c] w fun e w' => e = .returned (.agg #[.bool p.u, .int .i64 p.l, .int .u64 (p.g : Int), .int .u32 (p.s.toNat : Int), .int .u32 (p.r.toNat : Int)]) ∧ Below w.heap.size w w' := by
  have hl := ho.len
  have HO := Lib.hid ho
  have HL := Lib.hid hl
  have HE := Lib.hid he
  obtain ⟨N0, e0⟩ : ∃ N, num (ps.take 1) = N := ⟨_, rfl⟩
  obtain ⟨N1, e1⟩ : ∃ N, num ((ps.drop 1).take 2) = N := ⟨_, rfl⟩
  obtain ⟨N2, e2⟩ : ∃ N, num ((ps.drop 3).take 8) = N := ⟨_, rfl⟩
  obtain ⟨N3, e3⟩ : ∃ N, num ((ps.drop 11).take 4) = N := ⟨_, rfl⟩
  obtain ⟨N4, e4⟩ : ∃ N, num ((ps.drop 15).take 4) = N := ⟨_, rfl⟩
  have hN1 : N1 < 65536 := by
    have h := num_lt_of (xs := (ps.drop 1).take 2) (k := 2) (by simp [hl])
    omega
  have hN3 : N3 < 4294967296 := by
    have h := num_lt_of (xs := (ps.drop 11).take 4) (k := 4) (by simp [hl])
    omega
  have hN4 : N4 < 4294967296 := by
    have h := num_lt_of (xs := (ps.drop 15).take 4) (k := 4) (by simp [hl])
    omega
  obtain ⟨u, hu⟩ : ∃ u : Bool, decide (N0 = 1) = u := ⟨_, rfl⟩
  have hpv : ((.agg #[.bool p.u, .int .i64 p.l, .int .u64 (p.g : Int), .int .u32 (p.s.toNat : Int), .int .u32 (p.r.toNat : Int)]) : Value) = .agg #[.bool u, .int .i64 (N1 : Int), .int .u64 (N2 : Int), .int .u32 (N3 : Int), .int .u32 (N4 : Int)] := by
    rw [hp]; unfold dec; dsimp only; rw [e0, e1, e2, e3, e4, hu]
    rw [UInt32.toNat_ofNat_of_lt' (by show _ < 2 ^ 32; omega), UInt32.toNat_ofNat_of_lt' (by show _ < 2 ^ 32; omega)]
  have hu2 : ((N0 : Int) == 1) = u := by
    rw [← hu]
    by_cases h : N0 = 1
    · simp [h]
    · have h2 : ¬ ((N0 : Int) = 1) := by omega
      simp [h, h2]
  have HF : Hid (filled ps 5 = #[.int .u64 (N0 : Int), .int .u64 (N1 : Int), .int .u64 (N2 : Int), .int .u64 (N3 : Int), .int .u64 (N4 : Int)]) := by
    show _ = _
    rw [← e0, ← e1, ← e2, ← e3, ← e4]
    rfl
  have HPV := Lib.hid hpv
  have HU := Lib.hid hu2
  clear ho hl hp hpv e0 e1 e2 e3 e4 he hu hu2
  go_enter Tryd.func27, Tryd.ntmps27
  go_wp2_with fail
  refine (read_any _ _ _ ps _ (by omega) (HO.out.alloc _)).mono ?_; rintro e w1 ⟨R, rfl, hR, rd, b1⟩
  have hh0 := kept_below (hd_new w) b1
  have hR1 : w.heap.size + 1 ≤ R := by simpa using hR
  have hR2 := rd.lt
  have B1 : Hid (Below w.heap.size w w1) := bthen (balloc _ _) b1
  obtain ⟨D, hD⟩ : ∃ D, D = w1.heap.size := ⟨_, rfl⟩
  obtain ⟨w2, hw2⟩ : ∃ w2, w2 = w1.alloc (.cells #[.int .u64 0, .int .u64 0, .int .u64 0, .int .u64 0, .int .u64 0] 42) := ⟨_, rfl⟩
  have Y2 : Hid (w2.heap[w.heap.size]? = some (.cells #[.bool false, .int .i64 0, .int .u64 0, .int .u32 0, .int .u32 0] 25 (0, 0))) := by show _ = _; rw [hw2]; exact kept_below hh0 (balloc _ _)
  have Z2 : Hid (w2.heap[D]? = some (.cells (filled ps 0) 42 (0, 0))) := by show _ = _; rw [hw2, hD]; exact heap_alloc_new w1 _
  have R2 : Hid (Rd w2 64 R (ps.drop (ofs 0)) true) := by show Rd _ _ _ _ _; rw [hw2]; exact rd.below (balloc _ _)
  have B2 : Hid (Below w.heap.size w w2) := by show Below _ _ _; rw [hw2]; exact bthen B1.out (balloc _ _)
  have hRD : R < D := by omega
  have HD := Lib.hid hD
  have HW := Lib.hid hw2
  clear hR hh0 rd b1 B1 hR2 hD hw2
  go_upto_region 3 with fail
  rw [← HW.out, ← HD.out]
  clear HW HD
  go_wp2_with fail
  go_loopw [8] (fun q wr => ∃ j : Nat, j ≤ 5 ∧ q = .int .i64 (j : Int) ∧ Hid (Rd wr 64 R (ps.drop (ofs j)) true) ∧ Hid (Below w.heap.size w wr) ∧ Hid (wr.heap[D]? = some (.cells (filled ps j) 42 (0, 0))) ∧ Hid (wr.heap[w.heap.size]? = some (.cells #[.bool false, .int .i64 0, .int .u64 0, .int .u32 0, .int .u32 0] 25 (0, 0)))) (fun q _ => 5 - (intOf q).toNat)
  case atStart => exact ⟨0, by omega, rfl, R2, B2, Z2, Y2⟩
  case round =>
    obtain ⟨j, hj, rfl, RJ, BJ, ZJ, YJ⟩ := hrel
    by_cases hlt : j < 5
    · have hlt2 : (j : Int) < 5 := by omega
      obtain ⟨k, hk⟩ : ∃ k, wd j = k := ⟨_, rfl⟩
      obtain ⟨N, hN⟩ : ∃ N, numP ps j = N := ⟨_, rfl⟩
      have hk1 : 1 ≤ k := by rw [← hk]; exact (wd_lt hlt).1
      have hk8 : k ≤ 8 := by rw [← hk]; exact (wd_lt hlt).2
      have hlen : k ≤ (ps.drop (ofs j)).length := by rw [List.length_drop, HL.out]; have := (ofs_step hlt).2; omega
      have hlen2 : (ps.drop (ofs j)).length ≤ 1000000000 := by rw [List.length_drop, HL.out]; omega
      have hnum : num ((ps.drop (ofs j)).take k) = N := by rw [← hk, ← hN]; rfl
      have EJ : EnvH wr := HE.out.below BJ.out
      have hgl : 0 < wr.heap.size := by obtain ⟨_, t, fr, hh⟩ := EJ; exact (Array.getElem?_eq_some_iff.1 hh).1
      have hc : wr.cell? ⟨0, j, none⟩ = some (.int .i64 (k : Int)) := by rw [EJ.cell hlt, hk]
      have HK := Lib.hid hk
      have HN := Lib.hid hN
      have HL1 := Lib.hid hlen
      have HL2 := Lib.hid hlen2
      have HM := Lib.hid hnum
      clear EJ hk hN hlen hlen2 hnum
      go_wp2_with fail
      refine (u_take k RJ.out HL2.out hk1 hk8 HL1.out N HM.out).mono ?_; rintro e w3 ⟨rfl, rd, g3⟩
      have Z3 := Lib.hid (kept_by ZJ.out g3 (by omega))
      have Y3 := Lib.hid (kept_by YJ.out g3 (by omega))
      have B3 : Hid (Below w.heap.size w w3) := below_up BJ.out g3 (by omega)
      have R3 : Hid (Rd w3 64 R (ps.drop (ofs (j + 1))) true) := by
        show Rd _ _ _ _ _
        rw [(ofs_step hlt).1, HK.out, ← List.drop_drop]
        exact rd
      obtain ⟨z, hz⟩ := filled_at ps (j := j) hlt
      have hc3 : w3.cell? ⟨D, j, none⟩ = some (.int .u64 z) := by rw [cell_of_row _ _ _ _ _ _ Z3.out]; exact hz
      have hf3 : w3.frozen? ⟨D, j, none⟩ = false := frozen_of_row w3 D j _ _ Z3.out
      clear rd g3 hz hc
      go_wp2
      go_roundw
      case rel =>
        have hg := grown_set w3 D j (.int .u64 (N : Int))
        refine ⟨j + 1, by omega, by go_num, rd_filled R3.out Z3.out (by omega) hg, below_up B3.out hg (by omega), ?_, kept_by Y3.out hg (by omega)⟩
        show _ = _
        rw [heap_setCell_same w3 D j _ _ _ Z3.out, ← HN.out, filled_step ps hlt]
      case measure => simp [intOf]; omega
    · have hj5 : j = 5 := by omega
      subst hj5
      have hz := ZJ.out
      rw [HF.out] at hz
      obtain ⟨x0, x1, x2, x3, x4⟩ := cells5 hz
      have hu2 := HU.out
      clear hz
      go_wp2_with ((with_reducible apply L_storeRow (N := 5) info_hd); exact rfl; exact rfl; exact YJ.out; exact rfl; exact rfl; (simp [Value.oneCell']); intro w4 h4 g4; have H4 := Lib.hid h4; have G4 := Lib.hid g4; clear h4 g4)
      refine bodyPost_ret (results_cell_row rfl _ _ _ _ _ _ _ rfl H4.out Tryd.underlying25 rfl info_hd) rfl ?_
      exact ⟨by rw [HPV.out], below_up BJ.out G4.out (Nat.le_refl _)⟩
end Go.Proofs.YtheflapmjopemaaDoor.W.Hd
