/-
  Elder texts, one behind the other: HdRead, HdGet, HdRg, HdRget. No conditions.
-/
import Derived.Test.YtapklelkcicjlaaGreatDoorKHd
import Derived.Test.YtapklelkcicjlaaGreatDoorKHr
/-! The contract of read. No conditions. -/
namespace Go.Proofs.YtapklelkcicjlaaGreatDoor.W.Hd
set_option maxRecDepth 100000
open Go.RowKit Oc Gt
set_option linter.unusedVariables false

/-- where each number begins -/
def ofs (k : Nat) : Nat := [0, 1, 3, 11, 15, 19].getD k 0
theorem ofs_step {k : Nat} (h : k < 5) : ofs (k + 1) = ofs k + wd k ∧ ofs k + wd k ≤ 19 := by
  match k, h with
  | 0, _ => decide
  | 1, _ => decide
  | 2, _ => decide
  | 3, _ => decide
  | 4, _ => decide
def numP (ps : List UInt8) (k : Nat) : Nat := num ((ps.drop (ofs k)).take (wd k))
/-- the first numbers read, zeros behind -/
def filled (ps : List UInt8) (j : Nat) : Array Value := #[.int .u64 ((if 0 < j then numP ps 0 else 0 : Nat) : Int), .int .u64 ((if 1 < j then numP ps 1 else 0 : Nat) : Int), .int .u64 ((if 2 < j then numP ps 2 else 0 : Nat) : Int), .int .u64 ((if 3 < j then numP ps 3 else 0 : Nat) : Int), .int .u64 ((if 4 < j then numP ps 4 else 0 : Nat) : Int)]
theorem filled_step (ps : List UInt8) {j : Nat} (h : j < 5) : (filled ps j).setIfInBounds j (.int .u64 ((numP ps j : Nat) : Int)) = filled ps (j + 1) := by
  match j, h with
  | 0, _ => rfl
  | 1, _ => rfl
  | 2, _ => rfl
  | 3, _ => rfl
  | 4, _ => rfl
theorem filled_at (ps : List UInt8) {j k : Nat} (h : k < 5) : ∃ z : Int, (filled ps j)[k]? = some (.int .u64 z) := by
  match k, h with
  | 0, _ => exact ⟨_, rfl⟩
  | 1, _ => exact ⟨_, rfl⟩
  | 2, _ => exact ⟨_, rfl⟩
  | 3, _ => exact ⟨_, rfl⟩
  | 4, _ => exact ⟨_, rfl⟩
theorem filled_none (ps : List UInt8) {j k : Nat} (h : ¬ k < 5) : (filled ps j)[k]? = none := by
  rw [Array.getElem?_eq_none]
  show 5 ≤ k
  omega
/-- a reader outlasts a store into a row of numbers -/
theorem rd_filled {w w' : World} {T : TypeId} {R D j : Nat} {xs ps : List UInt8} {g : Bool} {U : TypeId} (h : Rd w T R xs g) (hD : w.heap[D]? = some (.cells (filled ps j) U (0, 0))) (hne : R ≠ D) (hg : w.grownBy w' (some D)) : Rd w' T R xs g := by
  have hl := h.lt
  obtain ⟨A, c, hh, hc, ho⟩ := h
  refine ⟨A, c, (hg.block R hl (fun e => hne (by injection e))).trans hh, hc, ho.grown hg fun off hn e => ?_⟩
  obtain ⟨b, off', x, e', _, hcl⟩ := ho.at_ hn
  rw [e] at e'
  injection e' with e'
  injection e' with e1 e2
  subst e1 e2
  rw [cell_of_row w D _ _ U (0, 0) hD] at hcl
  by_cases h5 : off + 0 < 5
  · obtain ⟨z, hz⟩ := filled_at ps (j := j) h5
    rw [hz] at hcl
    simp at hcl
  · rw [filled_none ps h5] at hcl
    cases hcl

set_option maxRecDepth 100000 in
set_option maxHeartbeats 4000000 in
theorem read_hd (A : Option Addr) (c : Nat) (ps : List UInt8) (p : Hd) (w : World) (hp : p = dec ps) (ho : Oct w A 58 ps) (he : EnvH w) :
    Calls Tryz.prog 121 #[.slice A 58 c] w fun e w' => e = .returned (.agg #[.bool p.u, .int .i64 p.l, .int .u64 (p.g : Int), .int .u32 (p.s.toNat : Int), .int .u32 (p.r.toNat : Int)]) ∧ Below w.heap.size w w' := by
  have hl := ho.len
  have HO := Lib.hid ho
  have HL := Lib.hid hl
  have HE := Lib.hid he
  obtain ⟨N0, e0⟩ : ∃ N, num (ps.take 1) = N := ⟨_, rfl⟩
  obtain ⟨N1, e1⟩ : ∃ N, num ((ps.drop 1).take 2) = N := ⟨_, rfl⟩
  obtain ⟨N2, e2⟩ : ∃ N, num ((ps.drop 3).take 8) = N := ⟨_, rfl⟩
  obtain ⟨N3, e3⟩ : ∃ N, num ((ps.drop 11).take 4) = N := ⟨_, rfl⟩
  obtain ⟨N4, e4⟩ : ∃ N, num ((ps.drop 15).take 4) = N := ⟨_, rfl⟩
  have hN1 : N1 < 65536 := by
    have h := num_lt_of (xs := (ps.drop 1).take 2) (k := 2) (by simp [hl])
    omega
  have hN3 : N3 < 4294967296 := by
    have h := num_lt_of (xs := (ps.drop 11).take 4) (k := 4) (by simp [hl])
    omega
  have hN4 : N4 < 4294967296 := by
    have h := num_lt_of (xs := (ps.drop 15).take 4) (k := 4) (by simp [hl])
    omega
  obtain ⟨u, hu⟩ : ∃ u : Bool, decide (N0 = 1) = u := ⟨_, rfl⟩
  have hpv : ((.agg #[.bool p.u, .int .i64 p.l, .int .u64 (p.g : Int), .int .u32 (p.s.toNat : Int), .int .u32 (p.r.toNat : Int)]) : Value) = .agg #[.bool u, .int .i64 (N1 : Int), .int .u64 (N2 : Int), .int .u32 (N3 : Int), .int .u32 (N4 : Int)] := by
    rw [hp]; unfold dec; dsimp only; rw [e0, e1, e2, e3, e4, hu]
    rw [UInt32.toNat_ofNat_of_lt' (by show _ < 2 ^ 32; omega), UInt32.toNat_ofNat_of_lt' (by show _ < 2 ^ 32; omega)]
  have hu2 : ((N0 : Int) == 1) = u := by
    rw [← hu]
    by_cases h : N0 = 1
    · simp [h]
    · have h2 : ¬ ((N0 : Int) = 1) := by omega
      simp [h, h2]
  have HF : Hid (filled ps 5 = #[.int .u64 (N0 : Int), .int .u64 (N1 : Int), .int .u64 (N2 : Int), .int .u64 (N3 : Int), .int .u64 (N4 : Int)]) := by
    show _ = _
    rw [← e0, ← e1, ← e2, ← e3, ← e4]
    rfl
  have HPV := Lib.hid hpv
  have HU := Lib.hid hu2
  clear ho hl hp hpv e0 e1 e2 e3 e4 he hu hu2
  go_enter Tryz.func121, Tryz.ntmps121
  go_wp2_with fail
  refine (read_any _ _ _ ps _ (by omega) (HO.out.alloc _)).mono ?_; rintro e w1 ⟨R, rfl, hR, rd, b1⟩
  have hh0 := kept_below (hd_new w) b1
  have hR1 : w.heap.size + 1 ≤ R := by simpa using hR
  have hR2 := rd.lt
  have B1 : Hid (Below w.heap.size w w1) := bthen (balloc _ _) b1
  obtain ⟨D, hD⟩ : ∃ D, D = w1.heap.size := ⟨_, rfl⟩
  obtain ⟨w2, hw2⟩ : ∃ w2, w2 = w1.alloc (.cells #[.int .u64 0, .int .u64 0, .int .u64 0, .int .u64 0, .int .u64 0] 166) := ⟨_, rfl⟩
  have Y2 : Hid (w2.heap[w.heap.size]? = some (.cells #[.bool false, .int .i64 0, .int .u64 0, .int .u32 0, .int .u32 0] 32 (0, 0))) := by show _ = _; rw [hw2]; exact kept_below hh0 (balloc _ _)
  have Z2 : Hid (w2.heap[D]? = some (.cells (filled ps 0) 166 (0, 0))) := by show _ = _; rw [hw2, hD]; exact heap_alloc_new w1 _
  have R2 : Hid (Rd w2 209 R (ps.drop (ofs 0)) true) := by show Rd _ _ _ _ _; rw [hw2]; exact rd.below (balloc _ _)
  have B2 : Hid (Below w.heap.size w w2) := by show Below _ _ _; rw [hw2]; exact bthen B1.out (balloc _ _)
  have hRD : R < D := by omega
  have HD := Lib.hid hD
  have HW := Lib.hid hw2
  clear hR hh0 rd b1 B1 hR2 hD hw2
  go_upto_region 3 with fail
  rw [← HW.out, ← HD.out]
  clear HW HD
  go_wp2_with fail
  go_loopw [8] (fun q wr => ∃ j : Nat, j ≤ 5 ∧ q = .int .i64 (j : Int) ∧ Hid (Rd wr 209 R (ps.drop (ofs j)) true) ∧ Hid (Below w.heap.size w wr) ∧ Hid (wr.heap[D]? = some (.cells (filled ps j) 166 (0, 0))) ∧ Hid (wr.heap[w.heap.size]? = some (.cells #[.bool false, .int .i64 0, .int .u64 0, .int .u32 0, .int .u32 0] 32 (0, 0)))) (fun q _ => 5 - (intOf q).toNat)
  case atStart => exact ⟨0, by omega, rfl, R2, B2, Z2, Y2⟩
  case round =>
    obtain ⟨j, hj, rfl, RJ, BJ, ZJ, YJ⟩ := hrel
    by_cases hlt : j < 5
    · have hlt2 : (j : Int) < 5 := by omega
      obtain ⟨k, hk⟩ : ∃ k, wd j = k := ⟨_, rfl⟩
      obtain ⟨N, hN⟩ : ∃ N, numP ps j = N := ⟨_, rfl⟩
      have hk1 : 1 ≤ k := by rw [← hk]; exact (wd_lt hlt).1
      have hk8 : k ≤ 8 := by rw [← hk]; exact (wd_lt hlt).2
      have hlen : k ≤ (ps.drop (ofs j)).length := by rw [List.length_drop, HL.out]; have := (ofs_step hlt).2; omega
      have hlen2 : (ps.drop (ofs j)).length ≤ 1000000000 := by rw [List.length_drop, HL.out]; omega
      have hnum : num ((ps.drop (ofs j)).take k) = N := by rw [← hk, ← hN]; rfl
      have EJ : EnvH wr := HE.out.below BJ.out
      have hgl : 0 < wr.heap.size := by obtain ⟨_, t, fr, hh⟩ := EJ; exact (Array.getElem?_eq_some_iff.1 hh).1
      have hc : wr.cell? ⟨0, j, none⟩ = some (.int .i64 (k : Int)) := by rw [EJ.cell hlt, hk]
      have HK := Lib.hid hk
      have HN := Lib.hid hN
      have HL1 := Lib.hid hlen
      have HL2 := Lib.hid hlen2
      have HM := Lib.hid hnum
      clear EJ hk hN hlen hlen2 hnum
      go_wp2_with fail
      refine (u_take k RJ.out HL2.out hk1 hk8 HL1.out N HM.out).mono ?_; rintro e w3 ⟨rfl, rd, g3⟩
      have Z3 := Lib.hid (kept_by ZJ.out g3 (by omega))
      have Y3 := Lib.hid (kept_by YJ.out g3 (by omega))
      have B3 : Hid (Below w.heap.size w w3) := below_up BJ.out g3 (by omega)
      have R3 : Hid (Rd w3 209 R (ps.drop (ofs (j + 1))) true) := by
        show Rd _ _ _ _ _
        rw [(ofs_step hlt).1, HK.out, ← List.drop_drop]
        exact rd
      obtain ⟨z, hz⟩ := filled_at ps (j := j) hlt
      have hc3 : w3.cell? ⟨D, j, none⟩ = some (.int .u64 z) := by rw [cell_of_row _ _ _ _ _ _ Z3.out]; exact hz
      have hf3 : w3.frozen? ⟨D, j, none⟩ = false := frozen_of_row w3 D j _ _ Z3.out
      clear rd g3 hz hc
      go_wp2
      go_roundw
      case rel =>
        have hg := grown_set w3 D j (.int .u64 (N : Int))
        refine ⟨j + 1, by omega, by go_num, rd_filled R3.out Z3.out (by omega) hg, below_up B3.out hg (by omega), ?_, kept_by Y3.out hg (by omega)⟩
        show _ = _
        rw [heap_setCell_same w3 D j _ _ _ Z3.out, ← HN.out, filled_step ps hlt]
      case measure => simp [intOf]; omega
    · have hj5 : j = 5 := by omega
      subst hj5
      have hz := ZJ.out
      rw [HF.out] at hz
      obtain ⟨x0, x1, x2, x3, x4⟩ := cells5 hz
      have hu2 := HU.out
      clear hz
      go_wp2_with ((with_reducible apply L_storeRow (N := 5) info_hd); exact rfl; exact rfl; exact YJ.out; exact rfl; exact rfl; (simp [Value.oneCell']); intro w4 h4 g4; have H4 := Lib.hid h4; have G4 := Lib.hid g4; clear h4 g4)
      refine bodyPost_ret (results_cell_row rfl _ _ _ _ _ _ _ rfl H4.out Tryz.underlying32 rfl info_hd) rfl ?_
      exact ⟨by rw [HPV.out], below_up BJ.out G4.out (Nat.le_refl _)⟩
end Go.Proofs.YtapklelkcicjlaaGreatDoor.W.Hd

/-! The contract of Get. No conditions. -/
namespace Go.Proofs.YtapklelkcicjlaaGreatDoor.W.Hd
set_option maxRecDepth 100000
open Go.RowKit Oc Gt
set_option linter.unusedVariables false

theorem bstr_eq (xs ys : List UInt8) (p : Bool) (hp : decide (xs = ys) = p) : ((bstr xs).toList == (bstr ys).toList) = p := by
  rw [ByteArray.toList_eq, ByteArray.toList_eq]
  show (xs == ys) = p
  rw [← hp]
  by_cases h : xs = ys <;> simp [h]
/-- octets held against octets -/
theorem equal_any (A B : Option Addr) (n m c d : Nat) (xs ys : List UInt8) (p : Bool) (w : World) (h1 : Oct w A n xs) (h2 : Oct w B m ys) (hp : decide (xs = ys) = p) :
    Calls Tryz.prog 122 #[.slice A n c, .slice B m d] w fun e w' => e = .returned (.bool p) ∧ w = w' := by
  have cv1 := h1.conv bt Tryz.underlying9 c
  have cv2 := h2.conv bt Tryz.underlying9 d
  have hb := bstr_eq xs ys p hp
  clear h1 h2 hp
  go_enter Tryz.func122, Tryz.ntmps122
  go_wp2
  go_ret
  exact ⟨rfl, rfl⟩

set_option maxRecDepth 100000 in
set_option maxHeartbeats 2000000 in
theorem hget_any (A : Option Addr) (n c : Nat) (ys : List UInt8) (p : Hd) (E : Int) (w : World) (hn : n ≤ 1000000) (hc : n ≤ c) (ho : Oct w A n ys) (he : EnvH w) (hW : GWay ys p E) :
    Calls Tryz.prog 82 #[.slice A n c] w fun e w' => e = .returned (.tuple #[(.agg #[.bool p.u, .int .i64 p.l, .int .u64 (p.g : Int), .int .u32 (p.s.toNat : Int), .int .u32 (p.r.toNat : Int)]), .int .i64 E]) ∧ Below w.heap.size w w' := by
  have HO := Lib.hid ho
  have HE := Lib.hid he
  clear ho he
  by_cases h1 : getE ys 3 = 0
  · obtain ⟨d, hd⟩ : ∃ d, d = dec (getL ys 3) := ⟨_, rfl⟩
    have hx : (MayBe d ∧ sect d = ys ∧ p = d ∧ E = 0) ∨ (MayBe d ∧ ¬ sect d = ys ∧ p = zr ∧ E = 31) ∨ (¬ MayBe d ∧ p = zr ∧ E = 31) := by
      rcases hW with ⟨h2, _⟩ | ⟨_, h3, h4, h5⟩ | ⟨_, h3, h4, h5, h6⟩ | ⟨_, h3, h4, h5, h6⟩
      · exact absurd h1 h2
      · exact .inr (.inr ⟨by rw [hd]; exact h5, h4, h3⟩)
      · exact .inr (.inl ⟨by rw [hd]; exact h5, by rw [hd]; exact h6, h4, h3⟩)
      · rw [← hd] at h4
        exact .inl ⟨h4 ▸ h5, h4 ▸ h6, h4, h3⟩
    have hl := get58 h1
    have H1 := Lib.hid h1
    have HD := Lib.hid hd
    have HL := Lib.hid hl
    have HXX := Lib.hid hx
    clear hW h1 hd hl hx
    go_enter Tryz.func82, Tryz.ntmps82
    go_wp2_with fail
    refine (pget_any _ _ _ ys _ _ hn hc (HO.out.alloc _) (HE.out.1.alloc _)).mono ?_; rintro e w1 ⟨v1, rfl, o, b1⟩
    rw [H1.out]
    obtain ⟨A1, c1, rfl, l1, s1⟩ := o.form HL.out
    have S1 := Lib.hid s1
    have Y1 := Lib.hid (kept_below (hd_new w) b1)
    have B1 : Hid (Below w.heap.size w w1) := bthen (balloc _ _) b1
    clear o b1 s1
    go_wp2_with fail
    refine (read_hd _ _ _ d _ HD.out S1.out (HE.out.below B1.out)).mono ?_; rintro e w2 ⟨rfl, b2⟩
    have Y2 := Lib.hid (kept_below (kept_below Y1.out b2) (balloc w2 (.cells #[.bool d.u, .int .i64 d.l, .int .u64 (d.g : Int), .int .u32 (d.s.toNat : Int), .int .u32 (d.r.toNat : Int)] 32)))
    have X2 := Lib.hid (heap_alloc_new w2 (.cells #[.bool d.u, .int .i64 d.l, .int .u64 (d.g : Int), .int .u32 (d.s.toNat : Int), .int .u32 (d.r.toNat : Int)] 32))
    have B2 : Hid (Below w.heap.size w (w2.alloc (.cells #[.bool d.u, .int .i64 d.l, .int .u64 (d.g : Int), .int .u32 (d.s.toNat : Int), .int .u32 (d.r.toNat : Int)] 32))) := bthen (bthen B1.out b2) (balloc _ _)
    clear b2 Y1 S1
    rcases HXX.out with ⟨hm, hs, rfl, rfl⟩ | ⟨hm, hs, rfl, rfl⟩ | ⟨hm, rfl, rfl⟩
    · have HM := Lib.hid hm
      have HS := Lib.hid hs
      clear hm hs
      go_wp2_with fail
      refine (hdput_ok p _ HM.out (HE.out.below B2.out)).mono ?_; rintro e w3 ⟨v3, rfl, o3, b3⟩
      rw [HS.out] at o3
      obtain ⟨A3, c3, rfl, l3, s3⟩ := o3.form (n := 64) (by rw [← HS.out]; exact sect_length p)
      have S3 := Lib.hid s3
      have Y3 := Lib.hid (kept_below Y2.out b3)
      have X3 := Lib.hid (kept_below X2.out b3)
      have B3 : Hid (Below w.heap.size w w3) := bthen B2.out b3
      clear b3 s3 o3
      go_wp2_with fail
      refine (equal_any _ _ _ _ _ _ ys ys true _ S3.out (HO.out.below B3.out) (by simp)).mono ?_; rintro e w' ⟨rfl, rfl⟩
      go_wp2_with (first
        | ((with_reducible apply L_loadHd); exact rfl; exact X3.out; exact rfl)
        | ((with_reducible apply L_storeRow (N := 5) info_hd); exact rfl; exact rfl; exact Y3.out; exact rfl; exact rfl; (simp [Value.oneCell']); intro w4 h4 g4; have H4 := Lib.hid h4; have G4 := Lib.hid g4; clear h4 g4))
      refine bodyPost_ret (results_cell_tmp_row rfl _ _ _ _ rfl (run_loadVar_row _ _ _ _ _ _ _ H4.out Tryz.underlying32 rfl info_hd)) rfl ?_
      exact ⟨rfl, below_up B3.out G4.out (Nat.le_refl _)⟩
    · have HM := Lib.hid hm
      have HS := Lib.hid hs
      clear hm hs
      go_wp2_with fail
      refine (hdput_ok d _ HM.out (HE.out.below B2.out)).mono ?_; rintro e w3 ⟨v3, rfl, o3, b3⟩
      obtain ⟨A3, c3, rfl, l3, s3⟩ := o3.form (sect_length d)
      have S3 := Lib.hid s3
      have Y3 := Lib.hid (kept_below Y2.out b3)
      have B3 : Hid (Below w.heap.size w w3) := bthen B2.out b3
      clear b3 s3 o3
      go_wp2_with fail
      refine (equal_any _ _ _ _ _ _ (sect d) ys false _ S3.out (HO.out.below B3.out) (by simp [HS.out])).mono ?_; rintro e w' ⟨rfl, rfl⟩
      go_wp2_with ((with_reducible apply L_storeRow (N := 5) info_hd); exact rfl; exact rfl; exact Y3.out; exact rfl; exact rfl; (simp [Value.oneCell']); intro w4 h4 g4; have H4 := Lib.hid h4; have G4 := Lib.hid g4; clear h4 g4)
      refine bodyPost_ret (results_cell_tmp_row rfl _ _ _ _ rfl (run_loadVar_row _ _ _ _ _ _ _ H4.out Tryz.underlying32 rfl info_hd)) rfl ?_
      exact ⟨rfl, below_up B3.out G4.out (Nat.le_refl _)⟩
    · have HM := Lib.hid hm
      clear hm
      go_wp2_with fail
      refine (hdput_no d _ HM.out).mono ?_; rintro e w3 ⟨rfl, b3⟩
      have Y3 := Lib.hid (kept_below Y2.out b3)
      have B3 : Hid (Below w.heap.size w w3) := bthen B2.out b3
      clear b3
      go_wp2_with ((with_reducible apply L_storeRow (N := 5) info_hd); exact rfl; exact rfl; exact Y3.out; exact rfl; exact rfl; (simp [Value.oneCell']); intro w4 h4 g4; have H4 := Lib.hid h4; have G4 := Lib.hid g4; clear h4 g4)
      refine bodyPost_ret (results_cell_tmp_row rfl _ _ _ _ rfl (run_loadVar_row _ _ _ _ _ _ _ H4.out Tryz.underlying32 rfl info_hd)) rfl ?_
      exact ⟨rfl, below_up B3.out G4.out (Nat.le_refl _)⟩
  · have hp : p = zr ∧ E = getE ys 3 := by
      rcases hW with ⟨_, h3, h4⟩ | ⟨h2, _⟩ | ⟨h2, _⟩ | ⟨h2, _⟩
      · exact ⟨h4, h3⟩
      · exact absurd h2 h1
      · exact absurd h2 h1
      · exact absurd h2 h1
    obtain ⟨rfl, h2⟩ := hp
    have hE0 : ¬ E = 0 := by rw [h2]; exact h1
    have H2 := Lib.hid h2.symm
    clear h1 h2 hW
    go_enter Tryz.func82, Tryz.ntmps82
    go_wp2_with fail
    refine (pget_any _ _ _ ys _ _ hn hc (HO.out.alloc _) (HE.out.1.alloc _)).mono ?_; rintro e w1 ⟨v1, rfl, o, b⟩
    rw [H2.out]
    have Y1 := Lib.hid (kept_below (hd_new w) b)
    have B1 : Hid (Below w.heap.size w w1) := bthen (balloc _ _) b
    clear o b
    go_wp2_with ((with_reducible apply L_storeRow (N := 5) info_hd); exact rfl; exact rfl; exact Y1.out; exact rfl; exact rfl; (simp [Value.oneCell']); intro w3 h3 g3; have H3 := Lib.hid h3; have G3 := Lib.hid g3; clear h3 g3)
    refine bodyPost_ret (results_cell_tmp_row rfl _ _ _ _ rfl (run_loadVar_row _ _ _ _ _ _ _ H3.out Tryz.underlying32 rfl info_hd)) rfl ?_
    exact ⟨rfl, below_up B1.out G3.out (Nat.le_refl _)⟩
end Go.Proofs.YtapklelkcicjlaaGreatDoor.W.Hd

/-! The contract of the reference's Get of pages once more, with a word on the room behind what it tells. No conditions. -/
namespace Go.Proofs.YtapklelkcicjlaaGreatDoor.W.Hd
set_option maxRecDepth 100000
open Go.RowKit Oc
set_option linter.unusedVariables false

/-- the reference tells a part of what it got -/
def RGTold2 (w : World) (ys : List UInt8) (k : Int) (e : Ending) (w' : World) : Prop := ∃ A m c, m ≤ c ∧ e = .returned (.tuple #[.slice A m c, .int .i64 (getE ys k)]) ∧ Oct w A m (getL ys k) ∧ ∃ j, w' = w.drewN j
theorem rgtold2_no {w : World} {k : Int} {ys : List UInt8} {z : Int} (h : getE ys k = z) (hz : z ≠ 0) (j : Nat) : RGTold2 w ys k (.returned (.tuple #[.slice none 0 0, .int .i64 z])) (w.drewN j) := by
  subst h
  refine ⟨none, 0, 0, Nat.le_refl _, rfl, ?_, j, rfl⟩
  rw [getL_no hz]
  exact Oct.nil _ _
theorem rgtold2_ok {w : World} {k : Int} {ys zs : List UInt8} {A : Option Addr} {m c : Nat} (h : getE ys k = 0) (hz : (openL ys).drop 2 = zs) (ho : Oct w A m zs) (hmc : m ≤ c) (j : Nat) : RGTold2 w ys k (.returned (.tuple #[.slice A m c, .int .i64 0])) (w.drewN j) := by
  refine ⟨A, m, c, hmc, by rw [h], ?_, j, rfl⟩
  rw [getL_ok h, hz]
  exact ho

set_option maxHeartbeats 1000000 in
theorem rget2_any (A : Option Addr) (n c : Nat) (ys : List UInt8) (k : Int) (w : World) (hn : n ≤ 1000000) (hc : n ≤ c) (ho : Oct w A n ys) :
    Calls Tryz.prog 126 #[.slice A n c, .int .i64 k] w (RGTold2 w ys k) := by
  have HO := Lib.hid ho
  have hl := ho.len
  by_cases h64 : n = 64
  · subst h64
    rcases openE_some ys hl with h0 | h0
    · have hbl := openL_length hl h0
      obtain ⟨bs, hbs⟩ : ∃ bs, openL ys = bs := ⟨_, rfl⟩
      rw [hbs] at hbl
      by_cases hk : Right k
      · obtain ⟨x, hx⟩ : ∃ x, bs[0]? = some x := ⟨_, List.getElem?_eq_getElem (by omega)⟩
        obtain ⟨y, hy⟩ : ∃ y, bs[1]? = some y := ⟨_, List.getElem?_eq_getElem (by omega)⟩
        have hyl := y.toNat_lt
        have hkl : kindL bs = kindV x y := by unfold kindL; rw [getD_of hx, getD_of hy]
        have his := kindV_is (x := x) (y := y) hk
        rw [← hkl, ← hbs] at his
        have hq : (getE ys k = 0 ∧ (x.toNat : Int) = 213 ∧ (y.toNat : Int) = k) ∨ (getE ys k = 31 ∧ ¬ (x.toNat : Int) = 213) ∨ (getE ys k = 31 ∧ (x.toNat : Int) = 213 ∧ ¬ (y.toNat : Int) = k) := by
          by_cases h1 : x = 213
          · have h2 : (x.toNat : Int) = 213 := by rw [h1]; rfl
            by_cases h3 : (y.toNat : Int) = k
            · exact .inl ⟨getE_ok hl h0 hk (his.2 ⟨h1, h3⟩), h2, h3⟩
            · exact .inr (.inr ⟨getE_form hl h0 (fun h => h3 (his.1 h.2).2), h2, h3⟩)
          · refine .inr (.inl ⟨getE_form hl h0 (fun h => h1 (his.1 h.2).1), fun h => h1 (UInt8.toNat_inj.1 (by have : x.toNat = 213 := by omega
                                                                                                               exact this))⟩)
        have H0 := Lib.hid h0
        have HBL := Lib.hid hbl
        have HBS := Lib.hid hbs
        have HK := Lib.hid hk
        have HX := Lib.hid hx
        have HY := Lib.hid hy
        have HQ := Lib.hid hq
        clear ho hl h0 hbl hbs hk hx hy his hkl hq
        go_enter Tryz.func126, Tryz.ntmps126
        go_wp2_with fail
        refine (ropen2_any _ _ _ ys _ (by omega) hc HO.out).mono ?_; rintro e w1 ⟨A1, m1, c1, hmc, rfl, o, kk, rfl⟩
        rw [H0.out]
        rw [HBS.out] at o
        have hm1 : m1 = 60 := by rw [← o.len]; exact HBL.out
        subst hm1
        obtain ⟨b, off, rfl, hcs⟩ := o.2 (by decide)
        have d0 : w.cell? ⟨b, off, none⟩ = some (.int .u8 (x.toNat : Int)) := hcs 0 x HX.out
        have d1 : w.cell? ⟨b, off + 1, none⟩ = some (.int .u8 (y.toNat : Int)) := hcs 1 y HY.out
        have O := Lib.hid o
        clear o hcs
        rcases HQ.out with ⟨hz, q1, q2⟩ | ⟨hz, q1⟩ | ⟨hz, q1, q2⟩
        · rw [q1] at d0
          have HZ := Lib.hid hz
          subst q2
          clear hz q1
          have o2 := O.out.map (k := 2) (by omega)
          have O2 := Lib.hid o2
          clear o2
          go_wp2_with fail
          refine (rright_yes _ _ HK.out).mono ?_; rintro e w' ⟨rfl, rfl⟩
          go_wp2
          go_ret2
          exact rgtold2_ok HZ.out (by rw [HBS.out]) O2.out (by omega) _
        · have HZ := Lib.hid hz
          clear hz
          go_wp2_with fail
          refine (rright_yes _ _ HK.out).mono ?_; rintro e w' ⟨rfl, rfl⟩
          go_wp2
          go_ret2
          exact rgtold2_no HZ.out (by decide) _
        · rw [q1] at d0
          have HZ := Lib.hid hz
          clear hz q1
          go_wp2_with fail
          refine (rright_yes _ _ HK.out).mono ?_; rintro e w' ⟨rfl, rfl⟩
          go_wp2
          go_ret2
          exact rgtold2_no HZ.out (by decide) _
      · have hz := getE_form (k := k) hl h0 (fun h => hk h.1)
        have HZ := Lib.hid hz
        have H0 := Lib.hid h0
        have HK := Lib.hid hk
        clear ho hl h0 hbl hbs hk hz
        go_enter Tryz.func126, Tryz.ntmps126
        go_wp2_with fail
        refine (ropen_any _ _ _ ys _ (by omega) hc HO.out).mono ?_; rintro e w1 ⟨A1, m1, c1, rfl, o, kk, rfl⟩
        rw [H0.out]
        clear o
        go_wp2_with fail
        refine (rright_no _ _ HK.out).mono ?_; rintro e w' ⟨rfl, rfl⟩
        go_wp2
        go_ret2
        exact rgtold2_no HZ.out (by decide) _
    · have hz := getE_sum hl (by rw [h0]; decide) k
      rw [h0] at hz
      have HZ := Lib.hid hz
      have H0 := Lib.hid h0
      clear ho hl h0 hz
      go_enter Tryz.func126, Tryz.ntmps126
      go_wp2_with fail
      refine (ropen_any _ _ _ ys _ (by omega) hc HO.out).mono ?_; rintro e w1 ⟨A1, m1, c1, rfl, o, kk, rfl⟩
      rw [H0.out]
      clear o
      go_wp2
      go_ret2
      exact rgtold2_no HZ.out (by decide) _
  · have hz := getE_short (ys := ys) (by omega) k
    have HZ := Lib.hid hz
    clear ho hl hz
    go_enter Tryz.func126, Tryz.ntmps126
    go_wp2
    go_ret2
    exact rgtold2_no HZ.out (by decide) 0

end Go.Proofs.YtapklelkcicjlaaGreatDoor.W.Hd

/-! The contract of the reference's Get. No conditions. -/
namespace Go.Proofs.YtapklelkcicjlaaGreatDoor.W.Hd
set_option maxRecDepth 100000
open Go.RowKit Oc Gt
set_option linter.unusedVariables false

theorem rof2 (A : Option Addr) (c : Nat) (xs : List UInt8) (w : World) (ho : Oct w A 2 xs) (u : Nat) (hu : num xs = u) : Calls Tryz.prog 127 #[.slice A 2 c] w fun e w' => e = .returned (.int .u64 (u : Int)) ∧ w = w' := W.of_any A 2 c xs w (by omega) ho u hu
theorem rof4 (A : Option Addr) (c : Nat) (xs : List UInt8) (w : World) (ho : Oct w A 4 xs) (u : Nat) (hu : num xs = u) : Calls Tryz.prog 127 #[.slice A 4 c] w fun e w' => e = .returned (.int .u64 (u : Int)) ∧ w = w' := W.of_any A 4 c xs w (by omega) ho u hu
theorem rof8 (A : Option Addr) (c : Nat) (xs : List UInt8) (w : World) (ho : Oct w A 8 xs) (u : Nat) (hu : num xs = u) : Calls Tryz.prog 127 #[.slice A 8 c] w fun e w' => e = .returned (.int .u64 (u : Int)) ∧ w = w' := W.of_any A 8 c xs w (by omega) ho u hu
theorem oct_sub {w : World} {b off n : Nat} {xs : List UInt8} (h : Oct w (some ⟨b, off, none⟩) n xs) {i k o : Nat} (hk : i + k ≤ n) (ho : o = off + i) : Oct w (some ⟨b, o, none⟩) k ((xs.drop i).take k) := by
  subst ho
  have h2 := h.sub (i := i) (k := k) hk
  rw [show Option.map (fun x => x.add i) (some (⟨b, off, none⟩ : Addr)) = some ⟨b, off + i, none⟩ by simp [Go.WideShapes.add_plain]] at h2
  exact h2
theorem wrap_le {x : Nat} (h : x ≤ 1000000000) : IntKind.i64.wrap (x : Int) = (x : Int) := by
  unfold IntKind.wrap
  simp [IntKind.signed, IntKind.bits]
  omega
theorem wrap_32 {x : Nat} (h : x < 4294967296) : IntKind.u32.wrap (x : Int) = (x : Int) := by
  unfold IntKind.wrap
  simp [IntKind.signed, IntKind.bits]
  omega
theorem hd_new2 {w w1 : World} {k : Nat} {cs : Array Value} {T : TypeId} (h : w1 = (w.alloc (.cells cs T)).drewN k) : w1.heap[w.heap.size]? = some (.cells cs T (0, 0)) := by rw [h]; exact heap_alloc_new w _

set_option maxRecDepth 100000 in
set_option maxHeartbeats 8000000 in
theorem rhget_dec (A : Option Addr) (n c : Nat) (ys : List UInt8) (d p : Hd) (E : Int) (w : World) (hn : n ≤ 1000000) (hc : n ≤ c) (ho : Oct w A n ys) (h1 : getE ys 3 = 0) (hd : d = dec (getL ys 3))
    (hx : (MayBe d ∧ sect d = ys ∧ p = d ∧ E = 0) ∨ (MayBe d ∧ ¬ sect d = ys ∧ p = zr ∧ E = 31) ∨ (¬ MayBe d ∧ p = zr ∧ E = 31)) :
    Calls Tryz.prog 95 #[.slice A n c] w fun e w' => e = .returned (.tuple #[(.agg #[.bool p.u, .int .i64 p.l, .int .u64 (p.g : Int), .int .u32 (p.s.toNat : Int), .int .u32 (p.r.toNat : Int)]), .int .i64 E]) ∧ Below w.heap.size w w' := by
  have HO := Lib.hid ho
  have H1 := Lib.hid h1
  obtain ⟨ps, hps⟩ : ∃ ps, getL ys 3 = ps := ⟨_, rfl⟩
  have hpl : ps.length = 58 := by rw [← hps]; exact get58 h1
  rw [hps] at hd
  obtain ⟨N1, e1⟩ : ∃ N, num ((ps.drop 1).take 2) = N := ⟨_, rfl⟩
  obtain ⟨N2, e2⟩ : ∃ N, num ((ps.drop 3).take 8) = N := ⟨_, rfl⟩
  obtain ⟨N3, e3⟩ : ∃ N, num ((ps.drop 11).take 4) = N := ⟨_, rfl⟩
  obtain ⟨N4, e4⟩ : ∃ N, num ((ps.drop 15).take 4) = N := ⟨_, rfl⟩
  have hN1 : N1 < 65536 := by
    have h := num_lt_of (xs := (ps.drop 1).take 2) (k := 2) (by simp [hpl])
    omega
  have hN3 : N3 < 4294967296 := by
    have h := num_lt_of (xs := (ps.drop 11).take 4) (k := 4) (by simp [hpl])
    omega
  have hN4 : N4 < 4294967296 := by
    have h := num_lt_of (xs := (ps.drop 15).take 4) (k := 4) (by simp [hpl])
    omega
  obtain ⟨m, hm⟩ : ∃ m, ps[0]? = some m := ⟨_, List.getElem?_eq_getElem (by omega)⟩
  obtain ⟨u, hu⟩ : ∃ u : Bool, decide (m.toNat = 1) = u := ⟨_, rfl⟩
  have e0 : decide (num (ps.take 1) = 1) = u := by
    obtain ⟨hk, hx⟩ := List.getElem?_eq_some_iff.1 hm
    have h := List.drop_eq_getElem_cons hk
    rw [List.drop_zero, hx] at h
    rw [h, ← hu]
    simp [num]
  have hu2 : ((m.toNat : Int) == 1) = u := by
    rw [← hu]
    by_cases h : m.toNat = 1
    · simp [h]
    · have h2 : ¬ ((m.toNat : Int) = 1) := by omega
      simp [h, h2]
  have hdv : ((.agg #[.bool d.u, .int .i64 d.l, .int .u64 (d.g : Int), .int .u32 (d.s.toNat : Int), .int .u32 (d.r.toNat : Int)]) : Value) = .agg #[.bool u, .int .i64 (N1 : Int), .int .u64 (N2 : Int), .int .u32 (N3 : Int), .int .u32 (N4 : Int)] := by
    rw [hd]; unfold dec; dsimp only; rw [e0, e1, e2, e3, e4]
    rw [UInt32.toNat_ofNat_of_lt' (by show _ < 2 ^ 32; omega), UInt32.toNat_ofNat_of_lt' (by show _ < 2 ^ 32; omega)]
  have HDV := Lib.hid hdv
  have HPS := Lib.hid hps
  have HPL := Lib.hid hpl
  have E1 := Lib.hid e1
  have E2 := Lib.hid e2
  have E3 := Lib.hid e3
  have E4 := Lib.hid e4
  have HM := Lib.hid hm
  have HXX := Lib.hid hx
  have hw1 : IntKind.i64.wrap (N1 : Int) = (N1 : Int) := wrap_le (by omega)
  have hw3 : IntKind.u32.wrap (N3 : Int) = (N3 : Int) := wrap_32 hN3
  have hw4 : IntKind.u32.wrap (N4 : Int) = (N4 : Int) := wrap_32 hN4
  clear ho h1 hps hpl e0 e1 e2 e3 e4 hd hdv hm hx hu
  go_enter Tryz.func95, Tryz.ntmps95
  go_wp2_with fail
  refine (rget2_any _ _ _ ys _ _ hn hc (HO.out.alloc _)).mono ?_; rintro e w1 ⟨A1, m1, c1, hmc, rfl, o, kk, hw⟩
  rw [H1.out]
  rw [HPS.out] at o
  have hm1 : m1 = 58 := by rw [← o.len]; exact HPL.out
  subst hm1
  have S1 : Hid (Oct w1 A1 58 ps) := by show Oct _ _ _ _; rw [hw]; exact o.drewN kk
  have Y1 := Lib.hid (hd_new2 hw)
  have B1 : Hid (Below w.heap.size w w1) := by show Below _ _ _; rw [hw]; exact below_drewN (balloc _ _) kk
  clear o hw
  obtain ⟨b, off, hA1, _⟩ := S1.out.2 (by omega)
  subst hA1
  obtain ⟨y0, hy0⟩ : ∃ y, y = w1.drew := ⟨_, rfl⟩
  have SY : Hid (Oct y0 (some ⟨b, off, none⟩) 58 ps) := by show Oct _ _ _ _; rw [hy0]; exact S1.out.drew
  have Y0 : Hid (y0.heap[w.heap.size]? = some (.cells #[.bool false, .int .i64 0, .int .u64 0, .int .u32 0, .int .u32 0] 32 (0, 0))) := by show _ = _; rw [hy0]; exact Y1.out
  have BY : Hid (Below w.heap.size w y0) := by show Below _ _ _; rw [hy0]; exact ⟨B1.out.os, B1.out.tape, B1.out.output, B1.out.size, B1.out.block⟩
  go_upto_region 4 with fail
  go_cut [6] from 18 to 37 (fun s wc => s = .pointer (some ⟨y0.heap.size, 0, none⟩) ∧ wc = y0.alloc (.cells #[.bool u, .int .i64 (N1 : Int), .int .u64 (N2 : Int), .int .u32 (N3 : Int), .int .u32 (N4 : Int)] 32))
  case first =>
    go_wp2_with fail
    refine gate (fun x => Oct x (some ⟨b, off, none⟩) 58 ps) 21 [0, 1, 2, 3, 4, 5, 8, 9, 11, 12, 15, 16] 10 (by kernel_rfl) (by kernel_rfl) (by kernel_rfl) rfl ?_ S1.out ?_
    · intro d v c a w h
      cases d <;> exact h
    rw [← hy0]
    clear hy0 S1 Y1 B1
    refine yields_step ?_ rfl rfl ?_ ?_
    rotate_left
    · intro x hS; go_simp; rfl
    refine yields_step (.pointer (some ⟨b, off, none⟩)) rfl rfl ?_ ?_
    · intro x hS; go_simp; try rfl
    refine yields_step (.int .u8 (m.toNat : Int)) rfl rfl ?_ ?_
    · intro x hS
      have hc0 : x.cell? ⟨b, off, none⟩ = some (.int .u8 (m.toNat : Int)) := by
        obtain ⟨b', off', e', h'⟩ := hS.2 (by omega)
        injection e' with e'
        injection e' with e1 e2
        subst e1 e2
        exact h' 0 m HM.out
      go_simp
    refine yields_step (.bool u) rfl rfl ?_ ?_
    · intro x hS; go_simp
    refine yields_step ?_ rfl rfl ?_ ?_
    rotate_left
    · intro x hS; go_simp; rfl
    refine yields_step (.slice (some ⟨b, off + 1, none⟩) 2 (c1 - 1)) rfl rfl ?_ ?_
    · intro x hS; go_simp; rw [if_pos (by omega), if_neg (by omega)]
    refine yields_step ?_ rfl rfl ?_ ?_
    rotate_left
    · intro x hS; go_simp; rfl
    refine yields_step (.slice (some ⟨b, off + 3, none⟩) 8 (c1 - 3)) rfl rfl ?_ ?_
    · intro x hS; go_simp; rw [if_pos (by omega), if_neg (by omega)]
    refine yields_step ?_ rfl rfl ?_ ?_
    rotate_left
    · intro x hS; go_simp; rfl
    refine yields_step (.slice (some ⟨b, off + 11, none⟩) 4 (c1 - 11)) rfl rfl ?_ ?_
    · intro x hS; go_simp; rw [if_pos (by omega), if_neg (by omega)]
    refine yields_step ?_ rfl rfl ?_ ?_
    rotate_left
    · intro x hS; go_simp; rfl
    refine yields_step (.slice (some ⟨b, off + 15, none⟩) 4 (c1 - 15)) rfl rfl ?_ ?_
    · intro x hS; go_simp; rw [if_pos (by omega), if_neg (by omega)]
    refine Gate.fork (i := 6) (j := 20) (by kernel_rfl) rfl rfl rfl rfl (fun K hK => ?_) (fun K hK => ?_)
    · go_simp
      refine (rof2 (some ⟨b, off + 1, none⟩) (c1 - 1) ((ps.drop 1).take 2) y0 (oct_sub SY.out (by omega) rfl) N1 E1.out).mono ?_; rintro e w' ⟨rfl, rfl⟩
      refine hK _ _ (fun _ => SY.out) ?_
      clear hK K
      refine Gate.takes (P := Tryz.prog) (t := 21) (by kernel_rfl) (fun d v c a w h => by cases d <;> exact h) SY.out [7] 8 _ _ (by kernel_rfl) ?_
      refine yields_step (.int .i64 (N1 : Int)) rfl rfl ?_ ?_
      · intro x hS; go_simp
      refine Gate.fork (i := 10) (j := 20) (by kernel_rfl) rfl rfl rfl rfl (fun K hK => ?_) (fun K hK => ?_)
      · go_simp
        refine (rof8 (some ⟨b, off + 3, none⟩) (c1 - 3) ((ps.drop 3).take 8) y0 (oct_sub SY.out (by omega) rfl) N2 E2.out).mono ?_; rintro e w' ⟨rfl, rfl⟩
        refine hK _ _ (fun _ => SY.out) ?_
        clear hK K
        refine Gate.fork (i := 13) (j := 20) (by kernel_rfl) rfl rfl rfl rfl (fun K hK => ?_) (fun K hK => ?_)
        · go_simp
          refine (rof4 (some ⟨b, off + 11, none⟩) (c1 - 11) ((ps.drop 11).take 4) y0 (oct_sub SY.out (by omega) rfl) N3 E3.out).mono ?_; rintro e w' ⟨rfl, rfl⟩
          refine hK _ _ (fun _ => SY.out) ?_
          clear hK K
          refine Gate.takes (P := Tryz.prog) (t := 21) (by kernel_rfl) (fun d v c a w h => by cases d <;> exact h) SY.out [14] 5 _ _ (by kernel_rfl) ?_
          refine yields_step (.int .u32 (N3 : Int)) rfl rfl ?_ ?_
          · intro x hS; go_simp
          refine Gate.fork (i := 17) (j := 20) (by kernel_rfl) rfl rfl rfl rfl (fun K hK => ?_) (fun K hK => ?_)
          · go_simp
            refine (rof4 (some ⟨b, off + 15, none⟩) (c1 - 15) ((ps.drop 15).take 4) y0 (oct_sub SY.out (by omega) rfl) N4 E4.out).mono ?_; rintro e w' ⟨rfl, rfl⟩
            refine hK _ _ (fun _ => SY.out) ?_
            clear hK K
            refine Gate.takes (P := Tryz.prog) (t := 21) (by kernel_rfl) (fun d v c a w h => by cases d <;> exact h) SY.out [18, 19] 2 _ _ (by kernel_rfl) ?_
            refine yields_step (.int .u32 (N4 : Int)) rfl rfl ?_ ?_
            · intro x hS; go_simp
            refine yields_step (.agg #[.bool u, .int .i64 (N1 : Int), .int .u64 (N2 : Int), .int .u32 (N3 : Int), .int .u32 (N4 : Int)]) rfl rfl ?_ ?_
            · intro x hS; go_simp
            refine Gate.next (i := 20) (by kernel_rfl) rfl rfl (fun K hK => ?_)
            go_simp
            refine hK _ _ (fun _ => SY.out.alloc _) ?_
            clear hK K
            refine Gate.next (i := 21) (by kernel_rfl) rfl rfl (fun K hK => ?_)
            go_simp
            refine hK _ _ (fun h => absurd rfl h) ?_
            clear hK K
            refine Gate.done (by kernel_rfl) ?_
            go_wp2_with fail
            go_meet
            exact ⟨rfl, rfl⟩
          · go_simp
            refine hK _ _ (fun _ => SY.out.alloc _) ?_
            clear hK K
            refine Gate.next (i := 17) (by kernel_rfl) rfl rfl (fun K hK => ?_)
            go_simp
            refine (rof4 (some ⟨b, off + 15, none⟩) (c1 - 15) ((ps.drop 15).take 4) (y0.alloc (.cells #[.bool false, .int .i64 0, .int .u64 0, .int .u32 0, .int .u32 0] 32)) (oct_sub (SY.out.alloc _) (by omega) rfl) N4 E4.out).mono ?_; rintro e w' ⟨rfl, rfl⟩
            refine hK _ _ (fun _ => (SY.out.alloc _)) ?_
            clear hK K
            refine Gate.takes (P := Tryz.prog) (t := 21) (by kernel_rfl) (fun d v c a w h => by cases d <;> exact h) (SY.out.alloc _) [18, 19] 1 _ _ (by kernel_rfl) ?_
            refine yields_step (.int .u32 (N4 : Int)) rfl rfl ?_ ?_
            · intro x hS; go_simp
            refine yields_step (.agg #[.bool u, .int .i64 (N1 : Int), .int .u64 (N2 : Int), .int .u32 (N3 : Int), .int .u32 (N4 : Int)]) rfl rfl ?_ ?_
            · intro x hS; go_simp
            refine Gate.next (i := 21) (by kernel_rfl) rfl rfl (fun K hK => ?_)
            go_simp
            refine hK _ _ (fun h => absurd rfl h) ?_
            clear hK K
            refine Gate.done (by kernel_rfl) ?_
            go_wp2_with fail
            go_meet
            exact ⟨rfl, rfl⟩
        · go_simp
          refine hK _ _ (fun _ => SY.out.alloc _) ?_
          clear hK K
          refine Gate.next (i := 13) (by kernel_rfl) rfl rfl (fun K hK => ?_)
          go_simp
          refine (rof4 (some ⟨b, off + 11, none⟩) (c1 - 11) ((ps.drop 11).take 4) (y0.alloc (.cells #[.bool false, .int .i64 0, .int .u64 0, .int .u32 0, .int .u32 0] 32)) (oct_sub (SY.out.alloc _) (by omega) rfl) N3 E3.out).mono ?_; rintro e w' ⟨rfl, rfl⟩
          refine hK _ _ (fun _ => (SY.out.alloc _)) ?_
          clear hK K
          refine Gate.takes (P := Tryz.prog) (t := 21) (by kernel_rfl) (fun d v c a w h => by cases d <;> exact h) (SY.out.alloc _) [14] 4 _ _ (by kernel_rfl) ?_
          refine yields_step (.int .u32 (N3 : Int)) rfl rfl ?_ ?_
          · intro x hS; go_simp
          refine Gate.next (i := 17) (by kernel_rfl) rfl rfl (fun K hK => ?_)
          go_simp
          refine (rof4 (some ⟨b, off + 15, none⟩) (c1 - 15) ((ps.drop 15).take 4) (y0.alloc (.cells #[.bool false, .int .i64 0, .int .u64 0, .int .u32 0, .int .u32 0] 32)) (oct_sub (SY.out.alloc _) (by omega) rfl) N4 E4.out).mono ?_; rintro e w' ⟨rfl, rfl⟩
          refine hK _ _ (fun _ => (SY.out.alloc _)) ?_
          clear hK K
          refine Gate.takes (P := Tryz.prog) (t := 21) (by kernel_rfl) (fun d v c a w h => by cases d <;> exact h) (SY.out.alloc _) [18, 19] 1 _ _ (by kernel_rfl) ?_
          refine yields_step (.int .u32 (N4 : Int)) rfl rfl ?_ ?_
          · intro x hS; go_simp
          refine yields_step (.agg #[.bool u, .int .i64 (N1 : Int), .int .u64 (N2 : Int), .int .u32 (N3 : Int), .int .u32 (N4 : Int)]) rfl rfl ?_ ?_
          · intro x hS; go_simp
          refine Gate.next (i := 21) (by kernel_rfl) rfl rfl (fun K hK => ?_)
          go_simp
          refine hK _ _ (fun h => absurd rfl h) ?_
          clear hK K
          refine Gate.done (by kernel_rfl) ?_
          go_wp2_with fail
          go_meet
          exact ⟨rfl, rfl⟩
      · go_simp
        refine hK _ _ (fun _ => SY.out.alloc _) ?_
        clear hK K
        refine Gate.next (i := 10) (by kernel_rfl) rfl rfl (fun K hK => ?_)
        go_simp
        refine (rof8 (some ⟨b, off + 3, none⟩) (c1 - 3) ((ps.drop 3).take 8) (y0.alloc (.cells #[.bool false, .int .i64 0, .int .u64 0, .int .u32 0, .int .u32 0] 32)) (oct_sub (SY.out.alloc _) (by omega) rfl) N2 E2.out).mono ?_; rintro e w' ⟨rfl, rfl⟩
        refine hK _ _ (fun _ => (SY.out.alloc _)) ?_
        clear hK K
        refine Gate.next (i := 13) (by kernel_rfl) rfl rfl (fun K hK => ?_)
        go_simp
        refine (rof4 (some ⟨b, off + 11, none⟩) (c1 - 11) ((ps.drop 11).take 4) (y0.alloc (.cells #[.bool false, .int .i64 0, .int .u64 0, .int .u32 0, .int .u32 0] 32)) (oct_sub (SY.out.alloc _) (by omega) rfl) N3 E3.out).mono ?_; rintro e w' ⟨rfl, rfl⟩
        refine hK _ _ (fun _ => (SY.out.alloc _)) ?_
        clear hK K
        refine Gate.takes (P := Tryz.prog) (t := 21) (by kernel_rfl) (fun d v c a w h => by cases d <;> exact h) (SY.out.alloc _) [14] 4 _ _ (by kernel_rfl) ?_
        refine yields_step (.int .u32 (N3 : Int)) rfl rfl ?_ ?_
        · intro x hS; go_simp
        refine Gate.next (i := 17) (by kernel_rfl) rfl rfl (fun K hK => ?_)
        go_simp
        refine (rof4 (some ⟨b, off + 15, none⟩) (c1 - 15) ((ps.drop 15).take 4) (y0.alloc (.cells #[.bool false, .int .i64 0, .int .u64 0, .int .u32 0, .int .u32 0] 32)) (oct_sub (SY.out.alloc _) (by omega) rfl) N4 E4.out).mono ?_; rintro e w' ⟨rfl, rfl⟩
        refine hK _ _ (fun _ => (SY.out.alloc _)) ?_
        clear hK K
        refine Gate.takes (P := Tryz.prog) (t := 21) (by kernel_rfl) (fun d v c a w h => by cases d <;> exact h) (SY.out.alloc _) [18, 19] 1 _ _ (by kernel_rfl) ?_
        refine yields_step (.int .u32 (N4 : Int)) rfl rfl ?_ ?_
        · intro x hS; go_simp
        refine yields_step (.agg #[.bool u, .int .i64 (N1 : Int), .int .u64 (N2 : Int), .int .u32 (N3 : Int), .int .u32 (N4 : Int)]) rfl rfl ?_ ?_
        · intro x hS; go_simp
        refine Gate.next (i := 21) (by kernel_rfl) rfl rfl (fun K hK => ?_)
        go_simp
        refine hK _ _ (fun h => absurd rfl h) ?_
        clear hK K
        refine Gate.done (by kernel_rfl) ?_
        go_wp2_with fail
        go_meet
        exact ⟨rfl, rfl⟩
    · go_simp
      refine hK _ _ (fun _ => SY.out.alloc _) ?_
      clear hK K
      refine Gate.next (i := 6) (by kernel_rfl) rfl rfl (fun K hK => ?_)
      go_simp
      refine (rof2 (some ⟨b, off + 1, none⟩) (c1 - 1) ((ps.drop 1).take 2) (y0.alloc (.cells #[.bool false, .int .i64 0, .int .u64 0, .int .u32 0, .int .u32 0] 32)) (oct_sub (SY.out.alloc _) (by omega) rfl) N1 E1.out).mono ?_; rintro e w' ⟨rfl, rfl⟩
      refine hK _ _ (fun _ => (SY.out.alloc _)) ?_
      clear hK K
      refine Gate.takes (P := Tryz.prog) (t := 21) (by kernel_rfl) (fun d v c a w h => by cases d <;> exact h) (SY.out.alloc _) [7] 7 _ _ (by kernel_rfl) ?_
      refine yields_step (.int .i64 (N1 : Int)) rfl rfl ?_ ?_
      · intro x hS; go_simp
      refine Gate.next (i := 10) (by kernel_rfl) rfl rfl (fun K hK => ?_)
      go_simp
      refine (rof8 (some ⟨b, off + 3, none⟩) (c1 - 3) ((ps.drop 3).take 8) (y0.alloc (.cells #[.bool false, .int .i64 0, .int .u64 0, .int .u32 0, .int .u32 0] 32)) (oct_sub (SY.out.alloc _) (by omega) rfl) N2 E2.out).mono ?_; rintro e w' ⟨rfl, rfl⟩
      refine hK _ _ (fun _ => (SY.out.alloc _)) ?_
      clear hK K
      refine Gate.next (i := 13) (by kernel_rfl) rfl rfl (fun K hK => ?_)
      go_simp
      refine (rof4 (some ⟨b, off + 11, none⟩) (c1 - 11) ((ps.drop 11).take 4) (y0.alloc (.cells #[.bool false, .int .i64 0, .int .u64 0, .int .u32 0, .int .u32 0] 32)) (oct_sub (SY.out.alloc _) (by omega) rfl) N3 E3.out).mono ?_; rintro e w' ⟨rfl, rfl⟩
      refine hK _ _ (fun _ => (SY.out.alloc _)) ?_
      clear hK K
      refine Gate.takes (P := Tryz.prog) (t := 21) (by kernel_rfl) (fun d v c a w h => by cases d <;> exact h) (SY.out.alloc _) [14] 4 _ _ (by kernel_rfl) ?_
      refine yields_step (.int .u32 (N3 : Int)) rfl rfl ?_ ?_
      · intro x hS; go_simp
      refine Gate.next (i := 17) (by kernel_rfl) rfl rfl (fun K hK => ?_)
      go_simp
      refine (rof4 (some ⟨b, off + 15, none⟩) (c1 - 15) ((ps.drop 15).take 4) (y0.alloc (.cells #[.bool false, .int .i64 0, .int .u64 0, .int .u32 0, .int .u32 0] 32)) (oct_sub (SY.out.alloc _) (by omega) rfl) N4 E4.out).mono ?_; rintro e w' ⟨rfl, rfl⟩
      refine hK _ _ (fun _ => (SY.out.alloc _)) ?_
      clear hK K
      refine Gate.takes (P := Tryz.prog) (t := 21) (by kernel_rfl) (fun d v c a w h => by cases d <;> exact h) (SY.out.alloc _) [18, 19] 1 _ _ (by kernel_rfl) ?_
      refine yields_step (.int .u32 (N4 : Int)) rfl rfl ?_ ?_
      · intro x hS; go_simp
      refine yields_step (.agg #[.bool u, .int .i64 (N1 : Int), .int .u64 (N2 : Int), .int .u32 (N3 : Int), .int .u32 (N4 : Int)]) rfl rfl ?_ ?_
      · intro x hS; go_simp
      refine Gate.next (i := 21) (by kernel_rfl) rfl rfl (fun K hK => ?_)
      go_simp
      refine hK _ _ (fun h => absurd rfl h) ?_
      clear hK K
      refine Gate.done (by kernel_rfl) ?_
      go_wp2_with fail
      go_meet
      exact ⟨rfl, rfl⟩
  case rest =>
    obtain ⟨rfl, hwc⟩ := hcut
    have XB : Hid (wc.heap[y0.heap.size]? = some (.cells #[.bool u, .int .i64 (N1 : Int), .int .u64 (N2 : Int), .int .u32 (N3 : Int), .int .u32 (N4 : Int)] 32 (0, 0))) := by show _ = _; rw [hwc]; exact heap_alloc_new y0 _
    have YB : Hid (wc.heap[w.heap.size]? = some (.cells #[.bool false, .int .i64 0, .int .u64 0, .int .u32 0, .int .u32 0] 32 (0, 0))) := by show _ = _; rw [hwc]; exact kept_below Y0.out (balloc y0 _)
    have BB : Hid (Below w.heap.size w wc) := by show Below _ _ _; rw [hwc]; exact bthen BY.out (balloc y0 _)
    clear hwc hy0 S1 Y1 B1 SY Y0 BY
    rcases HXX.out with ⟨hm, hs, rfl, rfl⟩ | ⟨hm, hs, rfl, rfl⟩ | ⟨hm, rfl, rfl⟩
    · have ha := bstr_eq (sect p) ys true (by simp [hs])
      have HMD := Lib.hid hm
      clear hm hs
      go_wp2_with ((with_reducible apply L_loadHd); exact rfl; exact XB.out; exact rfl)
      rw [← HDV.out]
      refine (rhput_ok p _ HMD.out).mono ?_; rintro e w8 ⟨v8, rfl, o8, b8⟩
      obtain ⟨A8, c8, rfl, l8, s8⟩ := o8.form (sect_length p)
      have Y8 := Lib.hid (kept_below YB.out b8)
      have X8 := Lib.hid (kept_below XB.out b8)
      have B8 : Hid (Below w.heap.size w w8) := bthen BB.out b8
      have cv1 := s8.conv bt Tryz.underlying9 c8
      have cv2 := (HO.out.below B8.out).conv bt Tryz.underlying9 c
      clear b8 o8 s8
      go_wp2_with (first
        | ((with_reducible apply L_loadHd); exact rfl; exact X8.out; exact rfl)
        | ((with_reducible apply L_storeRow (N := 5) info_hd); exact rfl; exact rfl; exact Y8.out; exact rfl; exact rfl; (simp [Value.oneCell']); intro w4 h4 g4; have H4 := Lib.hid h4; have G4 := Lib.hid g4; clear h4 g4))
      refine bodyPost_ret (results_cell_tmp_row rfl _ _ _ _ rfl (run_loadVar_row _ _ _ _ _ _ _ H4.out Tryz.underlying32 rfl info_hd)) rfl ?_
      exact ⟨by rw [HDV.out]; rfl, below_up B8.out G4.out (Nat.le_refl _)⟩
    · have ha := bstr_eq (sect d) ys false (by simp [hs])
      have HMD := Lib.hid hm
      clear hm hs
      go_wp2_with ((with_reducible apply L_loadHd); exact rfl; exact XB.out; exact rfl)
      rw [← HDV.out]
      refine (rhput_ok d _ HMD.out).mono ?_; rintro e w8 ⟨v8, rfl, o8, b8⟩
      obtain ⟨A8, c8, rfl, l8, s8⟩ := o8.form (sect_length d)
      have Y8 := Lib.hid (kept_below YB.out b8)
      have B8 : Hid (Below w.heap.size w w8) := bthen BB.out b8
      have cv1 := s8.conv bt Tryz.underlying9 c8
      have cv2 := (HO.out.below B8.out).conv bt Tryz.underlying9 c
      clear b8 o8 s8
      go_wp2_with ((with_reducible apply L_storeRow (N := 5) info_hd); exact rfl; exact rfl; exact Y8.out; exact rfl; exact rfl; (simp [Value.oneCell']); intro w4 h4 g4; have H4 := Lib.hid h4; have G4 := Lib.hid g4; clear h4 g4)
      refine bodyPost_ret (results_cell_tmp_row rfl _ _ _ _ rfl (run_loadVar_row _ _ _ _ _ _ _ H4.out Tryz.underlying32 rfl info_hd)) rfl ?_
      exact ⟨rfl, below_up B8.out G4.out (Nat.le_refl _)⟩
    · have HMD := Lib.hid hm
      clear hm
      go_wp2_with ((with_reducible apply L_loadHd); exact rfl; exact XB.out; exact rfl)
      rw [← HDV.out]
      refine (rhput_no d _ HMD.out).mono ?_; rintro e w8 ⟨rfl, b8⟩
      have Y8 := Lib.hid (kept_below YB.out b8)
      have B8 : Hid (Below w.heap.size w w8) := bthen BB.out b8
      clear b8
      go_wp2_with ((with_reducible apply L_storeRow (N := 5) info_hd); exact rfl; exact rfl; exact Y8.out; exact rfl; exact rfl; (simp [Value.oneCell']); intro w4 h4 g4; have H4 := Lib.hid h4; have G4 := Lib.hid g4; clear h4 g4)
      refine bodyPost_ret (results_cell_tmp_row rfl _ _ _ _ rfl (run_loadVar_row _ _ _ _ _ _ _ H4.out Tryz.underlying32 rfl info_hd)) rfl ?_
      exact ⟨rfl, below_up B8.out G4.out (Nat.le_refl _)⟩

set_option maxRecDepth 100000 in
set_option maxHeartbeats 2000000 in
theorem rhget_any (A : Option Addr) (n c : Nat) (ys : List UInt8) (p : Hd) (E : Int) (w : World) (hn : n ≤ 1000000) (hc : n ≤ c) (ho : Oct w A n ys) (hW : GWay ys p E) :
    Calls Tryz.prog 95 #[.slice A n c] w fun e w' => e = .returned (.tuple #[(.agg #[.bool p.u, .int .i64 p.l, .int .u64 (p.g : Int), .int .u32 (p.s.toNat : Int), .int .u32 (p.r.toNat : Int)]), .int .i64 E]) ∧ Below w.heap.size w w' := by
  by_cases h1 : getE ys 3 = 0
  · refine rhget_dec A n c ys _ p E w hn hc ho h1 rfl ?_
    rcases hW with ⟨h2, _⟩ | ⟨_, h3, h4, h5⟩ | ⟨_, h3, h4, h5, h6⟩ | ⟨_, h3, h4, h5, h6⟩
    · exact absurd h1 h2
    · exact .inr (.inr ⟨h5, h4, h3⟩)
    · exact .inr (.inl ⟨h5, h6, h4, h3⟩)
    · exact .inl ⟨h4 ▸ h5, h4 ▸ h6, h4, h3⟩
  · have hp : p = zr ∧ E = getE ys 3 := by
      rcases hW with ⟨_, h3, h4⟩ | ⟨h2, _⟩ | ⟨h2, _⟩ | ⟨h2, _⟩
      · exact ⟨h4, h3⟩
      · exact absurd h2 h1
      · exact absurd h2 h1
      · exact absurd h2 h1
    obtain ⟨rfl, h2⟩ := hp
    have HO := Lib.hid ho
    have hE0 : ¬ E = 0 := by rw [h2]; exact h1
    have H2 := Lib.hid h2.symm
    clear h1 h2 hW ho
    go_enter Tryz.func95, Tryz.ntmps95
    go_wp2_with fail
    refine (rget2_any _ _ _ ys _ _ hn hc (HO.out.alloc _)).mono ?_; rintro e w1 ⟨A1, m1, c1, hmc, rfl, o, kk, hw⟩
    rw [H2.out]
    have Y1 := Lib.hid (hd_new2 hw)
    have B1 : Hid (Below w.heap.size w w1) := by show Below _ _ _; rw [hw]; exact below_drewN (balloc _ _) kk
    clear o hw
    go_wp2_with ((with_reducible apply L_storeRow (N := 5) info_hd); exact rfl; exact rfl; exact Y1.out; exact rfl; exact rfl; (simp [Value.oneCell']); intro w3 h3 g3; have H3 := Lib.hid h3; have G3 := Lib.hid g3; clear h3 g3)
    refine bodyPost_ret (results_cell_tmp_row rfl _ _ _ _ rfl (run_loadVar_row _ _ _ _ _ _ _ H3.out Tryz.underlying32 rfl info_hd)) rfl ?_
    exact ⟨rfl, below_up B1.out G3.out (Nat.le_refl _)⟩
end Go.Proofs.YtapklelkcicjlaaGreatDoor.W.Hd
