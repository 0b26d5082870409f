/-
  The contract of read. No conditions.
-/
import Derived.Test.YtckjnplaceaalaaDoorRcMem
import Derived.Deep.CutRange
import Derived.Deep.CutBlock
import Derived.Test.YtckjnplaceaalaaDoorKRow
namespace Go.Proofs.YtckjnplaceaalaaDoor.W
open Go.RowKit Oc Gt
set_option linter.unusedVariables false

/-- what read leaves: the record and the octets behind it -/
def RRead (w : World) (p : Rc) (rest : List UInt8) (e : Ending) (w' : World) : Prop := ∃ v, e = .returned (.tuple #[(.agg #[.int .u64 (p.q : Int), .int .u64 (p.h : Int), .int .i64 p.x, .int .u64 (p.g : Int), .int .u8 (p.m.toNat : Int)]), v]) ∧ Own w' 5 w.heap.size v rest ∧ Below w.heap.size w w'
theorem lt256 {N : Nat} (h : N < 256) : (N : Int) = ((UInt8.ofNat N).toNat : Int) := by simp; omega

theorem cells5 {w : World} {B : Nat} {T : TypeId} {v0 v1 v2 v3 v4 : Value} (h : w.heap[B]? = some (.cells #[v0, v1, v2, v3, v4] T (0, 0))) : w.cell? ⟨B, 0, none⟩ = some v0 ∧ w.cell? ⟨B, 1, none⟩ = some v1 ∧ w.cell? ⟨B, 2, none⟩ = some v2 ∧ w.cell? ⟨B, 3, none⟩ = some v3 ∧ w.cell? ⟨B, 4, none⟩ = some v4 := by
  refine ⟨?_, ?_, ?_, ?_, ?_⟩ <;> (rw [cell_of_row _ _ _ _ _ _ h]; rfl)
theorem below_drew1 {B : Nat} {a w : World} (h : Below B a w) : Below B a w.drew := ⟨h.os, h.tape, h.output, h.size, h.block⟩
theorem exec_ld {P : Program} {o : Oper} {ev : Operand → Value} {ty : TypeId} {x : Operand} {p r : Value} {w : World} (ho : o.op = .load ty x) (hx : ev x = p) (hrun : (Instr.loadAt ty p).run P w = .ok r w) : (execOp ev o).run P w = .ok (.value r) w := by
  unfold execOp
  simp only [ho, hx, Sem.run_bind, hrun, Result.andThen_ok, Sem.run_pure]
theorem run_load5 {w : World} {b : Nat} {T : TypeId} {cs : Array Value} (hc : cs.size = 5) (hg : w.heap[b]? = some (.cells cs T (0, 0))) : (Instr.loadAt 24 (.pointer (some ⟨b, 0, none⟩))).run Tryd.prog w = .ok (.agg cs) w := by
  simp only [Instr.loadAt, Instr.sureAddr, Sem.run_bind, Sem.run_pure, Result.andThen_ok, run_loadVar_row w b T 24 _ (0, 0) _ hg Tryd.underlying24 rfl (by rw [hc]; exact info_rc)]
theorem left31 {w : World} {R : Nat} {xs : List UInt8} (hx : xs.length = 31) (h : Rd w 63 R xs true) : Calls Tryd.prog 39 #[.pointer (some ⟨R, 0, none⟩)] w fun e w' => e = .returned (.int .i64 31) ∧ w = w' :=
  (left_good h).mono fun e w' h2 => ⟨by rw [h2.1, hx]; rfl, h2.2⟩
theorem bytes31 {w : World} {R : Nat} {xs : List UInt8} (hx : xs.length = 31) (h : Rd w 63 R xs true) : Calls Tryd.prog 38 #[.pointer (some ⟨R, 0, none⟩), .int .i64 31] w fun e w' => ∃ A c, 31 ≤ c ∧ e = .returned (.slice A 31 c) ∧ Own w' 5 w.heap.size (.slice A 31 c) xs ∧ w.grownBy w' (some R) :=
  (bytes_take 31 h (by omega) (by omega)).mono fun e w' h2 => by
    obtain ⟨v, rfl, ho, _, hg⟩ := h2
    rw [List.take_of_length_le (by omega)] at ho
    obtain ⟨A, c, rfl, hc, _⟩ := ho.form hx
    exact ⟨A, c, hc, rfl, ho, hg⟩

set_option maxRecDepth 100000 in
set_option maxHeartbeats 4000000 in
theorem read_rc (A : Option Addr) (c : Nat) (ps : List UInt8) (p : Rc) (w : World) (hp : p = dec ps) (ho : Oct w A 58 ps) :
    Calls Tryd.prog 25 #[.slice A 58 c] w (RRead w p (ps.drop 27)) := by
  have hl := ho.len
  have HO := Lib.hid ho
  have HL := Lib.hid hl
  obtain ⟨N0, e0⟩ : ∃ N, num (ps.take 8) = N := ⟨_, rfl⟩
  obtain ⟨N1, e1⟩ : ∃ N, num ((ps.drop 8).take 8) = N := ⟨_, rfl⟩
  obtain ⟨N2, e2⟩ : ∃ N, num ((ps.drop 16).take 2) = N := ⟨_, rfl⟩
  obtain ⟨N3, e3⟩ : ∃ N, num ((ps.drop 18).take 8) = N := ⟨_, rfl⟩
  obtain ⟨N4, e4⟩ : ∃ N, num ((ps.drop 26).take 1) = N := ⟨_, rfl⟩
  have hN2 : N2 < 65536 := by
    have h := num_lt_of (xs := (ps.drop 16).take 2) (k := 2) (by simp [hl])
    omega
  have hN4 : N4 < 256 := by
    have h := num_lt_of (xs := (ps.drop 26).take 1) (k := 1) (by simp [hl])
    omega
  have hpv : ((.agg #[.int .u64 (p.q : Int), .int .u64 (p.h : Int), .int .i64 p.x, .int .u64 (p.g : Int), .int .u8 (p.m.toNat : Int)]) : Value) = .agg #[.int .u64 (N0 : Int), .int .u64 (N1 : Int), .int .i64 (N2 : Int), .int .u64 (N3 : Int), .int .u8 (N4 : Int)] := by
    rw [hp]; unfold dec; dsimp only; rw [e0, e1, e2, e3, e4, ← lt256 hN4]
  have HPV := Lib.hid hpv
  have E0 := Lib.hid e0
  have E1 := Lib.hid e1
  have E2 := Lib.hid e2
  have E3 := Lib.hid e3
  have E4 := Lib.hid e4
  clear ho hl hp hpv e0 e1 e2 e3 e4
  go_enter Tryd.func25, Tryd.ntmps25
  go_wp2_with fail
  refine (read_any _ _ _ ps _ (by omega) (HO.out.alloc _)).mono ?_; rintro e w1 ⟨R, rfl, hR, rd, b1⟩
  have hh0 := kept_below (rc_new w) b1
  have hR1 : w.heap.size + 1 ≤ R := by simpa using hR
  have Y1 := Lib.hid hh0
  have RD1 := Lib.hid rd
  have B1 : Hid (Below w.heap.size w w1) := bthen (balloc _ _) b1
  clear hR hh0 rd b1
  go_wp2_with fail
  refine (u_take 8 RD1.out (by rw [HL.out]; omega) (by omega) (by omega) (by rw [HL.out]; omega) N0 E0.out).mono ?_; rintro e w2 ⟨rfl, rd, g2⟩
  have Y2 := Lib.hid (kept_by Y1.out g2 (by omega))
  have B2 := Lib.hid (below_up B1.out g2 (by omega))
  have RD2 := Lib.hid rd
  clear rd g2
  go_wp2_with fail
  refine (u_take 8 RD2.out (by rw [List.length_drop, HL.out]; omega) (by omega) (by omega) (by rw [List.length_drop, HL.out]; omega) N1 E1.out).mono ?_; rintro e w3 ⟨rfl, rd, g3⟩
  have Y3 := Lib.hid (kept_by Y2.out g3 (by omega))
  have B3 := Lib.hid (below_up B2.out g3 (by omega))
  rw [List.drop_drop] at rd
  have RD3 := Lib.hid rd
  clear rd g3
  go_wp2_with fail
  refine (u_take 2 RD3.out (by rw [List.length_drop, HL.out]; omega) (by omega) (by omega) (by rw [List.length_drop, HL.out]; omega) N2 E2.out).mono ?_; rintro e w4 ⟨rfl, rd, g4⟩
  have Y4 := Lib.hid (kept_by Y3.out g4 (by omega))
  have B4 := Lib.hid (below_up B3.out g4 (by omega))
  rw [List.drop_drop] at rd
  have RD4 := Lib.hid rd
  clear rd g4
  go_wp2_with fail
  refine (u_take 8 RD4.out (by rw [List.length_drop, HL.out]; omega) (by omega) (by omega) (by rw [List.length_drop, HL.out]; omega) N3 E3.out).mono ?_; rintro e w5 ⟨rfl, rd, g5⟩
  have Y5 := Lib.hid (kept_by Y4.out g5 (by omega))
  have B5 := Lib.hid (below_up B4.out g5 (by omega))
  rw [List.drop_drop] at rd
  have RD5 := Lib.hid rd
  clear rd g5
  go_wp2_with fail
  refine (u_take 1 RD5.out (by rw [List.length_drop, HL.out]; omega) (by omega) (by omega) (by rw [List.length_drop, HL.out]; omega) N4 E4.out).mono ?_; rintro e w6 ⟨rfl, rd, g6⟩
  have Y6 := Lib.hid (kept_by Y5.out g6 (by omega))
  have B6 := Lib.hid (below_up B5.out g6 (by omega))
  rw [List.drop_drop] at rd
  have RD6 := Lib.hid rd
  clear rd g6
  go_upto_region 3 with fail
  obtain ⟨B, hB⟩ : ∃ B, B = w6.heap.size := ⟨_, rfl⟩
  obtain ⟨w7, hw7⟩ : ∃ w7, w7 = w6.alloc (.cells #[.int .u64 (N0 : Int), .int .u64 (N1 : Int), .int .i64 (N2 : Int), .int .u64 (N3 : Int), .int .u8 (N4 : Int)] 24) := ⟨_, rfl⟩
  have X7 : Hid (w7.heap[B]? = some (.cells #[.int .u64 (N0 : Int), .int .u64 (N1 : Int), .int .i64 (N2 : Int), .int .u64 (N3 : Int), .int .u8 (N4 : Int)] 24 (0, 0))) := by show _ = _; rw [hw7, hB]; exact heap_alloc_new w6 _
  have Y7 : Hid (w7.heap[w.heap.size]? = some (.cells #[.int .u64 0, .int .u64 0, .int .i64 0, .int .u64 0, .int .u8 0] 24 (0, 0))) := by show _ = _; rw [hw7]; exact kept_below Y6.out (balloc w6 _)
  have RD7 : Hid (Rd w7 63 R (ps.drop 27) true) := by show Rd _ _ _ _ _; rw [hw7]; exact RD6.out.below (balloc w6 _)
  have B7 : Hid (Below w.heap.size w w7) := by show Below _ _ _; rw [hw7]; exact bthen B6.out (balloc w6 _)
  have hRB : R < B := by rw [hB]; exact RD6.out.lt
  have HB := Lib.hid hB
  have HW := Lib.hid hw7
  rw [← hw7, ← hB]
  clear hB hw7
  have hRB2 : w.heap.size < B := by omega
  have k31 : (ps.drop 27).length = 31 := by rw [List.length_drop, HL.out]
  have K31 := Lib.hid k31
  clear k31
  have RDd : Rd w7.drew 63 R (ps.drop 27) true := RD7.out
  have LF := Lib.hid (left31 K31.out RDd)
  have BY := Lib.hid (bytes31 K31.out RDd)
  have Yd : w7.drew.heap[w.heap.size]? = some (.cells #[.int .u64 0, .int .u64 0, .int .i64 0, .int .u64 0, .int .u8 0] 24 (0, 0)) := Y7.out
  have Xd : w7.drew.heap[B]? = some (.cells #[.int .u64 (N0 : Int), .int .u64 (N1 : Int), .int .i64 (N2 : Int), .int .u64 (N3 : Int), .int .u8 (N4 : Int)] 24 (0, 0)) := X7.out
  have YD := Lib.hid Yd
  have XD := Lib.hid Xd
  clear RDd Yd Xd
  have hyR : w.heap.size ≠ R := by omega
  have hxR : B ≠ R := by omega
  have hxy : B ≠ w.heap.size := by omega
  go_wp2_with fail
  refine gate (fun x => x.heap[B]? = some (.cells #[.int .u64 (N0 : Int), .int .u64 (N1 : Int), .int .i64 (N2 : Int), .int .u64 (N3 : Int), .int .u8 (N4 : Int)] 24 (0, 0))) 6 [0, 1, 2] 4 (by kernel_rfl) (by kernel_rfl) (by kernel_rfl) rfl ?_ XD.out ?_
  · intro d v c a w h
    cases d <;> exact h
  refine yields_step (.agg #[.int .u64 (N0 : Int), .int .u64 (N1 : Int), .int .i64 (N2 : Int), .int .u64 (N3 : Int), .int .u8 (N4 : Int)]) rfl rfl ?_ ?_
  · intro x hS; exact exec_ld rfl (by go_simp) (run_load5 rfl hS)
  iterate 2
    refine yields_step ?_ rfl rfl ?_ ?_
    rotate_left
    · intro x hS; go_simp; rfl
  refine Gate.next (i := 3) (by kernel_rfl) rfl rfl (fun K hK => ?_)
  go_simp
  refine LF.out.mono ?_; rintro e w' ⟨rfl, rfl⟩
  refine hK _ _ (fun _ => XD.out) ?_
  clear hK K
  refine Gate.next (i := 4) (by kernel_rfl) rfl rfl (fun K hK => ?_)
  go_simp
  refine BY.out.mono ?_; rintro e w8 ⟨A8, c8, l8, rfl, o8, g8⟩
  have O8 := Lib.hid o8
  have Y8 := Lib.hid (kept_by YD.out g8 hyR)
  have X8 := Lib.hid (kept_by XD.out g8 hxR)
  have G8 := Lib.hid g8
  refine hK _ _ (fun _ => X8.out) ?_
  clear hK K o8 g8
  refine Gate.next (i := 5) (by kernel_rfl) rfl rfl (fun K hK => ?_)
  refine wp_store_row 24 _ _ rfl w.heap.size #[.int .u64 (N0 : Int), .int .u64 (N1 : Int), .int .i64 (N2 : Int), .int .u64 (N3 : Int), .int .u8 (N4 : Int)] (by go_simp) (by go_simp) _ _ Y8.out info_rc rfl (by simp [Value.oneCell']) ?_
  have H9 := Lib.hid (setRow_heap w8 w.heap.size _ #[.int .u64 (N0 : Int), .int .u64 (N1 : Int), .int .i64 (N2 : Int), .int .u64 (N3 : Int), .int .u8 (N4 : Int)] _ _ Y8.out)
  have G9 : Hid (w8.grownBy (w8.setRow w.heap.size #[.int .u64 (N0 : Int), .int .u64 (N1 : Int), .int .i64 (N2 : Int), .int .u64 (N3 : Int), .int .u8 (N4 : Int)]) (some w.heap.size)) := ⟨rfl, rfl, rfl, by simp, fun k _ hk => setRow_other w8 w.heap.size k _ (fun e => hk (by rw [e]))⟩
  obtain ⟨w9, hw9⟩ : ∃ w9, w9 = w8.setRow w.heap.size #[.int .u64 (N0 : Int), .int .u64 (N1 : Int), .int .i64 (N2 : Int), .int .u64 (N3 : Int), .int .u8 (N4 : Int)] := ⟨_, rfl⟩
  rw [← hw9] at H9 G9 ⊢
  clear hw9
  have X9 := Lib.hid (kept_by X8.out G9.out hxy)
  refine hK _ _ (fun _ => X9.out) ?_
  clear hK K
  refine Gate.next (i := 6) (by kernel_rfl) rfl rfl (fun K hK => ?_)
  go_simp
  refine hK _ _ (fun h => absurd rfl h) ?_
  clear hK K
  refine Gate.done (by kernel_rfl) ?_
  go_wp2
  refine bodyPost_ret (results_cell_tmp_row rfl _ _ _ _ rfl (run_loadVar_row _ _ _ _ _ _ _ H9.out Tryd.underlying24 rfl info_rc)) rfl ?_
  have B8 : Hid (Below w.heap.size w w8) := below_up (below_drew1 B7.out) G8.out (by omega)
  refine ⟨.slice A8 31 c8, by rw [HPV.out]; rfl, ?_, below_up B8.out G9.out (Nat.le_refl _)⟩
  have hge : w.heap.size < w7.drew.heap.size := by have := (Array.getElem?_eq_some_iff.1 XD.out).1; omega
  exact (own_set O8.out hge G9.out).more (by omega)
end Go.Proofs.YtckjnplaceaalaaDoor.W
