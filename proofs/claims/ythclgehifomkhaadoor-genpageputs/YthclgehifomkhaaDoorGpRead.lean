/-
  The contract of read. No conditions.
-/
import Derived.Test.YthclgehifomkhaaDoorGpFresh
namespace Go.Proofs.YthclgehifomkhaaDoor.W
open Go.RowKit Oc
set_option linter.unusedVariables false

/-- the first j as they are, the rest 0 -/
def upto (g : Nat → Nat) (j : Nat) : Nat → Nat := fun i => if i < j then g i else 0
theorem gc_upto (no : Int) (v : Nat) (g : Nat → Nat) (j : Nat) : gc no v (up (upto g j) j (g j)) = gc no v (upto g (j + 1)) := gc_congr fun i _ => by
  unfold up upto
  by_cases h : i = j
  · subst h; rw [if_pos rfl, if_pos (by omega)]
  · rw [if_neg h]
    by_cases h2 : i < j
    · rw [if_pos h2, if_pos (by omega)]
    · rw [if_neg h2, if_neg (by omega)]
theorem gc_all (no : Int) (v : Nat) (g : Nat → Nat) : gc no v (upto g 6) = gc no v g := gc_congr fun i h => by
  unfold upto
  rw [if_pos h]
/-- a page's block is no reader's, nor octets' -/
theorem Oct.gc {w : World} {A : Option Addr} {n B : Nat} {xs : List UInt8} {no : Int} {v : Nat} {g : Nat → Nat} {T : TypeId} (h : Oct w A n xs) (hB : w.heap[B]? = some (.cells (gc no v g) T (0, 0))) : ∀ off, 0 < n → A ≠ some ⟨B, off, none⟩ := by
  intro off hn e
  obtain ⟨b, off', x, e', _, hc⟩ := h.at_ hn
  rw [e] at e'
  injection e' with e'
  injection e' with e1 e2
  subst e1 e2
  rw [cell_of_row w B _ _ T (0, 0) hB] at hc
  unfold W.gc at hc
  match off + 0, hc with
  | 0, hc => simp at hc
  | 1, hc => simp at hc
  | 2, hc => simp at hc
  | 3, hc => simp at hc
  | 4, hc => simp at hc
  | 5, hc => simp at hc
  | 6, hc => simp at hc
  | 7, hc => simp at hc
  | k + 8, hc => simp at hc
theorem rd_gc {w w' : World} {R B : Nat} {xs : List UInt8} {m : Bool} {T T' : TypeId} {no : Int} {v : Nat} {g : Nat → Nat} (h : Rd w T R xs m) (hB : w.heap[B]? = some (.cells (gc no v g) T' (0, 0))) (hg : w.grownBy w' (some B)) (hT : T ≠ T') : Rd w' T R xs m := by
  have hl := h.lt
  obtain ⟨A, c, hh, hc, ho⟩ := h
  refine ⟨A, c, (hg.block R hl (fun e => ?_)).trans hh, hc, ho.grown hg (Oct.gc ho hB)⟩
  injection e with e
  subst e
  rw [hh] at hB
  injection hB with hB
  injection hB with _ e
  exact hT e
theorem tyne : 62 ≠ 25 := by decide
theorem gen_drop (ps : List UInt8) (j : Nat) : num ((ps.drop (10 + 8 * j)).take 8) = (dec ps).g j := rfl
theorem drop_more (ps : List UInt8) (j : Nat) : (ps.drop (10 + 8 * j)).drop 8 = ps.drop (10 + 8 * (j + 1)) := by rw [List.drop_drop]; congr 1
/-- a block that another's change leaves -/
theorem kept_by {w w' : World} {R B : Nat} {o : Obj} (h : w.heap[B]? = some o) (hg : w.grownBy w' (some R)) (hne : B ≠ R) : w'.heap[B]? = some o :=
  (hg.block B (Array.getElem?_eq_some_iff.1 h).1 (fun e => by injection e with e; exact hne e)).trans h
theorem kept_below {w w' : World} {B : Nat} {o : Obj} (h : w.heap[B]? = some o) (hb : Below w.heap.size w w') : w'.heap[B]? = some o := (hb.block B (Array.getElem?_eq_some_iff.1 h).1).trans h

set_option maxHeartbeats 2000000 in
theorem read_gp (A : Option Addr) (c : Nat) (ps : List UInt8) (p : Gp) (w : World) (hp : p = dec ps) (ho : Oct w A 58 ps) :
    Calls Tryd.prog 24 #[.slice A 58 c] w fun e w' => e = .returned (.agg #[.int .i64 p.no, .int .u64 (p.v : Int), .int .u64 (p.g 0 : Int), .int .u64 (p.g 1 : Int), .int .u64 (p.g 2 : Int), .int .u64 (p.g 3 : Int), .int .u64 (p.g 4 : Int), .int .u64 (p.g 5 : Int)]) ∧ Below w.heap.size w w' := by
  have hl := ho.len
  have HO := Lib.hid ho
  have HL := Lib.hid hl
  have HP := Lib.hid hp
  clear ho hl hp
  go_enter Tryd.func24, Tryd.ntmps24
  go_wp2_with fail
  refine (read_any _ _ _ ps _ (by omega) (HO.out.alloc _)).mono ?_; rintro e w1 ⟨R, rfl, hR, rd, b1⟩
  have hh0 := kept_below (heap_alloc_new w (.cells #[.int .i64 0, .int .u64 0, .int .u64 0, .int .u64 0, .int .u64 0, .int .u64 0, .int .u64 0, .int .u64 0] 25)) b1
  have hR1 : w.heap.size + 1 ≤ R := by simpa using hR
  have HH := Lib.hid hh0
  have RD := Lib.hid rd
  have B1 : Hid (Below w.heap.size w w1) := bthen (balloc _ _) b1
  clear hR hh0 rd b1
  go_wp2_with fail
  refine (u_take 2 RD.out (by rw [HL.out]; omega) (by omega) (by omega) (by rw [HL.out]; omega) _ rfl).mono ?_; rintro e w2 ⟨rfl, rd, g2⟩
  have HH2 := Lib.hid (kept_by HH.out g2 (by omega))
  have B2 := Lib.hid (below_up B1.out g2 (by omega))
  have RD2 := Lib.hid rd
  clear rd g2
  obtain ⟨N, hN⟩ : ∃ N, num (ps.take 2) = N := ⟨_, rfl⟩
  have hN2 : N < 65536 := by
    rw [← hN]
    have := num_lt (ps.take 2)
    rw [List.length_take, HL.out] at this
    simpa using this
  rw [hN]
  have EN := Lib.hid hN
  clear hN
  go_wp2_with fail
  refine (u_take 8 RD2.out (by rw [List.length_drop, HL.out]; omega) (by omega) (by omega) (by rw [List.length_drop, HL.out]; omega) _ rfl).mono ?_; rintro e w3 ⟨rfl, rd, g3⟩
  have HH3 := Lib.hid (kept_by HH2.out g3 (by omega))
  have B3 := Lib.hid (below_up B2.out g3 (by omega))
  have RD3 := Lib.hid rd
  clear rd g3
  obtain ⟨V, hV⟩ : ∃ V, num ((ps.drop 2).take 8) = V := ⟨_, rfl⟩
  rw [hV]
  have EV := Lib.hid hV
  clear hV
  obtain ⟨G, hG⟩ : ∃ G, (dec ps).g = G := ⟨_, rfl⟩
  have EG := Lib.hid hG
  obtain ⟨B, hB⟩ : ∃ B, B = w3.heap.size := ⟨_, rfl⟩
  have hRB : R < B := by rw [hB]; exact RD3.out.lt
  have hwB : w.heap.size < B := by omega
  have EB := Lib.hid hB
  clear hG hB
  go_wp2
  rw [← EB.out]
  go_loopw [5, 14] (fun _ q wr => ∃ j : Nat, j ≤ 6 ∧ q = .int .i64 j ∧ Hid (wr.heap[B]? = some (.cells (gc N V (upto G j)) 25 (0, 0))) ∧ Hid (wr.heap[w.heap.size]? = some (.cells (gc 0 0 fun _ => 0) 25 (0, 0))) ∧ Hid (Rd wr 62 R (ps.drop (10 + 8 * j)) true) ∧ Hid (Below w.heap.size w wr)) (fun _ q _ => 6 - (intOf q).toNat)
  case atStart =>
    refine ⟨0, by omega, rfl, ?_, kept_below HH3.out (balloc _ _), ?_, bthen B3.out (balloc _ _)⟩
    · rw [EB.out]
      exact heap_alloc_new w3 _
    · have h := RD3.out
      rw [List.drop_drop] at h
      exact h.below (balloc _ _)
  case round =>
    obtain ⟨j, hj, rfl, HG, HC, RJ, BJ⟩ := hrel
    by_cases hlt : j < 6
    · have hlen : (ps.drop (10 + 8 * j)).length = 48 - 8 * j := by rw [List.length_drop, HL.out]; omega
      have HLE := Lib.hid hlen
      clear hlen
      go_wp2_with fail
      refine (u_take 8 RJ.out (by rw [HLE.out]; omega) (by omega) (by omega) (by rw [HLE.out]; omega) (G j) (by rw [gen_drop, EG.out])).mono ?_; rintro e w4 ⟨rfl, rd, g4⟩
      have HG4 := Lib.hid (kept_by HG.out g4 (by omega))
      have HC4 := Lib.hid (kept_by HC.out g4 (by omega))
      have B4 := Lib.hid (below_up BJ.out g4 (by omega))
      rw [drop_more] at rd
      have R4 := Lib.hid rd
      clear rd g4
      obtain ⟨c1, f1⟩ := gc_cell HG4.out hlt
      go_wp2
      go_roundw
      case rel =>
        refine ⟨j + 1, by omega, rfl, ?_, kept_by HC4.out (grown_set _ _ _ _) (by omega), rd_gc R4.out HG4.out (grown_set _ _ _ _) tyne, below_up B4.out (grown_set _ _ _ _) (by omega)⟩
        show _ = _
        rw [← gc_upto]
        exact gc_set HG4.out hlt (G j)
      case measure => simp [intOf]; omega
    · have h6 : j = 6 := by omega
      have hg : wr.heap[B]? = some (.cells #[.int .i64 (N : Int), .int .u64 (V : Int), .int .u64 (G 0 : Int), .int .u64 (G 1 : Int), .int .u64 (G 2 : Int), .int .u64 (G 3 : Int), .int .u64 (G 4 : Int), .int .u64 (G 5 : Int)] 25 (0, 0)) := by rw [HG.out, h6, gc_all]; rfl
      have H1 := Lib.hid hg
      clear hg h6
      go_wp2_with (first
        | ((with_reducible apply L_loadGp); exact rfl; exact H1.out; exact rfl)
        | ((with_reducible apply L_storeRow (N := 8) info_gp); exact rfl; exact rfl; exact HC.out; exact rfl; exact rfl; (simp [Value.oneCell']); intro w5 h5 g5; have H5 := Lib.hid h5; have G5 := Lib.hid g5; clear h5 g5))
      refine bodyPost_ret (results_cell_row rfl _ _ _ _ _ _ _ rfl H5.out Tryd.underlying25 rfl info_gp) rfl ?_
      have hp := HP.out
      subst hp
      refine ⟨?_, below_up BJ.out G5.out (Nat.le_refl _)⟩
      rw [← EG.out, ← EV.out, ← EN.out]
      rfl
end Go.Proofs.YthclgehifomkhaaDoor.W
