/-
  The contract of the reference's Get. No conditions.
-/
import Derived.Test.YthclgehifomkhaaDoorGpRput
import Derived.Test.YthclgehifomkhaaDoorGpRget
import Derived.Deep.CutRange
import Derived.Deep.CutBlock
namespace Go.Proofs.YthclgehifomkhaaDoor.W
open Go.RowKit Oc
set_option linter.unusedVariables false

theorem of2 (A : Option Addr) (c : Nat) (xs : List UInt8) (w : World) (ho : Oct w A 2 xs) (u : Nat) (hu : num xs = u) : Calls Tryd.prog 26 #[.slice A 2 c] w fun e w' => e = .returned (.int .u64 (u : Int)) ∧ w = w' := of_any A 2 c xs w (by omega) ho u hu
theorem of8 (A : Option Addr) (c : Nat) (xs : List UInt8) (w : World) (ho : Oct w A 8 xs) (u : Nat) (hu : num xs = u) : Calls Tryd.prog 26 #[.slice A 8 c] w fun e w' => e = .returned (.int .u64 (u : Int)) ∧ w = w' := of_any A 8 c xs w (by omega) ho u hu
theorem below_drewN {B : Nat} {a w : World} (h : Below B a w) (n : Nat) : Below B a (w.drewN n) := ⟨h.os, h.tape, h.output, h.size, h.block⟩
theorem oct_sub {w : World} {b off n : Nat} {xs : List UInt8} (h : Oct w (some ⟨b, off, none⟩) n xs) {i k o : Nat} (hk : i + k ≤ n) (ho : o = off + i) : Oct w (some ⟨b, o, none⟩) k ((xs.drop i).take k) := by
  subst ho
  have h2 := h.sub (i := i) (k := k) hk
  rw [show Option.map (fun x => x.add i) (some (⟨b, off, none⟩ : Addr)) = some ⟨b, off + i, none⟩ by simp [Go.WideShapes.add_plain]] at h2
  exact h2
theorem wrap_le {x : Nat} (h : x ≤ 1000000000) : IntKind.i64.wrap (x : Int) = (x : Int) := by
  unfold IntKind.wrap
  simp [IntKind.signed, IntKind.bits]
  omega
theorem gp_new2 {w w1 : World} {o : Obj} {k : Nat} {cs : Array Value} {T : TypeId} (h : w1 = (w.alloc (.cells cs T)).drewN k) : w1.heap[w.heap.size]? = some (.cells cs T (0, 0)) := by rw [h]; exact heap_alloc_new w _

/-- the zero page's value -/
def zv : Value := .agg #[.int .i64 0, .int .u64 0, .int .u64 0, .int .u64 0, .int .u64 0, .int .u64 0, .int .u64 0, .int .u64 0]
set_option maxHeartbeats 4000000 in
theorem rgget_dec (A : Option Addr) (n c : Nat) (ys : List UInt8) (no : Int) (d : Gp) (w : World) (hn : n ≤ 1000000) (hc : n ≤ c) (ho : Oct w A n ys) (h1 : getE ys 1 = 0) (hd : d = dec (getL ys 1)) (bb : Bool) (hb : bb = true ↔ MayBe d) (x : Value) (E : Int) (hx : (bb = true ∧ d.no = no ∧ x = (.agg #[.int .i64 d.no, .int .u64 (d.v : Int), .int .u64 (d.g 0 : Int), .int .u64 (d.g 1 : Int), .int .u64 (d.g 2 : Int), .int .u64 (d.g 3 : Int), .int .u64 (d.g 4 : Int), .int .u64 (d.g 5 : Int)]) ∧ E = 0) ∨ (bb = true ∧ ¬ d.no = no ∧ x = zv ∧ E = 31) ∨ (bb = false ∧ x = zv ∧ E = 31)) :
    Calls Tryd.prog 11 #[.slice A n c, .int .i64 no] w fun e w' => e = .returned (.tuple #[x, .int .i64 E]) ∧ Below w.heap.size w w' := by
  have HO := Lib.hid ho
  have H1 := Lib.hid h1
  have HD := Lib.hid hd
  obtain ⟨ps, hps⟩ : ∃ ps, getL ys 1 = ps := ⟨_, rfl⟩
  have hpl : ps.length = 58 := by rw [← hps]; exact get58 h1
  obtain ⟨N, hN⟩ : ∃ N, num (ps.take 2) = N := ⟨_, rfl⟩
  obtain ⟨V, hV⟩ : ∃ V, num ((ps.drop 2).take 8) = V := ⟨_, rfl⟩
  obtain ⟨G, hG⟩ : ∃ G, (dec ps).g = G := ⟨_, rfl⟩
  have hN2 : N < 65536 := by
    rw [← hN]
    have := num_lt (ps.take 2)
    rw [List.length_take, hpl] at this
    simpa using this
  have hdv : ((.agg #[.int .i64 d.no, .int .u64 (d.v : Int), .int .u64 (d.g 0 : Int), .int .u64 (d.g 1 : Int), .int .u64 (d.g 2 : Int), .int .u64 (d.g 3 : Int), .int .u64 (d.g 4 : Int), .int .u64 (d.g 5 : Int)]) : Value) = .agg #[.int .i64 (N : Int), .int .u64 (V : Int), .int .u64 (G 0 : Int), .int .u64 (G 1 : Int), .int .u64 (G 2 : Int), .int .u64 (G 3 : Int), .int .u64 (G 4 : Int), .int .u64 (G 5 : Int)] := by
    rw [hd, hps, ← hN, ← hV, ← hG]; rfl
  have HDV := Lib.hid hdv
  have HPS := Lib.hid hps
  have HPL := Lib.hid hpl
  have EN := Lib.hid hN
  have EV := Lib.hid hV
  have EG := Lib.hid hG
  have HM := Lib.hid hb
  have HX := Lib.hid hx
  have HNO : Hid (d.no = (N : Int)) := by show _ = _; rw [hd, hps, ← hN]; rfl
  clear ho h1 hd hps hpl hN hV hG hdv hb hx
  go_enter Tryd.func11, Tryd.ntmps11
  go_wp2_with fail
  refine (rget2_any _ _ _ ys _ _ hn hc (HO.out.alloc _)).mono ?_; rintro e w1 ⟨A1, m1, c1, hmc, rfl, o, kk, hw⟩
  rw [H1.out]
  rw [HPS.out] at o
  have hm1 : m1 = 58 := by rw [← o.len]; exact HPL.out
  subst hm1
  have S1 : Hid (Oct w1 A1 58 ps) := by show Oct _ _ _ _; rw [hw]; exact o.drewN kk
  have Y1 := Lib.hid (gp_new2 (o := .cells #[] 0) hw)
  have B1 : Hid (Below w.heap.size w w1) := by show Below _ _ _; rw [hw]; exact below_drewN (balloc _ _) kk
  clear o hw
  obtain ⟨b, off, hA1, _⟩ := S1.out.2 (by omega)
  subst hA1
  have hwr : IntKind.i64.wrap (N : Int) = (N : Int) := wrap_le (by omega)
  go_upto_region 4 with fail
  go_cut [8] from 19 to 26 (fun s wc => s = .pointer (some ⟨w1.heap.size, 0, none⟩) ∧ wc = (w1.alloc (.cells #[.int .i64 (N : Int), .int .u64 (V : Int), .int .u64 0, .int .u64 0, .int .u64 0, .int .u64 0, .int .u64 0, .int .u64 0] 25)).drew)
  case first =>
    go_region_held (fun _ => True) (exact trivial) (first
      | (go_at_call 26; (with_reducible refine (of2 (some ⟨b, off, none⟩) c1 (ps.take 2) w1.drew (S1.out.drew.take (by omega)) N EN.out).mono ?_); rintro e w2 ⟨rfl, rfl⟩)
      | (go_at_call 26; (with_reducible refine (of8 (some ⟨b, off + 2, none⟩) (c1 - 2) ((ps.drop 2).take 8) w1.drew (oct_sub S1.out.drew (by omega) rfl) V EV.out).mono ?_); rintro e w2 ⟨rfl, rfl⟩)
      | (go_at_call 26; (with_reducible refine (of2 (some ⟨b, off, none⟩) c1 (ps.take 2) (w1.alloc (.cells #[.int .i64 0, .int .u64 0, .int .u64 0, .int .u64 0, .int .u64 0, .int .u64 0, .int .u64 0, .int .u64 0] 25)).drew ((S1.out.alloc _).drew.take (by omega)) N EN.out).mono ?_); rintro e w2 ⟨rfl, rfl⟩)
      | (go_at_call 26; (with_reducible refine (of8 (some ⟨b, off + 2, none⟩) (c1 - 2) ((ps.drop 2).take 8) (w1.alloc (.cells #[.int .i64 0, .int .u64 0, .int .u64 0, .int .u64 0, .int .u64 0, .int .u64 0, .int .u64 0, .int .u64 0] 25)).drew (oct_sub (S1.out.alloc _).drew (by omega) rfl) V EV.out).mono ?_); rintro e w2 ⟨rfl, rfl⟩))
    all_goals (go_wp2_with fail; go_meet; first | exact ⟨rfl, rfl⟩ | (rw [hwr]; exact ⟨rfl, rfl⟩))
  case rest =>
    obtain ⟨rfl, hwc⟩ := hcut
    obtain ⟨B, hB⟩ : ∃ B, B = w1.heap.size := ⟨_, rfl⟩
    have XB : Hid (wc.heap[B]? = some (.cells (gc N V (upto G 0)) 25 (0, 0))) := by show _ = _; rw [hwc, hB]; exact heap_alloc_new w1 _
    have YB : Hid (wc.heap[w.heap.size]? = some (.cells (gc 0 0 fun _ => 0) 25 (0, 0))) := by show _ = _; rw [hwc]; exact kept_below Y1.out (balloc w1 _).drew
    have SB : Hid (Oct wc (some ⟨b, off, none⟩) 58 ps) := by show Oct _ _ _ _; rw [hwc]; exact (S1.out.alloc _).drew
    have BB : Hid (Below w.heap.size w wc) := by show Below _ _ _; rw [hwc]; exact bthen B1.out (balloc w1 _).drew
    have hwB : w.heap.size < B := by rw [hB]; exact (Array.getElem?_eq_some_iff.1 Y1.out).1
    have EB := Lib.hid hB
    rw [← hB]
    clear hwc hB
    go_wp2
    go_loopw [9] (fun q wr => ∃ j : Nat, j ≤ 6 ∧ q = .int .i64 j ∧ Hid (wr.heap[B]? = some (.cells (gc N V (upto G j)) 25 (0, 0))) ∧ Hid (wr.heap[w.heap.size]? = some (.cells (gc 0 0 fun _ => 0) 25 (0, 0))) ∧ Hid (Oct wr (some ⟨b, off, none⟩) 58 ps) ∧ Hid (Below w.heap.size w wr)) (fun q _ => 6 - (intOf q).toNat)
    case atStart => exact ⟨0, by omega, rfl, XB, YB, SB, BB⟩
    case round =>
      obtain ⟨j, hj, rfl, HG, HC, SJ, BJ⟩ := hrel
      by_cases hlt : j < 6
      · obtain ⟨k1, f1⟩ := gc_cell HG.out hlt
        have hlen : 18 + 8 * j - (10 + 8 * j) = 8 := by omega
        have HLN := Lib.hid hlen
        clear hlen
        go_wp2_with fail
        rw [HLN.out]
        refine (of8 _ _ ((ps.drop (10 + 8 * j)).take 8) _ (oct_sub SJ.out (by omega) rfl) (G j) (by rw [gen_drop, EG.out])).mono ?_; rintro e w' ⟨rfl, rfl⟩
        go_wp2
        go_roundw
        case rel =>
          refine ⟨j + 1, by omega, rfl, ?_, kept_by HC.out (grown_set _ _ _ _) (by omega), SJ.out.grown (grown_set _ _ _ _) (Oct.gc SJ.out HG.out), below_up BJ.out (grown_set _ _ _ _) (by omega)⟩
          show _ = _
          rw [← gc_upto]
          exact gc_set HG.out hlt (G j)
        case measure => simp [intOf]; omega
      · have h6 : j = 6 := by omega
        have hg : wr.heap[B]? = some (.cells #[.int .i64 (N : Int), .int .u64 (V : Int), .int .u64 (G 0 : Int), .int .u64 (G 1 : Int), .int .u64 (G 2 : Int), .int .u64 (G 3 : Int), .int .u64 (G 4 : Int), .int .u64 (G 5 : Int)] 25 (0, 0)) := by rw [HG.out, h6, gc_all]; rfl
        have X7 := Lib.hid hg
        clear hg h6
        go_wp2_with ((with_reducible apply L_loadGp); exact rfl; exact X7.out; exact rfl)
        rw [← HDV.out]
        refine (rmay_any d bb _ HM.out).mono ?_; rintro e w8 ⟨rfl, b8⟩
        have Y8 := Lib.hid (kept_below HC.out b8)
        have X8 := Lib.hid (kept_below X7.out b8)
        have B8 : Hid (Below w.heap.size w w8) := bthen BJ.out b8
        clear b8
        have hx0 : w8.cell? ⟨B, 0, none⟩ = some (.int .i64 (N : Int)) := by rw [cell_of_row _ _ _ _ _ _ X8.out]; rfl
        rcases HX.out with ⟨rfl, h2, rfl, rfl⟩ | ⟨rfl, h2, rfl, rfl⟩ | ⟨rfl, rfl, rfl⟩
        · rw [HNO.out] at h2
          subst h2
          go_wp2_with (first
            | ((with_reducible apply L_loadGp); exact rfl; exact X8.out; exact rfl)
            | ((with_reducible apply L_storeRow (N := 8) info_gp); exact rfl; exact rfl; exact Y8.out; exact rfl; exact rfl; (simp [Value.oneCell']); intro w4 h4 g4; have H4 := Lib.hid h4; have G4 := Lib.hid g4; clear h4 g4))
          refine bodyPost_ret (results_cell_tmp_row rfl _ _ _ _ rfl (run_loadVar_row _ _ _ _ _ _ _ H4.out Tryd.underlying25 rfl info_gp)) rfl ?_
          exact ⟨by rw [HDV.out]; rfl, below_up B8.out G4.out (Nat.le_refl _)⟩
        · rw [HNO.out] at h2
          go_wp2_with ((with_reducible apply L_storeRow (N := 8) info_gp); exact rfl; exact rfl; exact Y8.out; exact rfl; exact rfl; (simp [Value.oneCell']); intro w4 h4 g4; have H4 := Lib.hid h4; have G4 := Lib.hid g4; clear h4 g4)
          refine bodyPost_ret (results_cell_tmp_row rfl _ _ _ _ rfl (run_loadVar_row _ _ _ _ _ _ _ H4.out Tryd.underlying25 rfl info_gp)) rfl ?_
          exact ⟨rfl, below_up B8.out G4.out (Nat.le_refl _)⟩
        · go_wp2_with ((with_reducible apply L_storeRow (N := 8) info_gp); exact rfl; exact rfl; exact Y8.out; exact rfl; exact rfl; (simp [Value.oneCell']); intro w4 h4 g4; have H4 := Lib.hid h4; have G4 := Lib.hid g4; clear h4 g4)
          refine bodyPost_ret (results_cell_tmp_row rfl _ _ _ _ rfl (run_loadVar_row _ _ _ _ _ _ _ H4.out Tryd.underlying25 rfl info_gp)) rfl ?_
          exact ⟨rfl, below_up B8.out G4.out (Nat.le_refl _)⟩
end Go.Proofs.YthclgehifomkhaaDoor.W
