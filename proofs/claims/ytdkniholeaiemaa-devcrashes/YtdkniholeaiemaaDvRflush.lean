/-
  The document's devices: Flush. No conditions.
-/
import Derived.Test.YtdkniholeaiemaaDvRread
namespace Go.Proofs.Ytdkniholeaiemaa.W
open Go.RowKit Oc Dm Gt
set_option linter.unusedVariables false
set_option maxRecDepth 100000
section
variable {w w' : World} {G G' : Nat → Prop} {E q n : Nat} {S : Nat → Sec} {rd wx gs : Nat} {vs : Nat → Value} {s : PS}
/-- sector i anew, with its row of loose writes -/
theorem RvAt.put (h : RvAt w G E q n S rd wx gs vs) {i : Nat} (hi : i < n) (x : Sec) (v : Value) (hG : ∀ k, G k → G' k) (hb : ∀ k, G' k → k < w'.heap.size) (r : w'.rowIs gs 57 (n * 3) (oc (upd S i x) (upd vs i v))) (hk : ∀ k, k < w.heap.size → k ≠ gs → w'.heap[k]? = w.heap[k]?)
    (hv : ∃ A c, v = .slice A x.loose.length c ∧ x.loose.length ≤ c ∧ c ≤ maxLen ∧ Rw.Sl w' A x.loose.length (x.loose.map tx) ∧ ∀ b off, 0 < x.loose.length → A = some ⟨b, off, none⟩ → G' b ∧ b ≠ gs) : RvAt w' G' E q n (upd S i x) rd wx gs (upd vs i v) where
  head := (hk _ (lt_of_heap h.head) h.ne.1).trans h.head
  row := r
  loose := fun j hj => by
    by_cases e : j = i
    · subst e; rw [upd_same, upd_same]; exact hv
    · rw [upd_other _ _ e, upd_other _ _ e]
      obtain ⟨A, c, e, h1, h2, h3, h4⟩ := h.loose j hj
      exact ⟨A, c, e, h1, h2, h3.heap (fun b off hn e' => hk _ (h.bound _ (h4 b off hn e').1) (h4 b off hn e').2), fun b off hn e' => ⟨hG _ (h4 b off hn e').1, (h4 b off hn e').2⟩⟩
  hn := h.hn
  hrd := h.hrd
  hwr := h.hwr
  inG := ⟨hG _ h.inG.1, hG _ h.inG.2⟩
  bound := hb
theorem oc_put {w : World} {gs n i : Nat} {S : Nat → Sec} {vs : Nat → Value} (h : w.rowIs gs 57 (n * 3) (oc S vs)) (x : Sec) (v : Value) :
    (((w.setCell ⟨gs, i * 3, none⟩ (tx x.fixed)).setCell ⟨gs, i * 3 + 1, none⟩ v).setCell ⟨gs, i * 3 + 2, none⟩ (.bool x.rotten)).rowIs gs 57 (n * 3) (oc (upd S i x) (upd vs i v)) := by
  refine (((h.set (i * 3) (tx x.fixed)).set (i * 3 + 1) v).set (i * 3 + 2) (.bool x.rotten)).congr (fun j hj => ?_)
  have hm : j % 3 = 0 ∨ j % 3 = 1 ∨ j % 3 = 2 := by omega
  by_cases e : j / 3 = i
  · rcases hm with m | m | m
    · have : j = i * 3 := by omega
      subst this
      rw [oc0 (upd S i x), upd_same, if_neg (by omega), if_neg (by omega), if_pos rfl]
    · have : j = i * 3 + 1 := by omega
      subst this
      rw [oc1 (upd S i x), upd_same, if_neg (by omega), if_pos rfl]
    · have : j = i * 3 + 2 := by omega
      subst this
      rw [oc2 (upd S i x), upd_same, if_pos rfl]
  · rw [if_neg (by omega), if_neg (by omega), if_neg (by omega)]
    unfold oc
    rw [upd_other _ _ e, upd_other _ _ e]
theorem put3_at (h : RvAt w G E q n S rd wx gs vs) {i : Nat} (hi : i < n) (x : Sec) (hx : x.loose = []) {B : ByteArray} (hB : tx x.fixed = .string B) {w' : World} (hw : w' = (((w.setCell ⟨gs, i * 3, none⟩ (.string B)).setCell ⟨gs, i * 3 + 1, none⟩ (.slice none 0 0)).setCell ⟨gs, i * 3 + 2, none⟩ (.bool x.rotten)).drew := by rfl) :
    RvAt w' G E q n (upd S i x) rd wx gs (upd vs i (.slice none 0 0)) ∧ (∀ k, k ≠ gs → w'.heap[k]? = w.heap[k]?) ∧ Chg (fun k => k = gs) w w' := by
  subst hw
  have ho : ∀ k, k ≠ gs → ((((w.setCell ⟨gs, i * 3, none⟩ (.string B)).setCell ⟨gs, i * 3 + 1, none⟩ (.slice none 0 0)).setCell ⟨gs, i * 3 + 2, none⟩ (.bool x.rotten)).drew).heap[k]? = w.heap[k]? := fun k hk => by
    show (((w.setCell ⟨gs, i * 3, none⟩ (.string B)).setCell ⟨gs, i * 3 + 1, none⟩ (.slice none 0 0)).setCell ⟨gs, i * 3 + 2, none⟩ (.bool x.rotten)).heap[k]? = w.heap[k]?
    rw [heap_setCell_other _ _ _ _ hk, heap_setCell_other _ _ _ _ hk, heap_setCell_other _ _ _ _ hk]
  have r := oc_put (i := i) h.row x (.slice none 0 0)
  rw [hB] at r
  have hs : ((((w.setCell ⟨gs, i * 3, none⟩ (.string B)).setCell ⟨gs, i * 3 + 1, none⟩ (.slice none 0 0)).setCell ⟨gs, i * 3 + 2, none⟩ (.bool x.rotten)).drew).heap.size = w.heap.size := by
    show (((w.setCell ⟨gs, i * 3, none⟩ (.string B)).setCell ⟨gs, i * 3 + 1, none⟩ (.slice none 0 0)).setCell ⟨gs, i * 3 + 2, none⟩ (.bool x.rotten)).heap.size = _
    rw [size_cell, size_cell, size_cell]
  refine ⟨h.put hi x _ (fun _ y => y) (fun k y => by rw [hs]; exact h.bound k y) r (fun k _ hk => ho k hk) ⟨none, 0, by rw [hx]; rfl, by rw [hx]; exact Nat.le_refl _, by decide, by rw [hx]; exact ⟨rfl, fun h => absurd h (by decide)⟩, fun b off _ e => by cases e⟩, ho, ?_⟩
  exact (Chg.of_grown (grown2 (grown2 (grown_cell ..) (grown_cell ..)) (grown_cell ..)) (fun k e _ => by injection e with e; exact e.symm)).drew
theorem rflush_off (h : RvAt w G E q n S rd wx gs vs) (hq : Qw w q s) (ho : s.off = true) : Calls Try.prog 33 #[.pointer (some ⟨E, 0, none⟩)] w fun e w' => e = .returned (.int .i64 80) ∧ w = w' := by
  obtain ⟨c0, c1, c2, c3, fr⟩ := h.cells
  obtain ⟨l, hh, hl, d0, d1, d2, d3, fr2⟩ := hq.cells
  rw [ho] at d0
  clear h hq hh hl
  go_enter Try.func33, Try.ntmps33
  go_wp2
  go_ret
  exact ⟨rfl, rfl⟩
theorem rflush_goes (h : RvAt w G E q n S rd wx gs vs) (hq : Qw w q s) (hf : ∀ k, s.fuse = some k → k ≤ 1048576) (hd : s.done < 1000000000000) (ho : s.off = false) (hg : s.goes = true) : Calls Try.prog 33 #[.pointer (some ⟨E, 0, none⟩)] w (QTurned w q s.spend (.int .i64 80)) := by
  have HQ := Lib.hid hq
  have HF := Lib.hid hf
  obtain ⟨c0, c1, c2, c3, fr⟩ := h.cells
  obtain ⟨l, hh, hl, d0, d1, d2, d3, fr2⟩ := hq.cells
  rw [ho] at d0
  clear h hq hh hl hf
  go_enter Try.func33, Try.ntmps33
  go_wp2_with fail
  refine (rspend_any HQ.out HF.out hd).mono ?_; rintro e w1 ⟨rfl, q1, g1, z1⟩
  have Q1 := Lib.hid q1
  have G1 := Lib.hid g1
  have Z1 := Lib.hid z1
  clear q1 g1 z1
  rw [hg]
  go_wp2
  go_ret
  exact ⟨rfl, Q1.out, G1.out, Z1.out⟩
/-- the first j sectors are flushed -/
def rmid (S : Nat → Sec) (j i : Nat) : Sec := if i < j then flushS S i else S i
theorem rmid_skip {S : Nat → Sec} {j : Nat} (h : (S j).loose = []) : rmid S j = rmid S (j + 1) := by
  funext i
  unfold rmid
  by_cases e : i = j
  · subst e
    rw [if_neg (by omega), if_pos (by omega), flushS, if_pos h]
  · by_cases h1 : i < j
    · rw [if_pos h1, if_pos (by omega)]
    · rw [if_neg h1, if_neg (by omega)]
theorem rmid_step {S : Nat → Sec} {j : Nat} (h : (S j).loose ≠ []) : upd (rmid S j) j ⟨(S j).stands, [], false⟩ = rmid S (j + 1) := by
  funext i
  unfold upd
  show (if i = j then _ else rmid S j i) = _
  unfold rmid
  by_cases e : i = j
  · subst e
    rw [if_pos rfl, if_pos (by omega), flushS, if_neg h]
  · rw [if_neg e]
    by_cases h1 : i < j
    · rw [if_pos h1, if_pos (by omega)]
    · rw [if_neg h1, if_neg (by omega)]
theorem RvAt.congrS {S' : Nat → Sec} (h : RvAt w G E q n S rd wx gs vs) (e : ∀ i, i < n → S' i = S i) : RvAt w G E q n S' rd wx gs vs :=
  { h with
    row := h.row.congr (fun j hj => by unfold oc; rw [e (j / 3) (by omega)])
    loose := fun i hi => by rw [e i hi]; exact h.loose i hi }
theorem rflush_ok (h : RvAt w G E q n S rd wx gs vs) (hGq : ¬ G q) (hq : Qw w q s) (hf : ∀ k, s.fuse = some k → k ≤ 1048576) (hd : s.done < 1000000000000) (ho : s.off = false) (hg : s.goes = false) : Calls Try.prog 33 #[.pointer (some ⟨E, 0, none⟩)] w fun e w' => e = .returned (.int .i64 0) ∧ Qw w' q s.spend ∧ (∃ vs', RvAt w' G E q n (flushS S) rd wx gs vs') ∧ Chg (fun k => k = q ∨ k = gs) w w' := by
  have HQ := Lib.hid hq
  have HF := Lib.hid hf
  have H := Lib.hid h
  obtain ⟨c0, c1, c2, c3, fr⟩ := h.cells
  obtain ⟨l, hh, hl, d0, d1, d2, d3, fr2⟩ := hq.cells
  have hn := h.hn
  rw [ho] at d0
  clear h hq hh hl hf
  go_enter Try.func33, Try.ntmps33
  go_wp2_with fail
  refine (rspend_any HQ.out HF.out hd).mono ?_; rintro e w1 ⟨rfl, q1, g1, z1⟩
  have Q1 := Lib.hid q1
  have C1 : Hid (Chg (fun k => k = q ∨ k = gs) w w1) := Chg.of_grown g1 (fun k e _ => by injection e with e; exact .inl e.symm)
  have H1 : Hid (RvAt w1 G E q n S rd wx gs vs) := H.out.kept (F := fun k => k = q) (Chg.of_grown g1 (fun k e _ => by injection e with e; exact e.symm)) (fun k x e => hGq (e ▸ x))
  clear q1 g1 z1 c0 c1 c2 c3 fr d0 d1 d2 d3 fr2 HQ HF H
  rw [hg]
  go_wp2
  go_loopw [3] (fun p wr => ∃ j : Nat, j ≤ n ∧ p = .int .i64 (j : Int) ∧ Hid (∃ vs', RvAt wr G E q n (rmid S j) rd wx gs vs') ∧ Hid (Qw wr q s.spend) ∧ Hid (Chg (fun k => k = q ∨ k = gs) w wr)) (fun p _ => n - (intOf p).toNat)
  case atStart => exact ⟨0, Nat.zero_le _, rfl, ⟨vs, H1.out⟩, Q1, C1⟩
  case round =>
    obtain ⟨j, hj, rfl, HJ, QJ, CJ⟩ := hrel
    clear H1 Q1 C1
    obtain ⟨vs', hv⟩ := HJ.out
    have HV := Lib.hid hv
    obtain ⟨c0, c1, c2, c3, fr⟩ := hv.cells
    clear hv HJ
    by_cases hlt : j < n
    · have hlt2 : (j : Int) < (n : Int) := by omega
      obtain ⟨A, c, hv, hlc, hcm, hsl, hG⟩ := HV.out.loose j hlt
      obtain ⟨s0, s1, s2, sf⟩ := HV.out.sec hlt
      rw [hv] at s1
      have er : rmid S j j = S j := if_neg (by omega)
      rw [er] at s1 s0 s2
      by_cases he : (S j).loose = []
      · rw [he, List.length_nil] at s1
        clear hv hlc hsl hG s0
        go_wp2
        go_roundw
        case rel => exact ⟨j + 1, by omega, by go_num, ⟨vs', rmid_skip he ▸ HV.out⟩, QJ, CJ⟩
        case measure => simp [intOf]; omega
      · have hpos := List.length_pos_iff.2 he
        have hpos2 : (0 : Int) < ((S j).loose.length : Int) := by omega
        have RS : Hid (∀ w2, RvAt w2 G E q n (rmid S j) rd wx gs vs' → Calls Try.prog 39 #[.pointer (some ⟨E, 0, none⟩), .int .i64 (j : Int)] w2 fun e w' => e = .returned (.string (bstr (S j).stands)) ∧ w2 = w') := fun w2 h2 => by
          have := rstands_any h2 j hlt
          rw [er] at this
          exact this
        have EB : Hid (∀ B, bstr (S j).stands = B → tx (S j).stands = .string B) := fun B e => by rw [← e]; rfl
        obtain ⟨B0, hB0⟩ : ∃ B, bstr (S j).stands = B := ⟨_, rfl⟩
        have EB0 := Lib.hid (EB.out B0 hB0)
        rw [hB0] at RS
        have s0' : wr.cell? ⟨gs, j * 3, none⟩ = some (.string (bstr (S j).fixed)) := s0
        have hne := HV.out.ne.1
        have hne2 : gs ≠ E := fun e => hne e.symm
        have HE := Lib.hid he
        generalize (S j).loose.length = k at s1 hpos hpos2
        generalize bstr (S j).fixed = B1 at s0'
        clear hv hlc hsl hG s0 EB hB0 er
        go_wp2_with fail
        go_region_held (fun w' => w'.cell? ⟨E, 1, none⟩ = some (.slice (some ⟨gs, 0, none⟩) n n)) (first | go_keep | (simp [World.setCell, *]; done))
          (first | (go_at_call 39; (with_reducible refine (RS.out _ (HV.out.below (Below.refl _ _).drew)).mono ?_); rintro e w' ⟨rfl, rfl⟩))
        all_goals
          go_wp2
          go_roundw
          case rel => exact ⟨j + 1, by omega, by go_num, ⟨_, rmid_step HE.out ▸ (put3_at HV.out hlt ⟨(S j).stands, [], false⟩ rfl EB0.out).1⟩, QJ.out.heap ((put3_at HV.out hlt ⟨(S j).stands, [], false⟩ rfl EB0.out).2.1 q (fun e => hGq (e ▸ HV.out.inG.2))), CJ.out.trans (put3_at HV.out hlt ⟨(S j).stands, [], false⟩ rfl EB0.out).2.2 (fun i _ e => .inr e)⟩
          case measure => simp [intOf]; omega
    · have hlt2 : ¬ (j : Int) < (n : Int) := by omega
      have HE : Hid (RvAt wr G E q n (flushS S) rd wx gs vs') := HV.out.congrS (fun i hi => (if_pos (by omega) : rmid S j i = flushS S i).symm)
      go_wp2
      go_ret
      exact ⟨rfl, QJ.out, ⟨vs', HE.out⟩, CJ.out⟩
end
end Go.Proofs.Ytdkniholeaiemaa.W
