/-
  The document's devices: Write. No conditions.
-/
import Derived.Test.YtdkniholeaiemaaDvRloose
import Derived.Test.YtdkniholeaiemaaGate
namespace Go.Proofs.Ytdkniholeaiemaa.W
open Go.RowKit Oc Dm Gt
set_option linter.unusedVariables false
set_option maxRecDepth 100000
theorem strt : Rw.ElTy Try.prog 55 9 (.string ⟨#[]⟩) 16 := ⟨Try.underlying55, by kernel_rfl, rfl, by decide⟩
theorem tx_one (xs : List (List UInt8)) : ∀ u ∈ xs.map tx, u.oneCell' = true := by
  intro u hu
  obtain ⟨x, _, rfl⟩ := List.mem_map.1 hu
  rfl
theorem wp_append_row {P : Program} {w : World} {o : Oper} {a : Act} {K : Act → World → Prop} {Q : Exit → Act → World → Prop} (s x : Operand) (t : TypeId)
    (ho : o.op = .call { callee := .builtin .append, args := #[s, x], argTypes := #[t, t] }) {e : TypeId} {z : Value} {bytes : Nat} (hT : Rw.ElTy P t e z bytes) {w0 : World} {v : Value} {xs : List Value} (hs : a.eval s = v) (hown : Rw.OwnV w e w0.heap.size v xs) (hb : Below w0.heap.size w0 w)
    {A : Option Addr} {m : Nat} (c : Nat) {ys : List Value} (hx : a.eval x = .slice A m c) (hr : Rw.Sl w A m ys) (h1 : ∀ u ∈ ys, u.oneCell' = true) (hl : xs.length + m ≤ 1000000000000)
    (h : ∀ v' w', Rw.OwnV w' e w0.heap.size v' (xs ++ ys) → Below w0.heap.size w0 w' → w.grownBy w' v.ownBlock → K (a.put o.dst v') w') : Oper.wp P o a w K Q := by
  obtain ⟨v', w', hrun, h2, h3, _⟩ := Rw.run_append_row (P := P) (ty := o.type) c hT hown hr h1 hl hb.size
  unfold Oper.wp execOp
  simp only [ho, resolve, invoke, builtin, Sem.run_bind, Sem.run_pure, Result.andThen_ok, List.map_toArray, List.map_cons, List.map_nil, hs, hx, hrun]
  exact h v' w' h2 (hb.grown h3 hb.size fun g hg => (hown.ge g hg).1) h3
theorem own_empty (w : World) (e : TypeId) (B : Nat) (hB : B ≤ w.heap.size) : Rw.OwnV (w.alloc (.cells #[] e)) e B (.slice (some ⟨w.heap.size, 0, none⟩) 0 0) [] := World.ownsRow_lit (base := B) (e := e) (size := 1) w #[] 0 hB (by decide) rfl
theorem oc_put1 {w : World} {gs n i : Nat} {S : Nat → Sec} {vs : Nat → Value} (h : w.rowIs gs 57 (n * 3) (oc S vs)) (x : Sec) (v : Value) (hf : x.fixed = (S i).fixed) (hr : x.rotten = (S i).rotten) :
    (w.setCell ⟨gs, i * 3 + 1, none⟩ v).rowIs gs 57 (n * 3) (oc (upd S i x) (upd vs i v)) := by
  refine (h.set (i * 3 + 1) v).congr (fun j hj => ?_)
  have hm : j % 3 = 0 ∨ j % 3 = 1 ∨ j % 3 = 2 := by omega
  by_cases e : j / 3 = i
  · rcases hm with m | m | m
    · have : j = i * 3 := by omega
      subst this
      rw [oc0 (upd S i x), upd_same, if_neg (by omega), oc0, hf]
    · have : j = i * 3 + 1 := by omega
      subst this
      rw [oc1 (upd S i x), upd_same, if_pos rfl]
    · have : j = i * 3 + 2 := by omega
      subst this
      rw [oc2 (upd S i x), upd_same, if_neg (by omega), oc2, hr]
  · rw [if_neg (by omega)]
    unfold oc
    rw [upd_other _ _ e, upd_other _ _ e]
section
variable {w w' w4 : World} {G G' : Nat → Prop} {E q n : Nat} {S : Nat → Sec} {rd wx gs : Nat} {vs : Nat → Value} {s : PS}
theorem rput1 (h : RvAt w G E q n S rd wx gs vs) {i : Nat} (hi : i < n) {xs : List UInt8} {v : Value} (b : Below w.heap.size w w4) (o : Rw.OwnV w4 9 w.heap.size v (((S i).loose ++ [xs]).map tx)) :
    RvAt (w4.setCell ⟨gs, i * 3 + 1, none⟩ v) (Ext G w (w4.setCell ⟨gs, i * 3 + 1, none⟩ v)) E q n (wrote S i xs) rd wx gs (upd vs i v) ∧ Chg G w (w4.setCell ⟨gs, i * 3 + 1, none⟩ v) := by
  have hgl := h.bound gs h.inG.2
  have h4 := h.below b
  have hL : ((((S i).loose ++ [xs]).map tx)).length = ((S i).loose ++ [xs]).length := by simp
  obtain ⟨A, c, rfl, hlc, hcm, hsl⟩ := o.form hL
  have hge := o.ge
  refine ⟨?_, ?_⟩
  · refine (h4.frame (G' := Ext G w (w4.setCell ⟨gs, i * 3 + 1, none⟩ (.slice A ((S i).loose ++ [xs]).length c))) (w' := w4) (fun k x => .inl x) (fun k x => ?_) (fun k _ => rfl)).put hi _ _ (fun k x => x) (fun k x => ?_) (oc_put1 h4.row ⟨(S i).fixed, (S i).loose ++ [xs], (S i).rotten⟩ _ rfl rfl) (fun k _ hk => heap_setCell_other _ _ _ _ hk) ⟨A, c, rfl, hlc, hcm, ?_, ?_⟩
    · rcases x with x | x
      · exact h4.bound k x
      · rw [size_cell] at x; exact x.2
    · rw [size_cell]
      rcases x with x | x
      · exact h4.bound k x
      · rw [size_cell] at x; exact x.2
    · refine hsl.heap (fun b' off' hn e => heap_setCell_other _ _ _ _ ?_)
      intro e2
      subst e
      have := (hge b' rfl).1
      have e3 : b' = gs := e2
      omega
    · intro b' off' hn e
      subst e
      have := hge b' rfl
      exact ⟨.inr ⟨this.1, by rw [size_cell]; exact this.2⟩, by omega⟩
  · exact (Chg.of_below b).trans (G := G) (Chg.of_grown (grown_cell ..) (fun k e _ => by injection e with e; rw [← e]; exact h.inG.2)) (fun k _ x => x)
theorem rwrite_off (h : RvAt w G E q n S rd wx gs vs) (hq : Qw w q s) (ho : s.off = true) (z : Int) (u : Value) : Calls Try.prog 32 #[.pointer (some ⟨E, 0, none⟩), .int .i64 z, u] w fun e w' => e = .returned (.int .i64 80) ∧ w = w' := by
  obtain ⟨c0, c1, c2, c3, fr⟩ := h.cells
  obtain ⟨l, hh, hl, d0, d1, d2, d3, fr2⟩ := hq.cells
  rw [ho] at d0
  clear h hq hh hl
  go_enter Try.func32, Try.ntmps32
  go_wp2
  go_ret
  exact ⟨rfl, rfl⟩
theorem rwrite_no (h : RvAt w G E q n S rd wx gs vs) (hq : Qw w q s) (ho : s.off = false) (z : Int) (u : Value) (hz : z < 0 ∨ (n : Int) ≤ z) : Calls Try.prog 32 #[.pointer (some ⟨E, 0, none⟩), .int .i64 z, u] w fun e w' => e = .returned (.int .i64 3) ∧ w = w' := by
  have H := Lib.hid h
  obtain ⟨c0, c1, c2, c3, fr⟩ := h.cells
  obtain ⟨l, hh, hl, d0, d1, d2, d3, fr2⟩ := hq.cells
  rw [ho] at d0
  have hd : decide (0 ≤ z ∧ z < (n : Int)) = false := by simp; omega
  clear h hq hh hl hz
  go_enter Try.func32, Try.ntmps32
  go_wp2_with fail
  refine (rhas_any H.out z).mono ?_; rintro e w' ⟨rfl, rfl⟩
  rw [hd]
  go_wp2
  go_ret
  exact ⟨rfl, rfl⟩
theorem rwrite_arg (h : RvAt w G E q n S rd wx gs vs) (hq : Qw w q s) (ho : s.off = false) (i : Nat) (hi : i < n) (B : ByteArray) (hB : B.size ≠ 64) : Calls Try.prog 32 #[.pointer (some ⟨E, 0, none⟩), .int .i64 (i : Int), .string B] w fun e w' => e = .returned (.int .i64 1) ∧ w = w' := by
  have H := Lib.hid h
  obtain ⟨c0, c1, c2, c3, fr⟩ := h.cells
  obtain ⟨l, hh, hl, d0, d1, d2, d3, fr2⟩ := hq.cells
  rw [ho] at d0
  have hd : decide (0 ≤ (i : Int) ∧ (i : Int) < (n : Int)) = true := by simp; omega
  have hB2 : ¬ ((B.size : Int) = 64) := by omega
  clear h hq hh hl hi
  go_enter Try.func32, Try.ntmps32
  go_wp2_with fail
  refine (rhas_any H.out i).mono ?_; rintro e w' ⟨rfl, rfl⟩
  rw [hd]
  go_wp2
  go_ret
  exact ⟨rfl, rfl⟩
theorem rwrite_goes (h : RvAt w G E q n S rd wx gs vs) (hq : Qw w q s) (hf : ∀ k, s.fuse = some k → k ≤ 1048576) (hdn : s.done < 1000000000000) (ho : s.off = false) (i : Nat) (hi : i < n) (B : ByteArray) (hB : B.size = 64) (hg : s.goes = true) : Calls Try.prog 32 #[.pointer (some ⟨E, 0, none⟩), .int .i64 (i : Int), .string B] w (QTurned w q s.spend (.int .i64 80)) := by
  have H := Lib.hid h
  have HQ := Lib.hid hq
  have HF := Lib.hid hf
  obtain ⟨c0, c1, c2, c3, fr⟩ := h.cells
  obtain ⟨l, hh, hl, d0, d1, d2, d3, fr2⟩ := hq.cells
  rw [ho] at d0
  have hd : decide (0 ≤ (i : Int) ∧ (i : Int) < (n : Int)) = true := by simp; omega
  clear h hq hh hl hi hf
  go_enter Try.func32, Try.ntmps32
  go_wp2_with fail
  refine (rhas_any H.out i).mono ?_; rintro e w' ⟨rfl, rfl⟩
  rw [hd]
  go_wp2_with fail
  refine (rspend_any HQ.out HF.out hdn).mono ?_; rintro e w1 ⟨rfl, q1, g1, z1⟩
  have R1 : Hid (QTurned w q s.spend (.int .i64 80) (.returned (.int .i64 80)) w1) := ⟨rfl, q1, g1, z1⟩
  clear q1 g1 z1
  rw [hg]
  go_wp2
  go_ret
  exact R1.out
/-- what a written sector leaves -/
def RSpent (w : World) (G : Nat → Prop) (E q n : Nat) (S : Nat → Sec) (rd wx gs : Nat) (s : PS) (v : Value) (e : Ending) (w' : World) : Prop := e = .returned v ∧ Qw w' q s ∧ (∃ vs', RvAt w' (Ext G w w') E q n S rd wx gs vs') ∧ Chg (fun k => G k ∨ k = q) w w'

set_option maxHeartbeats 8000000 in
theorem rwrite_io (h : RvAt w G E q n S rd wx gs vs) (hGq : ¬ G q) (hq : Qw w q s) (hf : ∀ k, s.fuse = some k → k ≤ 1048576) (hdn : s.done < 1000000000000) (ho : s.off = false) (i : Nat) (hi : i < n) (hN2 : (S i).loose.length ≤ 1000000000) (xs : List UInt8) (B : ByteArray) (hBx : tx xs = .string B) (hB : B.size = 64) (hg : s.goes = false) (hw : wx % 2 = 1) : Calls Try.prog 32 #[.pointer (some ⟨E, 0, none⟩), .int .i64 (i : Int), .string B] w (RSpent w G E q n S rd (wx / 2) gs s.spend (.int .i64 81)) := by
  have H := Lib.hid h
  have HQ := Lib.hid hq
  have HF := Lib.hid hf
  have hwx := h.hwr
  have hn := h.hn
  have hm : (wx : Int) % 2 = 1 := by omega
  obtain ⟨u, hu⟩ : ∃ u, wx / 2 = u := ⟨_, rfl⟩
  have hq2 : (wx : Int) / 2 = (u : Int) := by omega
  have hu2 : u < 18446744073709551616 := by omega
  rw [hu]
  obtain ⟨c0, c1, c2, c3, fr⟩ := h.cells
  obtain ⟨l, hh, hl, d0, d1, d2, d3, fr2⟩ := hq.cells
  rw [ho] at d0
  have hd : decide (0 ≤ (i : Int) ∧ (i : Int) < (n : Int)) = true := by simp; omega
  clear h hq hh hl hf hu hw
  go_enter Try.func32, Try.ntmps32
  go_wp2_with fail
  refine (rhas_any H.out i).mono ?_; rintro e w' ⟨rfl, rfl⟩
  rw [hd]
  go_wp2_with fail
  refine (rspend_any HQ.out HF.out hdn).mono ?_; rintro e w0 ⟨rfl, q1, g1, z1⟩
  have hEq : E ≠ q := fun e => hGq (e ▸ H.out.inG.1)
  have C0 : Hid (Chg (fun k => k = q) w w0) := Chg.of_grown g1 (fun k e _ => by injection e with e; exact e.symm)
  have H0 := Lib.hid (H.out.kept C0.out (fun k x e => hGq (e ▸ x)))
  have Q0 := Lib.hid q1
  have HS0 := Lib.hid z1
  clear q1 g1 z1 c0 c1 c2 c3 fr d0 d1 d2 d3 fr2
  obtain ⟨c0, c1, c2, c3, fr⟩ := H0.out.cells
  rw [hg]
  go_wp2
  go_ret
  exact ⟨rfl, Q0.out.heap (heap_setCell_other _ _ _ _ (fun e => hEq e.symm)), ⟨vs, (H0.out.set3 u hu2).frame (fun k x => .inl x) (fun k x => by
    rcases x with x | x
    · exact (H0.out.set3 u hu2).bound k x
    · exact x.2) (fun k _ => rfl)⟩, (C0.out.mono (fun k _ e => .inr e)).trans (G := fun k => G k ∨ k = q) (Chg.of_grown (grown_cell ..) (fun k e _ => by injection e with e; rw [← e]; exact .inl H.out.inG.1)) (fun k _ x => x)⟩

set_option maxHeartbeats 8000000 in
theorem rwrite_ok (h : RvAt w G E q n S rd wx gs vs) (hGq : ¬ G q) (hq : Qw w q s) (hf : ∀ k, s.fuse = some k → k ≤ 1048576) (hdn : s.done < 1000000000000) (ho : s.off = false) (i : Nat) (hi : i < n) (hN2 : (S i).loose.length ≤ 1000000000) (xs : List UInt8) (B : ByteArray) (hBx : tx xs = .string B) (hB : B.size = 64) (hg : s.goes = false) (hw : wx % 2 = 0) : Calls Try.prog 32 #[.pointer (some ⟨E, 0, none⟩), .int .i64 (i : Int), .string B] w (RSpent w G E q n (wrote S i xs) rd (wx / 2) gs s.spend (.int .i64 0)) := by
  have H := Lib.hid h
  have HQ := Lib.hid hq
  have HF := Lib.hid hf
  have hwx := h.hwr
  have hn := h.hn
  have hm : (wx : Int) % 2 = 0 := by omega
  obtain ⟨u, hu⟩ : ∃ u, wx / 2 = u := ⟨_, rfl⟩
  have hq2 : (wx : Int) / 2 = (u : Int) := by omega
  have hu2 : u < 18446744073709551616 := by omega
  rw [hu]
  obtain ⟨c0, c1, c2, c3, fr⟩ := h.cells
  obtain ⟨l, hh, hl, d0, d1, d2, d3, fr2⟩ := hq.cells
  rw [ho] at d0
  have hd : decide (0 ≤ (i : Int) ∧ (i : Int) < (n : Int)) = true := by simp; omega
  clear h hq hh hl hf hu hw
  go_enter Try.func32, Try.ntmps32
  go_wp2_with fail
  refine (rhas_any H.out i).mono ?_; rintro e w' ⟨rfl, rfl⟩
  rw [hd]
  go_wp2_with fail
  refine (rspend_any HQ.out HF.out hdn).mono ?_; rintro e w0 ⟨rfl, q1, g1, z1⟩
  have hEq : E ≠ q := fun e => hGq (e ▸ H.out.inG.1)
  have C0 : Hid (Chg (fun k => k = q) w w0) := Chg.of_grown g1 (fun k e _ => by injection e with e; exact e.symm)
  have H0 := Lib.hid (H.out.kept C0.out (fun k x e => hGq (e ▸ x)))
  have Q0 := Lib.hid q1
  have HS0 := Lib.hid z1
  clear q1 g1 z1 c0 c1 c2 c3 fr d0 d1 d2 d3 fr2
  obtain ⟨c0, c1, c2, c3, fr⟩ := H0.out.cells
  rw [hg]
  have H1 := Lib.hid (H0.out.set3 u hu2)
  have C1 : Hid (Chg (fun k => G k ∨ k = q) w (w0.setCell ⟨E, 3, none⟩ (.int .u64 (u : Int)))) := (C0.out.mono (fun k _ e => .inr e)).trans (G := fun k => G k ∨ k = q) (Chg.of_grown (grown_cell ..) (fun k e _ => by injection e with e; rw [← e]; exact .inl H.out.inG.1)) (fun k _ x => x)
  have Q1 := Lib.hid (Q0.out.heap (w' := w0.setCell ⟨E, 3, none⟩ (.int .u64 (u : Int))) (heap_setCell_other _ _ _ _ (fun e => hEq e.symm)))
  have HSZ : Hid ((w0.setCell ⟨E, 3, none⟩ (.int .u64 (u : Int))).heap.size = w.heap.size) := Lib.hid (by rw [size_cell]; exact HS0.out)
  go_wp2_with fail
  generalize w0.setCell ⟨E, 3, none⟩ (.int .u64 (u : Int)) = w1 at H1 C1 Q1 HSZ ⊢
  clear c0 c1 c2 c3 fr H0 Q0 C0 HS0 H HQ HF
  obtain ⟨c0, c1, c2, c3, fr⟩ := H1.out.cells
  obtain ⟨A, c, hv, hlc, hcm, hsl, hG⟩ := H1.out.loose i hi
  obtain ⟨s0, s1, s2, sf⟩ := H1.out.sec hi
  rw [hv] at s1
  have lE : E < w1.heap.size := H1.out.bound E H1.out.inG.1
  have lG : gs < w1.heap.size := H1.out.bound gs H1.out.inG.2
  obtain ⟨N, hN⟩ : ∃ N, (S i).loose.length = N := ⟨_, rfl⟩
  have S1 := Lib.hid hsl
  have XB : Hid ([xs].map tx = [.string B]) := Lib.hid (by rw [List.map_singleton, hBx])
  have HN : Hid (((S i).loose.map tx).length = N) := Lib.hid (by rw [List.length_map, hN])
  rw [hN] at s1 hN2 S1
  have hi3 : (i : Int) < (n : Int) := by omega
  have FIN : Hid (∀ (v4 : Value) (w4 : World), Below w1.heap.size w1 w4 → Rw.OwnV w4 9 w1.heap.size v4 ((S i).loose.map tx ++ [.string B]) → RSpent w G E q n (wrote S i xs) rd u gs s.spend (.int .i64 0) (.returned (.int .i64 0)) (w4.setCell ⟨gs, i * 3 + 1, none⟩ v4)) := fun v4 w4 b4 o4 => by
    rw [← XB.out, ← List.map_append] at o4
    obtain ⟨r, ch⟩ := rput1 H1.out hi b4 o4
    refine ⟨rfl, (Q1.out.heap (b4.block _ Q1.out.lt)).heap (heap_setCell_other _ _ _ _ (fun e => hGq (e ▸ H1.out.inG.2))), ⟨_, r.frame (fun k x => ?_) (fun k x => ?_) (fun k _ => rfl)⟩, C1.out.trans (ch.mono (fun k _ x => Or.inl x)) (fun k _ x => x)⟩
    · rcases x with x | x
      · exact .inl x
      · exact .inr ⟨by have := HSZ.out; omega, x.2⟩
    · rcases x with x | x
      · exact r.bound k (.inl x)
      · exact x.2
  have FRM : Hid (∀ (v4 : Value) (w4 : World), Rw.OwnV w4 9 w1.heap.size v4 ((S i).loose.map tx ++ [.string B]) → ∃ A4 c4, v4 = .slice A4 (N + 1) c4) := fun v4 w4 o4 => by
    obtain ⟨A4, c4, e, _⟩ := o4.form (n := N + 1) (by rw [List.length_append, HN.out]; rfl)
    exact ⟨A4, c4, e⟩
  have BT := Lib.hid (tx_one (S i).loose)
  generalize (S i).loose.map tx = ys at S1 HN FIN FRM BT
  clear hv hlc hcm hsl hG s0 s2 hN XB Q1 C1 HSZ hBx H1 c0 c2 c3
  refine gate (fun w' => w'.cell? ⟨E, 1, none⟩ = some (.slice (some ⟨gs, 0, none⟩) n n) ∧ w'.cell? ⟨gs, i * 3 + 1, none⟩ = some (.slice A N c)) 20 [0, 1, 2, 3, 4, 6, 7, 8, 9, 10, 11, 12, 13, 15] 7 (by kernel_rfl) (by kernel_rfl) (by kernel_rfl) rfl ?_ ⟨c1, s1⟩ ?_
  · intro d v c a w h
    cases d <;> exact h
  iterate 14
    refine yields_step ?_ rfl rfl ?_ ?_
    rotate_left
    · intro w' hS; obtain ⟨hS1, hS2⟩ := hS; go_simp; rfl
  have KS : Hid (∀ x, Below w1.heap.size w1 x → x.cell? ⟨E, 1, none⟩ = some (.slice (some ⟨gs, 0, none⟩) n n) ∧ x.cell? ⟨gs, i * 3 + 1, none⟩ = some (.slice A N c)) := fun x hx => ⟨(hx.cell (p := ⟨E, 1, none⟩) lE).trans c1, (hx.cell (p := ⟨gs, i * 3 + 1, none⟩) lG).trans s1⟩
  have FZ : Hid (∀ x, Below w1.heap.size w1 x → x.frozen? ⟨gs, i * 3 + 1, none⟩ = false) := fun x hx => (hx.frozen (p := ⟨gs, i * 3 + 1, none⟩) lG).trans (sf _)
  refine Gate.fork (i := 5) (j := 16) (by kernel_rfl) rfl rfl rfl rfl (fun K hK => ?_) (fun K hK => ?_)
  · go_simp
    have bS : Below w1.heap.size w1 ((w1.alloc (.cells #[] 9)).drew) := ((Below.refl _ w1).alloc (Nat.le_refl _) _).drew
    refine hK _ _ (fun _ => KS.out _ bS) ?_
    clear hK K
    refine Gate.fork (i := 14) (j := 16) (by kernel_rfl) rfl rfl rfl rfl (fun K hK => ?_) (fun K hK => ?_)
    · refine wp_append_row (.tmp 48) (.tmp 56) 55 rfl strt (w0 := w1) rfl ((own_empty w1 9 w1.heap.size (Nat.le_refl _)).drew) bS c rfl (S1.out.below bS) BT.out (by rw [List.length_nil]; omega) ?_
      intro v3 w3 o3 b3 _
      rw [List.nil_append] at o3
      refine hK _ _ (fun _ => KS.out _ b3) ?_
      clear hK K
      refine Gate.next (i := 16) (by kernel_rfl) rfl rfl (fun K hK => ?_)
      go_simp
      have bT : Below w1.heap.size w1 (w3.alloc (.cells #[.string B] 9)) := b3.alloc b3.size _
      refine hK _ _ (fun _ => KS.out _ bT) ?_
      clear hK K
      refine Gate.next (i := 17) (by kernel_rfl) rfl rfl (fun K hK => ?_)
      refine wp_append_row (.tmp 57) (.tmp 59) 55 rfl strt (w0 := w1) rfl (o3.alloc _) bT 1 rfl (Rw.Sl.one w3 9 (.string B)) (by intro u hu; simp at hu; subst hu; rfl) (by rw [HN.out]; omega) ?_
      intro v4 w4 o4 b4 _
      have d4 := (KS.out _ b4).2
      have f4 := FZ.out _ b4
      refine hK _ _ (fun _ => KS.out _ b4) ?_
      have R4 := Lib.hid (FIN.out v4 w4 b4 o4)
      obtain ⟨A4, c4, rfl⟩ := FRM.out v4 w4 o4
      clear hK K o4
      refine Gate.next (i := 18) (by kernel_rfl) rfl rfl (fun K hK => ?_)
      go_simp
      refine hK _ _ (fun _ => KS.out _ b4) ?_
      clear hK K
      refine Gate.next (i := 19) (by kernel_rfl) rfl rfl (fun K hK => ?_)
      go_simp
      refine hK _ _ (fun _ => KS.out _ b4) ?_
      clear hK K
      refine Gate.next (i := 20) (by kernel_rfl) rfl rfl (fun K hK => ?_)
      go_simp
      refine hK _ _ (fun h => absurd rfl h) ?_
      clear hK K
      refine Gate.done (by kernel_rfl) ?_
      go_wp2
      go_ret
      exact R4.out
    · go_simp
      have bT : Below w1.heap.size w1 (((w1.alloc (.cells #[] 9)).alloc (.cells #[.string B] 9)).drew) := (((Below.refl _ w1).alloc (Nat.le_refl _) _).alloc (by simp) _).drew
      refine hK _ _ (fun _ => KS.out _ bT) ?_
      clear hK K
      refine Gate.next (i := 14) (by kernel_rfl) rfl rfl (fun K hK => ?_)
      refine wp_append_row (.tmp 48) (.tmp 56) 55 rfl strt (w0 := w1) rfl (((own_empty w1 9 w1.heap.size (Nat.le_refl _)).alloc _).drew) bT c rfl (S1.out.below bT) BT.out (by rw [List.length_nil]; omega) ?_
      intro v3 w3 o3 b3 g3
      rw [List.nil_append] at o3
      have SN : Rw.Sl w3 (some ⟨w1.heap.size + 1, 0, none⟩) 1 [.string B] := by
        have := Rw.Sl.one (w1.alloc (.cells #[] 9)) 9 (.string B)
        rw [World.size_alloc] at this
        exact Rw.Sl.grown (R := w1.heap.size) this.drew g3 (fun off _ e => by injection e with e; injection e with e; omega)
      refine hK _ _ (fun _ => KS.out _ b3) ?_
      clear hK K
      refine Gate.next (i := 17) (by kernel_rfl) rfl rfl (fun K hK => ?_)
      refine wp_append_row (.tmp 57) (.tmp 59) 55 rfl strt (w0 := w1) rfl o3 b3 1 rfl SN (by intro u hu; simp at hu; subst hu; rfl) (by rw [HN.out]; omega) ?_
      intro v4 w4 o4 b4 _
      have d4 := (KS.out _ b4).2
      have f4 := FZ.out _ b4
      refine hK _ _ (fun _ => KS.out _ b4) ?_
      have R4 := Lib.hid (FIN.out v4 w4 b4 o4)
      obtain ⟨A4, c4, rfl⟩ := FRM.out v4 w4 o4
      clear hK K o4
      refine Gate.next (i := 18) (by kernel_rfl) rfl rfl (fun K hK => ?_)
      go_simp
      refine hK _ _ (fun _ => KS.out _ b4) ?_
      clear hK K
      refine Gate.next (i := 19) (by kernel_rfl) rfl rfl (fun K hK => ?_)
      go_simp
      refine hK _ _ (fun _ => KS.out _ b4) ?_
      clear hK K
      refine Gate.next (i := 20) (by kernel_rfl) rfl rfl (fun K hK => ?_)
      go_simp
      refine hK _ _ (fun h => absurd rfl h) ?_
      clear hK K
      refine Gate.done (by kernel_rfl) ?_
      go_wp2
      go_ret
      exact R4.out
  · go_simp
    have bS : Below w1.heap.size w1 ((w1.alloc (.cells #[.string B] 9)).drew) := ((Below.refl _ w1).alloc (Nat.le_refl _) _).drew
    refine hK _ _ (fun _ => KS.out _ bS) ?_
    clear hK K
    refine Gate.next (i := 5) (by kernel_rfl) rfl rfl (fun K hK => ?_)
    go_simp
    have bT : Below w1.heap.size w1 (((w1.alloc (.cells #[.string B] 9)).alloc (.cells #[] 9)).drew) := (((Below.refl _ w1).alloc (Nat.le_refl _) _).alloc (by simp) _).drew
    refine hK _ _ (fun _ => KS.out _ bT) ?_
    clear hK K
    refine Gate.next (i := 14) (by kernel_rfl) rfl rfl (fun K hK => ?_)
    have OE : Rw.OwnV (((w1.alloc (.cells #[.string B] 9)).alloc (.cells #[] 9)).drew) 9 w1.heap.size (.slice (some ⟨w1.heap.size + 1, 0, none⟩) 0 0) [] := by
      have := own_empty (w1.alloc (.cells #[.string B] 9)) 9 w1.heap.size (by simp)
      rw [World.size_alloc] at this
      exact this.drew
    refine wp_append_row (.tmp 48) (.tmp 56) 55 rfl strt (w0 := w1) rfl OE bT c rfl (S1.out.below bT) BT.out (by rw [List.length_nil]; omega) ?_
    intro v3 w3 o3 b3 g3
    rw [List.nil_append] at o3
    have SN : Rw.Sl w3 (some ⟨w1.heap.size, 0, none⟩) 1 [.string B] := Rw.Sl.grown (R := w1.heap.size + 1) ((Rw.Sl.one w1 9 (.string B)).alloc _).drew g3 (fun off _ e => by injection e with e; injection e with e; omega)
    refine hK _ _ (fun _ => KS.out _ b3) ?_
    clear hK K
    refine Gate.next (i := 17) (by kernel_rfl) rfl rfl (fun K hK => ?_)
    refine wp_append_row (.tmp 57) (.tmp 59) 55 rfl strt (w0 := w1) rfl o3 b3 1 rfl SN (by intro u hu; simp at hu; subst hu; rfl) (by rw [HN.out]; omega) ?_
    intro v4 w4 o4 b4 _
    have d4 := (KS.out _ b4).2
    have f4 := FZ.out _ b4
    refine hK _ _ (fun _ => KS.out _ b4) ?_
    have R4 := Lib.hid (FIN.out v4 w4 b4 o4)
    obtain ⟨A4, c4, rfl⟩ := FRM.out v4 w4 o4
    clear hK K o4
    refine Gate.next (i := 18) (by kernel_rfl) rfl rfl (fun K hK => ?_)
    go_simp
    refine hK _ _ (fun _ => KS.out _ b4) ?_
    clear hK K
    refine Gate.next (i := 19) (by kernel_rfl) rfl rfl (fun K hK => ?_)
    go_simp
    refine hK _ _ (fun _ => KS.out _ b4) ?_
    clear hK K
    refine Gate.next (i := 20) (by kernel_rfl) rfl rfl (fun K hK => ?_)
    go_simp
    refine hK _ _ (fun h => absurd rfl h) ?_
    clear hK K
    refine Gate.done (by kernel_rfl) ?_
    go_wp2
    go_ret
    exact R4.out
end
end Go.Proofs.Ytdkniholeaiemaa.W
