/-
  A crash of both pairs, with fates made to fit: what there is on the way, and the walk. No conditions.
-/
import Derived.Test.YtdkniholeaiemaaDvDoKit
namespace Go.Proofs.Ytdkniholeaiemaa.W
open Go.RowKit Oc Dm Gt Tn
set_option linter.unusedVariables false
set_option maxRecDepth 100000

/-- the document's devices behind a crash, by fates that fit -/
def fitD (ns : Nat → Nat) (d : Nat → DD) (fs : List Int) (k : Nat) : DD := ⟨crashTo (ns k) (d k).S (fitOf (looseOf (ns k) (d k).S) fs (min fs.length (looseOf (ns k) (d k).S).length)) (min fs.length (looseOf (ns k) (d k).S).length), 0, 0⟩
/-- on the way: devices below j are the new ones, on the new powers -/
structure Cr (o : Nat → Nat) (w0 w : World) (T p q p2 q2 : Nat) (D E X Y ns : Nat → Nat) (N : Nat) (s : PS) (d dn : Nat → DD) (j : Nat) : Prop where
  head : w.heap[T]? = some (.cells (tc (some p) (some (if 0 < j then X 0 else D 0)) (some (if 1 < j then X 1 else D 1)) (some q) (some (if 0 < j then Y 0 else E 0)) (some (if 1 < j then Y 1 else E 1))) 41 (0, 0))
  old : ∀ b, b < w0.heap.size → b ≠ T → w.heap[b]? = w0.heap[b]?
  os : w.os = w0.os ∧ w.tape = w0.tape ∧ w.output = w0.output ∧ w0.heap.size ≤ w.heap.size
  pw : Pw w p2 ⟨false, none, 0⟩
  qw : Qw w q2 ⟨false, none, 0⟩
  pq : w0.heap.size ≤ p2 ∧ w0.heap.size ≤ q2 ∧ p2 ≠ q2
  lt : ∀ b, o b ≠ 0 → b < w.heap.size
  new : ∀ b, b < w0.heap.size → o b = 0
  op : o p2 = 2
  oq : o q2 = 3
  dv : ∀ k, k < 2 → k < j → Dv w (fun b => o b = 4 + k) (X k) p2 (ns k) N (dn k).S 0 0
  rv : ∀ k, k < 2 → k < j → ∃ gs vs, RvAt w (fun b => o b = 6 + k) (Y k) q2 (ns k) (dn k).S 0 0 gs vs
section
variable {o : Nat → Nat} {w0 w w' : World} {T p q p2 q2 : Nat} {D E X Y ns : Nat → Nat} {N : Nat} {s : PS} {d dn : Nat → DD} {j : Nat}
theorem Cr.below (h : Cr o w0 w T p q p2 q2 D E X Y ns N s d dn j) (hT : T < w0.heap.size) (hb : Below w.heap.size w w') : Cr o w0 w' T p q p2 q2 D E X Y ns N s d dn j where
  head := (hb.block _ (lt_of_heap h.head)).trans h.head
  old := fun b h1 h2 => (hb.block b (Nat.lt_of_lt_of_le h1 h.os.2.2.2)).trans (h.old b h1 h2)
  os := ⟨hb.os.trans h.os.1, hb.tape.trans h.os.2.1, hb.output.trans h.os.2.2.1, Nat.le_trans h.os.2.2.2 hb.size⟩
  pw := h.pw.heap (hb.block _ h.pw.lt)
  qw := h.qw.heap (hb.block _ h.qw.lt)
  pq := h.pq
  lt := fun b x => Nat.lt_of_lt_of_le (h.lt b x) hb.size
  new := h.new
  op := h.op
  oq := h.oq
  dv := fun k hk hj => (h.dv k hk hj).below hb
  rv := fun k hk hj => by obtain ⟨gs, vs, x⟩ := h.rv k hk hj; exact ⟨gs, vs, x.below hb⟩
/-- the old pairs, as they lie there -/
theorem Cr.olds {oo : Nat → Nat} (h : Cr o w0 w T p q p2 q2 D E X Y ns N s d dn j) (m : Mid oo w0 T p q D E ns N s d s d) {k : Nat} (hk : k < 2) : Dv w (fun b => oo b = 4 + k) (D k) p (ns k) N (d k).S (d k).rd (d k).wr ∧ ∃ gs vs, RvAt w (fun b => oo b = 6 + k) (E k) q (ns k) (d k).S (d k).rd (d k).wr gs vs := by
  have hT := m.oT
  refine ⟨(m.dv k hk).frame (fun _ x => x) (fun b x => Nat.lt_of_lt_of_le (m.lt b (by omega)) h.os.2.2.2) (fun b x => h.old b (m.lt b (by omega)) (fun e => by rw [e, hT] at x; omega)), ?_⟩
  obtain ⟨gs, vs, y⟩ := m.rv k hk
  exact ⟨gs, vs, y.frame (fun _ x => x) (fun b x => Nat.lt_of_lt_of_le (m.lt b (by omega)) h.os.2.2.2) (fun b x => h.old b (m.lt b (by omega)) (fun e => by rw [e, hT] at x; omega))⟩
theorem Cr.cells (h : Cr o w0 w T p q p2 q2 D E X Y ns N s d dn j) (hj : j < 2) : w.cell? ⟨T, 1 + j, none⟩ = some (.pointer (some ⟨D j, 0, none⟩)) ∧ w.cell? ⟨T, 4 + j, none⟩ = some (.pointer (some ⟨E j, 0, none⟩)) ∧ ∀ i, w.frozen? ⟨T, i, none⟩ = false := by
  refine ⟨?_, ?_, fun i => frozen_of_row w T i _ _ h.head⟩
  · match j, hj, h with
    | 0, _, h => rw [cell_of_row w T _ _ _ (0, 0) h.head]; rfl
    | 1, _, h => rw [cell_of_row w T _ _ _ (0, 0) h.head]; rfl
  · match j, hj, h with
    | 0, _, h => rw [cell_of_row w T _ _ _ (0, 0) h.head]; rfl
    | 1, _, h => rw [cell_of_row w T _ _ _ (0, 0) h.head]; rfl
theorem Cr.ends (h : Cr o w0 w T p q p2 q2 D E X Y ns N s d dn 2) : w.cell? ⟨T, 0, none⟩ = some (.pointer (some ⟨p, 0, none⟩)) ∧ w.cell? ⟨T, 3, none⟩ = some (.pointer (some ⟨q, 0, none⟩)) ∧ ∀ i, w.frozen? ⟨T, i, none⟩ = false := by
  refine ⟨by rw [cell_of_row w T _ _ _ (0, 0) h.head]; rfl, by rw [cell_of_row w T _ _ _ (0, 0) h.head]; rfl, fun i => frozen_of_row w T i _ _ h.head⟩
/-- one device more -/
theorem Cr.step {wb wd : World} {X' Y' gs : Nat} {vs : Nat → Value} (h : Cr o w0 w T p q p2 q2 D E X Y ns N s d dn j) (hj : j < 2) (hT : T < w0.heap.size) (hx : Dv wb (Fresh w wb) X' p2 (ns j) N (dn j).S 0 0) (hb : Below w.heap.size w wb) (hy : RvAt wd (Fresh wb wd) Y' q2 (ns j) (dn j).S 0 0 gs vs) (hd : Below wb.heap.size wb wd) :
    ∃ o', Cr o' w0 ((wd.setCell ⟨T, 1 + j, none⟩ (.pointer (some ⟨X', 0, none⟩))).setCell ⟨T, 4 + j, none⟩ (.pointer (some ⟨Y', 0, none⟩))) T p q p2 q2 D E (upd X j X') (upd Y j Y') ns N s d dn (j + 1) := by
  have h1 := (h.below hT hb).below hT hd
  have hsz : ((wd.setCell ⟨T, 1 + j, none⟩ (.pointer (some ⟨X', 0, none⟩))).setCell ⟨T, 4 + j, none⟩ (.pointer (some ⟨Y', 0, none⟩))).heap.size = wd.heap.size := by rw [size_cell, size_cell]
  have ho : ∀ b, b ≠ T → ((wd.setCell ⟨T, 1 + j, none⟩ (.pointer (some ⟨X', 0, none⟩))).setCell ⟨T, 4 + j, none⟩ (.pointer (some ⟨Y', 0, none⟩))).heap[b]? = wd.heap[b]? := fun b hbT => by
    rw [heap_setCell_other _ _ _ _ hbT, heap_setCell_other _ _ _ _ hbT]
  have z0 := h.os.2.2.2
  have z1 := hb.size
  have z2 := hd.size
  have gl : ∀ b, give (give o w wb (4 + j)) wb wd (6 + j) b ≠ 0 → b < wd.heap.size := fun b x => by
    unfold give at x
    split at x
    · omega
    · split at x
      · omega
      · have := h.lt b x; omega
  have gold : ∀ b, b < w.heap.size → give (give o w wb (4 + j)) wb wd (6 + j) b = o b := fun b hb' => by rw [give_old (by omega), give_old hb']
  have back : ∀ b i, (i = 4 ∨ i = 5 ∨ i = 6 ∨ i = 7) → o b = i → b < w.heap.size ∧ b ≠ T := fun b i hi e => ⟨h.lt b (by omega), fun e2 => by have := h.new T hT; rw [← e2] at this; omega⟩
  refine ⟨give (give o w wb (4 + j)) wb wd (6 + j), ?_, fun b hb' hbT => (ho b hbT).trans (h1.old b hb' hbT), ⟨h1.os.1, h1.os.2.1, h1.os.2.2.1, by rw [hsz]; exact h1.os.2.2.2⟩, h1.pw.heap (ho p2 (fun e => by have := h.pq.1; omega)), h1.qw.heap (ho q2 (fun e => by have := h.pq.2.1; omega)), h.pq, fun b x => by rw [hsz]; exact gl b x, fun b hb' => by rw [gold b (by omega)]; exact h.new b hb', ?_, ?_, fun k hk hkj => ?_, fun k hk hkj => ?_⟩
  · match j, hj, h1 with
    | 0, _, h1 => rw [heap_setCell_same _ _ _ _ _ _ (heap_setCell_same _ _ _ _ _ _ h1.head)]; rfl
    | 1, _, h1 => rw [heap_setCell_same _ _ _ _ _ _ (heap_setCell_same _ _ _ _ _ _ h1.head)]; rfl
  · rw [gold p2 h.pw.lt]; exact h.op
  · rw [gold q2 h.qw.lt]; exact h.oq
  · by_cases e : k = j
    · subst e
      rw [upd_same]
      refine hx.frame (fun b x => ?_) (fun b x => by rw [hsz]; exact gl b (by have x' : give (give o w wb (4 + k)) wb wd (6 + k) b = 4 + k := x; omega)) (fun b x => ?_)
      · show give (give o w wb (4 + k)) wb wd (6 + k) b = 4 + k
        rw [give_old x.2, give_new x]
      · have x1 : w.heap.size ≤ b := x.1
        rw [ho b (fun e => by omega)]
        exact hd.block b x.2
    · rw [upd_other _ _ e]
      refine (h1.dv k hk (by omega)).frame (fun b x => ?_) (fun b x => by rw [hsz]; exact gl b (by have x' : give (give o w wb (4 + j)) wb wd (6 + j) b = 4 + k := x; omega)) (fun b x => ?_)
      · have x' : o b = 4 + k := x
        show give (give o w wb (4 + j)) wb wd (6 + j) b = 4 + k
        rw [gold b (h.lt b (by omega))]; exact x'
      · exact ho b (back b _ (by omega) x).2
  · by_cases e : k = j
    · subst e
      rw [upd_same]
      refine ⟨gs, vs, hy.frame (fun b x => ?_) (fun b x => by rw [hsz]; exact gl b (by have x' : give (give o w wb (4 + k)) wb wd (6 + k) b = 6 + k := x; omega)) (fun b x => ?_)⟩
      · show give (give o w wb (4 + k)) wb wd (6 + k) b = 6 + k
        rw [give_new x]
      · have x1 : wb.heap.size ≤ b := x.1
        rw [ho b (fun e => by omega)]
    · rw [upd_other _ _ e]
      obtain ⟨gs', vs', y⟩ := h1.rv k hk (by omega)
      refine ⟨gs', vs', y.frame (fun b x => ?_) (fun b x => by rw [hsz]; exact gl b (by have x' : give (give o w wb (4 + j)) wb wd (6 + j) b = 6 + k := x; omega)) (fun b x => ?_)⟩
      · have x' : o b = 6 + k := x
        show give (give o w wb (4 + j)) wb wd (6 + j) b = 6 + k
        rw [gold b (h.lt b (by omega))]; exact x'
      · exact ho b (back b _ (by omega) x).2
/-- the new pairs -/
theorem Cr.done {oo : Nat → Nat} (h : Cr o w0 w T p q p2 q2 D E X Y ns N s d dn 2) (m : Mid oo w0 T p q D E ns N s d s d) (hr : ∀ k, dn k = ⟨(dn k).S, 0, 0⟩) :
    After oo w0 T ns N ((w.setCell ⟨T, 0, none⟩ (.pointer (some ⟨p2, 0, none⟩))).setCell ⟨T, 3, none⟩ (.pointer (some ⟨q2, 0, none⟩))) := by
  have hT : T < w0.heap.size := lt_of_heap m.head
  have hsz : ((w.setCell ⟨T, 0, none⟩ (.pointer (some ⟨p2, 0, none⟩))).setCell ⟨T, 3, none⟩ (.pointer (some ⟨q2, 0, none⟩))).heap.size = w.heap.size := by rw [size_cell, size_cell]
  have ho : ∀ b, b ≠ T → ((w.setCell ⟨T, 0, none⟩ (.pointer (some ⟨p2, 0, none⟩))).setCell ⟨T, 3, none⟩ (.pointer (some ⟨q2, 0, none⟩))).heap[b]? = w.heap[b]? := fun b hbT => by
    rw [heap_setCell_other _ _ _ _ hbT, heap_setCell_other _ _ _ _ hbT]
  have z0 := h.os.2.2.2
  obtain ⟨on, hon⟩ : ∃ on : Nat → Nat, on = fun b => if b < w0.heap.size then oo b else o b := ⟨_, rfl⟩
  have on1 : ∀ b, b < w0.heap.size → on b = oo b := fun b hb => by rw [hon]; exact if_pos hb
  have on2 : ∀ b, w0.heap.size ≤ b → on b = o b := fun b hb => by rw [hon]; exact if_neg (by omega)
  have gl : ∀ b, on b ≠ 0 → b < w.heap.size := fun b x => by
    rcases Nat.lt_or_ge b w0.heap.size with hb | hb
    · omega
    · rw [on2 b hb] at x; exact h.lt b x
  have big : ∀ b, o b ≠ 0 → w0.heap.size ≤ b := fun b x => by
    rcases Nat.lt_or_ge b w0.heap.size with hb | hb
    · exact absurd (h.new b hb) x
    · exact hb
  refine ⟨on, p2, q2, X, Y, ⟨false, none, 0⟩, dn, ⟨?_, ?_, ?_, ?_, fun b x => by rw [hsz]; exact gl b x, h.pw.heap (ho p2 (fun e => by have := h.pq.1; omega)), h.qw.heap (ho q2 (fun e => by have := h.pq.2.1; omega)), fun k hk => ?_, fun k hk => ?_, m.hN, Nat.zero_le _, Nat.zero_le _, fun k e => by cases e⟩, ⟨on1, h.os.1, h.os.2.1, h.os.2.2.1, by rw [hsz]; exact z0, fun b hb h0 => ?_⟩⟩
  · rw [heap_setCell_same _ _ _ _ _ _ (heap_setCell_same _ _ _ _ _ _ h.head)]; rfl
  · rw [on1 T hT]; exact m.oT
  · rw [on2 p2 h.pq.1]; exact h.op
  · rw [on2 q2 h.pq.2.1]; exact h.oq
  · have hd := h.dv k hk hk
    rw [hr k]
    refine hd.frame (fun b x => ?_) (fun b x => by rw [hsz]; exact gl b (by have x' : on b = 4 + k := x; omega)) (fun b x => ho b (fun e => by have x' : o b = 4 + k := x; have := big b (by omega); omega))
    have x' : o b = 4 + k := x
    show on b = 4 + k
    rw [on2 b (big b (by omega))]; exact x'
  · obtain ⟨gs, vs, y⟩ := h.rv k hk hk
    rw [hr k]
    refine ⟨gs, vs, y.frame (fun b x => ?_) (fun b x => by rw [hsz]; exact gl b (by have x' : on b = 6 + k := x; omega)) (fun b x => ho b (fun e => by have x' : o b = 6 + k := x; have := big b (by omega); omega))⟩
    have x' : o b = 6 + k := x
    show on b = 6 + k
    rw [on2 b (big b (by omega))]; exact x'
  · have hbT : b ≠ T := fun e => by rw [e, m.oT] at h0; omega
    rw [ho b hbT]
    exact h.old b hb hbT
end
section
variable {oo : Nat → Nat} {w : World} {T p q : Nat} {D E ns : Nat → Nat} {N : Nat} {s : PS} {d : Nat → DD}
theorem cr_start {w1 w2 : World} (m : Mid oo w T p q D E ns N s d s d) (hp : Pw w1 w.heap.size ⟨false, none, 0⟩) (b1 : Below w.heap.size w w1) (z1 : w1.heap.size = w.heap.size + 1) (h2 : w2 = w1.alloc (.cells #[.bool false, .bool false, .int .i64 0, .int .i64 0] 80)) (dn : Nat → DD) :
    ∃ o, Cr o w w2 T p q w.heap.size w1.heap.size D E D E ns N s d dn 0 := by
  subst h2
  have b2 := bthen b1 (balloc w1 (.cells #[.bool false, .bool false, .int .i64 0, .int .i64 0] 80))
  have hT := lt_of_heap m.head
  refine ⟨fun b => if b = w.heap.size then 2 else if b = w1.heap.size then 3 else 0, (b2.block T hT).trans m.head, fun b hb _ => b2.block b hb, ⟨b2.os, b2.tape, b2.output, b2.size⟩, hp.heap (ha_old _ _ _ hp.lt), ⟨0, heap_alloc_new w1 _, fun k e => by cases e⟩, ⟨Nat.le_refl _, by omega, by omega⟩, fun b x => ?_, fun b hb => ?_, if_pos rfl, ?_, fun k _ hk => absurd hk (Nat.not_lt_zero _), fun k _ hk => absurd hk (Nat.not_lt_zero _)⟩
  · have hz : (w1.alloc (.cells #[.bool false, .bool false, .int .i64 0, .int .i64 0] 80)).heap.size = w1.heap.size + 1 := by simp
    rw [hz]
    by_cases e1 : b = w.heap.size
    · omega
    · by_cases e2 : b = w1.heap.size
      · omega
      · simp [e1, e2] at x
  · exact (if_neg (by omega)).trans (if_neg (by omega))
  · exact (if_neg (by omega)).trans (if_pos rfl)
set_option maxHeartbeats 8000000 in
theorem crash2_any (m : Mid oo w T p q D E ns N s d s d) (A : Option Addr) (l c : Nat) (fs : List Int) (hf : Fo oo w A l fs) (hl : l ≤ maxLen) :
    Calls Try.prog 36 #[.pointer (some ⟨T, 0, none⟩), .slice A l c] w fun e w' => e = .returned (.bool true) ∧ After oo w T ns N w' := by
  have M := Lib.hid m
  have hT := lt_of_heap m.head
  have hfl := hf.1.len
  have HF := Lib.hid hf
  have hl9 : l ≤ 9223372036854775807 := by unfold maxLen at hl; omega
  have HN := Lib.hid m.hN
  have HR : Hid (∀ k, fitD ns d fs k = ⟨(fitD ns d fs k).S, 0, 0⟩) := fun k => rfl
  have HD : Hid (∀ k, (fitD ns d fs k).S = crashTo (ns k) (d k).S (fitOf (looseOf (ns k) (d k).S) fs (min l (looseOf (ns k) (d k).S).length)) (fitOf (looseOf (ns k) (d k).S) fs (min l (looseOf (ns k) (d k).S).length)).length) := fun k => by rw [fitOf_len, ← hfl]; rfl
  generalize fitD ns d fs = dn at HR HD
  have HFL := Lib.hid hfl
  clear m hf hfl hl
  go_enter Try.func36, Try.ntmps36
  go_wp2_with fail
  refine (newpower_any w).mono ?_; rintro e w1 ⟨rfl, p1, b1, z1⟩
  have C0 := Lib.hid (cr_start M.out p1 b1 z1 rfl dn)
  clear p1 b1 z1
  go_wp2_with fail
  generalize w1.alloc (.cells #[.bool false, .bool false, .int .i64 0, .int .i64 0] 80) = w2 at C0 ⊢
  generalize w1.heap.size = q2 at C0 ⊢
  generalize hp2 : w.heap.size = p2 at C0 ⊢
  have HP2 := Lib.hid hp2
  clear hp2
  go_loopw [7] (fun q7 wr => ∃ j : Nat, j ≤ 2 ∧ q7 = .int .i64 (j : Int) ∧ Hid (∃ o X Y, Cr o w wr T p q p2 q2 D E X Y ns N s d dn j)) (fun q7 _ => 2 - (intOf q7).toNat)
  case atStart => obtain ⟨o, h⟩ := C0.out; exact ⟨0, by omega, rfl, ⟨o, D, E, h⟩⟩
  case round =>
    obtain ⟨j, hj, rfl, CJ⟩ := hrel
    clear C0
    obtain ⟨o, X, Y, cr⟩ := CJ.out
    have CR := Lib.hid cr
    clear CJ
    by_cases hlt : j < 2
    · have hj2 : (j : Int) < 2 := by omega
      obtain ⟨olds, gs0, vs0, rv0⟩ := cr.olds M.out hlt
      have RV0 := Lib.hid rv0
      obtain ⟨tD, tE, tf⟩ := cr.cells hlt
      clear cr olds rv0
      go_wp2_with fail
      refine (rloose_any RV0.out).mono ?_; rintro e w3 ⟨A3, c3, rfl, lo3, b3⟩
      have LO3 := Lib.hid lo3
      have CR3 := Lib.hid (CR.out.below hT b3)
      clear lo3 b3 tD tE tf CR RV0
      obtain ⟨tD, tE, tf⟩ := CR3.out.cells hlt
      have hL4 := loose_len (ns j) (d j).S
      have hn4 := (M.out.secs hlt).1
      have HM : Hid (∀ x ∈ looseOf (ns j) (d j).S, x.2 ≤ 1000000000) := fun x hx => by
        obtain ⟨m1, m2, m3⟩ := mem_loose.1 hx
        have := ((M.out.secs hlt).2 x.1 m1).1
        have := HN.out
        omega
      have F3 : Hid (Fi w3 A l fs) := Rw.Sl.heap HF.out.1 (fun b off hk e => CR3.out.old b (Rw.Sl.lt HF.out.1 hk e) (fun e2 => by
        have h1 := HF.out.2 b off hk e
        rw [e2, M.out.oT] at h1
        omega))
      go_wp2_with fail
      refine (fit_any w3 A3 A _ _ l _ (looseOf (ns j) (d j).S) fs LO3.out F3.out (by omega) HM.out hl9).mono ?_; rintro e w4 ⟨A4, c4, rfl, f4, b4⟩
      have F4 := Lib.hid f4
      have CR4 := Lib.hid (CR3.out.below hT b4)
      clear f4 b4 tD tE tf CR3 LO3 F3 HM
      obtain ⟨tD, tE, tf⟩ := CR4.out.cells hlt
      obtain ⟨⟨fx4, m4, r4, g4, dv4⟩, gs4, vs4, rv4⟩ := CR4.out.olds M.out hlt
      have DV4 := Lib.hid dv4
      have HK : Hid ((fitOf (looseOf (ns j) (d j).S) fs (min l (looseOf (ns j) (d j).S).length)).length ≤ (looseOf (ns j) (d j).S).length) := by rw [fitOf_len]; exact Nat.min_le_right _ _
      have HG : Hid (∀ i, i < (fitOf (looseOf (ns j) (d j).S) fs (min l (looseOf (ns j) (d j).S).length)).length → Good (looseOf (ns j) (d j).S) (fitOf (looseOf (ns j) (d j).S) fs (min l (looseOf (ns j) (d j).S).length)) i) := fun i _ => fitOf_good _ _ _ i
      have HBD : Hid (∀ i, i < ns j → ((d j).S i).loose.length ≤ 1000000000) := fun i hi => by have := ((M.out.secs hlt).2 i hi).1; have := HN.out; omega
      have HDJ := Lib.hid (HD.out j)
      generalize fitOf (looseOf (ns j) (d j).S) fs (min l (looseOf (ns j) (d j).S).length) = ft at F4 HK HG HDJ ⊢
      have hft : ft.length ≤ 4096 := by have := HK.out; omega
      clear dv4 rv4 hL4
      generalize hfl : ft.length = fl at F4 HK HG HDJ hft ⊢
      clear hfl
      go_wp2_with fail
      refine (crash_ok DV4.out CR4.out.pw F4.out HK.out HG.out).mono ?_; rintro e w5 ⟨X5, fx5, m5, r5, rfl, hX5, dv5, b5⟩
      have DV5 : Hid (Dv w5 (Fresh w4 w5) X5 p2 (ns j) N (dn j).S 0 0) := by rw [HDJ.out]; exact ⟨_, _, _, _, dv5⟩
      have B5 := Lib.hid b5
      have CR5 := Lib.hid (CR4.out.below hT b5)
      have F5 := Lib.hid (F4.out.below b5)
      clear dv5 b5 hX5 tD tE tf DV4
      obtain ⟨tD, tE, tf⟩ := CR5.out.cells hlt
      obtain ⟨_, gs5, vs5, rv5⟩ := CR5.out.olds M.out hlt
      have RV5 := Lib.hid rv5
      clear rv5
      go_wp2_with fail
      refine (rcrash_ok RV5.out HBD.out F5.out HK.out HG.out).mono ?_; rintro e w6 ⟨Y6, gs6, vs6, rfl, hY6, rv6, b6⟩
      have RV6 : Hid (RvAt w6 (Fresh w5 w6) Y6 q2 (ns j) (dn j).S 0 0 gs6 vs6) := by rw [HDJ.out]; exact rv6
      have B6 := Lib.hid b6
      have CR6 := Lib.hid (CR5.out.below hT b6)
      clear rv6 b6 hY6 tD tE tf CR5 RV5 F5 F4 HK HG HBD HDJ
      obtain ⟨tD, tE, tf⟩ := CR6.out.cells hlt
      have HS := Lib.hid (CR4.out.step hlt hT DV5.out B5.out RV6.out B6.out)
      clear CR6
      go_wp2
      go_roundw
      case rel => obtain ⟨o', h'⟩ := HS.out; exact ⟨j + 1, by omega, by go_num, ⟨o', _, _, h'⟩⟩
      case measure => simp [intOf]; omega
    · have hj2 : j = 2 := by omega
      subst hj2
      obtain ⟨t0, t3, tf⟩ := cr.ends
      clear cr
      go_wp2
      go_ret
      exact ⟨rfl, CR.out.done M.out HR.out⟩
end
end Go.Proofs.Ytdkniholeaiemaa.W
