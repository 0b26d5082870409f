/-
  Rows of things in memory (three numbers each): rows of the call's own that grow; what is read of them. No conditions.
-/
import Derived.Test.YtpaakakkcbahcaaPnPlan4
import Derived.OwnWalk
import Derived.Laws.OwnMore
import Derived.Laws.Rows
import Derived.Maps.AppendAt
import Derived.Deep.Draws
namespace Go.Proofs.Ytpaakakkcbahcaa.W
open Go.RowKit Num
set_option linter.unusedVariables false

/-- a thing: its kind, its numbers -/
structure Th where
  k : Int
  a : Int
  b : Int
theorem Th.ext' {x y : Th} (h1 : x.k = y.k) (h2 : x.a = y.a) (h3 : x.b = y.b) : x = y := by cases x; cases y; simp_all
def tc (t : Th) : List Value := [.int .i64 t.k, .int .i64 t.a, .int .i64 t.b]
def tcs (l : List Th) : List Value := l.flatMap tc
theorem tcs_len (l : List Th) : (tcs l).length = l.length * 3 := by
  induction l with
  | nil => rfl
  | cons t l ih => unfold tcs at *; rw [List.flatMap_cons, List.length_append, ih, List.length_cons]; show 3 + _ = _; omega
theorem tcs_append (l m : List Th) : tcs (l ++ m) = tcs l ++ tcs m := by unfold tcs; rw [List.flatMap_append]
theorem tcs_one {l : List Th} {u : Value} (h : u ∈ tcs l) : u.oneCell' = true := by
  unfold tcs at h
  obtain ⟨t, _, hu⟩ := List.mem_flatMap.1 h
  unfold tc at hu
  simp at hu
  rcases hu with rfl | rfl | rfl <;> rfl
theorem tcs_at (l : List Th) {i : Nat} {t : Th} (h : l[i]? = some t) : (tcs l)[i * 3]? = some (.int .i64 t.k) ∧ (tcs l)[i * 3 + 1]? = some (.int .i64 t.a) ∧ (tcs l)[i * 3 + 2]? = some (.int .i64 t.b) := by
  induction l generalizing i with
  | nil => simp at h
  | cons x l ih =>
    have e : tcs (x :: l) = tc x ++ tcs l := by unfold tcs; rw [List.flatMap_cons]
    cases i with
    | zero =>
      simp at h
      subst h
      rw [e]
      exact ⟨rfl, rfl, rfl⟩
    | succ i =>
      rw [List.getElem?_cons_succ] at h
      obtain ⟨h1, h2, h3⟩ := ih h
      rw [e, show (i + 1) * 3 = i * 3 + 3 by omega]
      refine ⟨?_, ?_, ?_⟩
      · rw [List.getElem?_append_right (by simp [tc])]; simpa [tc] using h1
      · rw [List.getElem?_append_right (by simp [tc])]
        rw [show i * 3 + 3 + 1 - (tc x).length = i * 3 + 1 by simp [tc]]; exact h2
      · rw [List.getElem?_append_right (by simp [tc])]
        rw [show i * 3 + 3 + 2 - (tc x).length = i * 3 + 2 by simp [tc]]; exact h3

theorem thing_info : (Try.prog.info? 54).map (fun i => (i.zero, i.size, i.bytes)) = some (some (.agg #[.int .i64 0, .int .i64 0, .int .i64 0]), 3, 24) := by kernel_rfl

/-- a row of the call's own (from block B on) that holds these things -/
def OwnT (w : World) (B : Nat) (v : Value) (l : List Th) : Prop := w.ownsRow B 54 3 v l.length (tcs l)
theorem OwnT.nil (w : World) (B : Nat) : OwnT w B (.slice none 0 0) [] := World.ownsRow_nil w B _ 3
theorem OwnT.alloc {w : World} {B : Nat} {v : Value} {l : List Th} (h : OwnT w B v l) (o : Obj) : OwnT (w.alloc o) B v l := World.ownsRow.alloc h o
theorem OwnT.form {w : World} {B n : Nat} {v : Value} {l : List Th} (h : OwnT w B v l) (hn : l.length = n) : ∃ A c, v = .slice A n c := by
  subst hn
  rcases h.2 with ⟨h1, h2⟩ | ⟨g, cap, cur, h1, _⟩
  · exact ⟨none, 0, by rw [h1, h2]⟩
  · exact ⟨_, cap, h1⟩
/-- a block is a row of n things, f tells which -/
def TRow (w : World) (g n : Nat) (f : Nat → Th) : Prop := ∃ cur, w.heap[g]? = some (.cells cur 54 (0, 0)) ∧ ∀ i, i < n → cur[i * 3]? = some (.int .i64 (f i).k) ∧ cur[i * 3 + 1]? = some (.int .i64 (f i).a) ∧ cur[i * 3 + 2]? = some (.int .i64 (f i).b)
theorem TRow.lt {w : World} {g n : Nat} {f : Nat → Th} (h : TRow w g n f) : g < w.heap.size := by
  obtain ⟨cur, h1, _⟩ := h
  exact (Array.getElem?_eq_some_iff.1 h1).1
theorem TRow.heap {w w' : World} {g n : Nat} {f : Nat → Th} (h : TRow w g n f) (e : w'.heap[g]? = w.heap[g]?) : TRow w' g n f := by
  obtain ⟨cur, h1, h2⟩ := h
  exact ⟨cur, e.trans h1, h2⟩
theorem TRow.step {w w' : World} {g n : Nat} {f : Nat → Th} (h : TRow w g n f) (b : Below w.heap.size w w') : TRow w' g n f := h.heap (b.block _ h.lt)
theorem TRow.cells {w : World} {g n i : Nat} {f : Nat → Th} (h : TRow w g n f) (hi : i < n) : w.cell? ⟨g, i * 3, none⟩ = some (.int .i64 (f i).k) ∧ w.cell? ⟨g, i * 3 + 1, none⟩ = some (.int .i64 (f i).a) ∧ w.cell? ⟨g, i * 3 + 2, none⟩ = some (.int .i64 (f i).b) := by
  obtain ⟨cur, h1, h2⟩ := h
  refine ⟨?_, ?_, ?_⟩ <;> rw [cell_of_row _ _ _ _ _ _ h1]
  · exact (h2 i hi).1
  · exact (h2 i hi).2.1
  · exact (h2 i hi).2.2
/-- the first n of f -/
def fst (f : Nat → Th) (n : Nat) : List Th := (List.range n).map f
theorem fst_len (f : Nat → Th) (n : Nat) : (fst f n).length = n := by simp [fst]
theorem fst_succ (f : Nat → Th) (n : Nat) : fst f (n + 1) = fst f n ++ [f n] := by unfold fst; rw [List.range_succ, List.map_append]; rfl
theorem fst_succ2 (f : Nat → Th) (n : Nat) : fst f (n + 2) = fst f n ++ [f n, f (n + 1)] := by rw [fst_succ, fst_succ, List.append_assoc]; rfl
theorem OwnT.row {w : World} {B n : Nat} {v : Value} {f : Nat → Th} (h : OwnT w B v (fst f n)) (hn : 0 < n) : ∃ g cap, v = .slice (some ⟨g, 0, none⟩) n cap ∧ TRow w g n f := by
  have hl := fst_len f n
  rcases h.2 with ⟨h1, h2⟩ | ⟨g, cap, cur, h1, hb, hh, hc, _, hs, ht⟩
  · omega
  · rw [hl] at h1 ht hc
    refine ⟨g, cap, h1, cur, hh, fun i hi => ?_⟩
    have hg : (fst f n)[i]? = some (f i) := by simp [fst, hi]
    obtain ⟨q1, q2, q3⟩ := tcs_at _ hg
    rw [← ht] at q1 q2 q3
    rw [List.getElem?_take_of_lt (by omega)] at q1 q2 q3
    exact ⟨by simpa using q1, by simpa using q2, by simpa using q3⟩

/-- append of things that lie in a new block -/
theorem wpList_append_T {wr : World} {ops : Array Oper} {rest : List Oper} {o : Oper} {a : Act} {Q : Exit → Act → World → Prop} (hgd : o.guard = none) (s x : Operand)
    (ho : o.op = .call { callee := .builtin .append, args := #[s, x], argTypes := #[44, 44] }) {w0 : World} {v : Value} {l : List Th} (hs : a.eval s = v) (hown : OwnT wr w0.heap.size v l) (hb : Below w0.heap.size w0 wr)
    {m : Nat} (c : Nat) {us : List Th} {cs : Array Value} {T : TypeId} (hx : a.eval x = .slice (some ⟨wr.heap.size, 0, none⟩) m c) (hm : us.length = m) (hcs : cs.toList = tcs us) (hl : l.length + m ≤ 1000000)
    (h : ∀ v' w', OwnT w' w0.heap.size v' (l ++ us) → Below w0.heap.size w0 w' → wpList Try.prog ops Q rest (a.put o.dst v') w') : wpList Try.prog ops Q (o :: rest) a (wr.alloc (.cells cs T)) := by
  obtain ⟨i, hi, hz0, hz1, hz2⟩ := info_parts thing_info
  have hb1 : Below w0.heap.size w0 (wr.alloc (.cells cs T)) := hb.alloc hb.size _
  refine wpList_append_own_at (wr.alloc (.cells cs T)) hgd s x 44 ho w0.heap.size 54 i _ 3 24 Try.underlying44 hi hz0 hz1 hz2 rfl (by decide) v l.length (tcs l) hs (OwnT.alloc hown _)
    ⟨wr.heap.size, 0, none⟩ m c (tcs us) hx (by rw [tcs_len, hm]) ?_ (fun u hu => tcs_one hu) (by unfold maxLen; omega) (by omega) hb1.size ?_
  · intro j u hu
    rw [Go.WideShapes.add_plain, Nat.zero_add, cell_of_row _ _ _ _ _ _ (heap_alloc_new wr (.cells cs T))]
    rw [← hcs] at hu
    simpa using hu
  · intro v' w' h1 h2 _ _
    refine h v' w' ?_ (hb1.grown h2 hb1.size fun g hg => ?_)
    · unfold OwnT
      rw [List.length_append, tcs_append, hm]
      exact h1
    · rcases hown.2 with ⟨rfl, _⟩ | ⟨g', cap, cur, rfl, hbg, _⟩
      · cases hg
      · simp [Value.ownBlock] at hg; omega

/-- what stands in the sectors of the backing device -/
def backF (nb : Nat) (i : Nat) : Th := if i < nb then ⟨1, i, 0⟩ else ⟨2, ((i - nb) / 2 : Nat), ((i - nb) % 2 : Nat)⟩
theorem backF_lo {nb i : Nat} (h : i < nb) : backF nb i = ⟨1, i, 0⟩ := if_pos h
theorem backF_hi {nb j r : Nat} (h : r < 2) : backF nb (nb + 2 * j + r) = ⟨2, j, r⟩ := by
  unfold backF
  rw [if_neg (by omega), show (nb + 2 * j + r - nb) / 2 = j by omega, show (nb + 2 * j + r - nb) % 2 = r by omega]

set_option maxHeartbeats 4000000 in
theorem rback_any (p : Pl) (nb np : Nat) (h0 : p.a0 = nb) (h2 : p.a2 = np) (hb : 1 ≤ nb) (hb2 : nb ≤ 1000) (hp2 : np ≤ 1000) (w : World) :
    Calls Try.prog 14 #[(.agg #[.int .i64 p.a0, .int .i64 p.a1, .int .i64 p.a2, .int .i64 p.a3, .int .i64 p.a4, .int .i64 p.a5, .int .i64 p.a6, .int .i64 p.a7, .int .i64 p.a8, .int .i64 p.a9, .int .i64 p.a10, .int .i64 p.a11, .int .i64 p.a12])] w fun e w' => ∃ g cap, e = .returned (.slice (some ⟨g, 0, none⟩) (nb + 2 * np) cap) ∧ TRow w' g (nb + 2 * np) (backF nb) ∧ Below w.heap.size w w' := by
  have H0 := Lib.hid h0
  have H2 := Lib.hid h2
  clear h0 h2
  go_enter Try.func14, Try.ntmps14
  go_wp2
  have Z := Lib.hid (balloc w (.cells #[.int .i64 p.a0, .int .i64 p.a1, .int .i64 p.a2, .int .i64 p.a3, .int .i64 p.a4, .int .i64 p.a5, .int .i64 p.a6, .int .i64 p.a7, .int .i64 p.a8, .int .i64 p.a9, .int .i64 p.a10, .int .i64 p.a11, .int .i64 p.a12] 28))
  have Y0 : Hid (∀ wr, Below (w.alloc (.cells #[.int .i64 p.a0, .int .i64 p.a1, .int .i64 p.a2, .int .i64 p.a3, .int .i64 p.a4, .int .i64 p.a5, .int .i64 p.a6, .int .i64 p.a7, .int .i64 p.a8, .int .i64 p.a9, .int .i64 p.a10, .int .i64 p.a11, .int .i64 p.a12] 28)).heap.size (w.alloc (.cells #[.int .i64 p.a0, .int .i64 p.a1, .int .i64 p.a2, .int .i64 p.a3, .int .i64 p.a4, .int .i64 p.a5, .int .i64 p.a6, .int .i64 p.a7, .int .i64 p.a8, .int .i64 p.a9, .int .i64 p.a10, .int .i64 p.a11, .int .i64 p.a12] 28)) wr → wr.cell? ⟨w.heap.size, 0, none⟩ = some (.int .i64 (nb : Int)) ∧ wr.cell? ⟨w.heap.size, 2, none⟩ = some (.int .i64 (np : Int))) := fun wr b => ⟨by rw [← H0.out]; exact box_cell b rfl, by rw [← H2.out]; exact box_cell b rfl⟩
  generalize w.alloc (.cells #[.int .i64 p.a0, .int .i64 p.a1, .int .i64 p.a2, .int .i64 p.a3, .int .i64 p.a4, .int .i64 p.a5, .int .i64 p.a6, .int .i64 p.a7, .int .i64 p.a8, .int .i64 p.a9, .int .i64 p.a10, .int .i64 p.a11, .int .i64 p.a12] 28) = w0 at Z Y0 ⊢
  go_loopw [3, 4] (fun v q wr => ∃ j : Nat, j ≤ nb ∧ q = .int .i64 (j : Int) ∧ Hid (OwnT wr w0.heap.size v (fst (backF nb) j)) ∧ Hid (Below w0.heap.size w0 wr)) (fun _ q _ => nb - (intOf q).toNat)
  case atStart => exact ⟨0, by omega, rfl, OwnT.nil _ _, Below.refl _ _⟩
  case round =>
    obtain ⟨j, hj, rfl, OJ, BJ⟩ := hrel
    obtain ⟨y0, y2⟩ := Y0.out _ BJ.out
    by_cases hlt : j < nb
    · go_wp2_with (at_builtin; refine wpList_append_T rfl _ _ rfl rfl OJ.out BJ.out _ (m := 1) (us := [⟨1, j, 0⟩]) rfl rfl rfl (by rw [fst_len]; omega) ?_; intro v2 w2 o2 b2; have O2 := Lib.hid o2; have B2 := Lib.hid b2; clear o2 b2)
      go_roundw
      case rel => exact ⟨j + 1, by omega, rfl, by show OwnT _ _ _ _; rw [fst_succ, backF_lo hlt]; exact O2.out, B2⟩
      case measure => simp [intOf]; omega
    · have : j = nb := by omega
      subst this
      go_wp2
      clear y0 y2
      go_loopw [3, 5] (fun v q wr => ∃ i : Nat, i ≤ np ∧ q = .int .i64 (i : Int) ∧ Hid (OwnT wr w0.heap.size v (fst (backF j) (j + 2 * i))) ∧ Hid (Below w0.heap.size w0 wr)) (fun _ q _ => np - (intOf q).toNat)
      case atStart => exact ⟨0, by omega, rfl, OJ, BJ⟩
      case round =>
        obtain ⟨i, hi, rfl, OI, BI⟩ := hrel
        obtain ⟨y0, y2⟩ := Y0.out _ BI.out
        by_cases hlt : i < np
        · go_wp2_with (at_builtin; refine wpList_append_T rfl _ _ rfl rfl OI.out BI.out _ (m := 2) (us := [⟨2, i, 0⟩, ⟨2, i, 1⟩]) rfl rfl rfl (by rw [fst_len]; omega) ?_; intro v2 w2 o2 b2; have O2 := Lib.hid o2; have B2 := Lib.hid b2; clear o2 b2)
          go_roundw
          case rel => exact ⟨i + 1, by omega, rfl, by show OwnT _ _ _ _; rw [show j + 2 * (i + 1) = j + 2 * i + 2 by omega, fst_succ2, show backF j (j + 2 * i) = ⟨2, i, 0⟩ from backF_hi (r := 0) (by decide), show backF j (j + 2 * i + 1) = ⟨2, i, 1⟩ from backF_hi (r := 1) (by decide)]; exact O2.out, B2⟩
          case measure => simp [intOf]; omega
        · have : i = np := by omega
          subst this
          obtain ⟨g, cap, rfl, tr⟩ := OI.out.row (by omega)
          have TR := Lib.hid tr
          clear tr
          go_wp2
          go_ret
          exact ⟨g, cap, rfl, TR.out, bthen Z.out BI.out⟩
end Go.Proofs.Ytpaakakkcbahcaa.W
