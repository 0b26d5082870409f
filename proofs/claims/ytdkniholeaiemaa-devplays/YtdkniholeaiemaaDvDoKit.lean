/-
  What the walk of a call on both pairs leans on: the act in its box, fates that came in, crashes of one device. No conditions.
-/
import Derived.Test.YtdkniholeaiemaaDvWays
namespace Go.Proofs.Ytdkniholeaiemaa.W
open Go.RowKit Oc Dm Gt Tn
set_option linter.unusedVariables false

theorem Ex.drewN (o : Nat → Nat) (w : World) (n : Nat) : Ex o o w (w.drewN n) := ⟨fun _ _ => rfl, rfl, rfl, rfl, Nat.le_refl _, fun _ _ _ => rfl⟩
theorem Ex.drew (o : Nat → Nat) (w : World) : Ex o o w w.drew := ⟨fun _ _ => rfl, rfl, rfl, rfl, Nat.le_refl _, fun _ _ _ => rfl⟩
theorem Mid.drew {o : Nat → Nat} {w : World} {T p q : Nat} {D E ns : Nat → Nat} {N : Nat} {s s2 : PS} {d d2 : Nat → DD} (h : Mid o w T p q D E ns N s d s2 d2) : Mid o w.drew T p q D E ns N s d s2 d2 := h.below ⟨rfl, rfl, rfl, Nat.le_refl _, fun _ _ => rfl⟩
/-- an act in its box -/
structure Bx (o : Nat → Nat) (w : World) (b : Nat) (cs : Array Value) : Prop where
  cells : ∀ j v, cs[j]? = some v → w.cell? ⟨b, j, none⟩ = some v
  own : o b = 0
  lt : b < w.heap.size
theorem Bx.ex {o o' : Nat → Nat} {w w' : World} {b : Nat} {cs : Array Value} (h : Bx o w b cs) (hx : Ex o o' w w') : Bx o' w' b cs :=
  ⟨fun j v e => (hx.cell h.lt h.own j).trans (h.cells j v e), (hx.own b h.lt).trans h.own, Nat.lt_of_lt_of_le h.lt hx.size⟩
theorem L_boxAct {ops : Array Oper} {rest : List Oper} {a : Act} {w : World} {Q : Exit → Act → World → Prop} {dst : Option Tmp} {ty : TypeId} {pos : String} {af : Array Edge} {y : Operand} {cs : Array Value} (hy : a.eval y = .agg cs)
    (hK : ∀ w1, Below w.heap.size w w1 → (∀ o : Nat → Nat, (∀ b, o b ≠ 0 → b < w.heap.size) → Bx o w1 w.heap.size cs) → wpList Try.prog ops Q rest (a.put dst (.pointer (some ⟨w.heap.size, 0, none⟩))) w1) :
    wpList Try.prog ops Q (⟨dst, .box 31 y, ty, pos, af, none⟩ :: rest) a w := by
  refine wpList_plain rfl fun K hK' => ?_
  have hrun : (Instr.box 31 (.agg cs)).run Try.prog w = .ok (.pointer (some ⟨w.heap.size, 0, none⟩)) (w.alloc (.cells cs 31)) := by
    simp [Instr.box, newVar, newRow, Result.andThen, go_sem, Value.cells]
  unfold Oper.wp
  simp [execOp, hy, hrun, Result.andThen]
  refine hK' _ _ (hK _ (balloc _ _) fun o ho => ⟨fun j v e => ?_, ?_, by simp⟩)
  · rw [cell_of_row _ _ _ _ _ _ (heap_alloc_new w _)]; exact e
  · rcases Nat.eq_zero_or_pos (o w.heap.size) with e0 | e0
    · exact e0
    · have := ho w.heap.size (by omega); omega
/-- fates that nobody owns -/
def Fo (o : Nat → Nat) (w : World) (A : Option Addr) (k : Nat) (fs : List Int) : Prop := Fi w A k fs ∧ ∀ b off, 0 < k → A = some ⟨b, off, none⟩ → o b = 0
theorem Fo.ex {o o' : Nat → Nat} {w w' : World} {A : Option Addr} {k : Nat} {fs : List Int} (h : Fo o w A k fs) (hx : Ex o o' w w') : Fo o' w' A k fs :=
  ⟨Rw.Sl.heap h.1 (fun b off hk e => hx.block b (Rw.Sl.lt h.1 hk e) (h.2 b off hk e)), fun b off hk e => (hx.own b (Rw.Sl.lt h.1 hk e)).trans (h.2 b off hk e)⟩
theorem oct_ex {o o' : Nat → Nat} {w w' : World} {A : Option Addr} {l : Nat} {xs : List UInt8} (h : Oct w A l xs) (ho : ∀ b off, 0 < l → A = some ⟨b, off, none⟩ → o b = 0) (hx : Ex o o' w w') : Oct w' A l xs :=
  h.heap fun b off hl e => hx.block b (h.lt hl e) (ho b off hl e)
/-- what a whole call leaves -/
def After (o : Nat → Nat) (w : World) (T : Nat) (ns : Nat → Nat) (N : Nat) (w' : World) : Prop := ∃ o' p' q' D' E' s' d', Mid o' w' T p' q' D' E' ns N s' d' s' d' ∧ Ex o o' w w'
section
variable {o : Nat → Nat} {w w' w1 : World} {T p q : Nat} {D E ns : Nat → Nat} {N N' : Nat} {s s' s2 s2' : PS} {d d2 : Nat → DD} {d' : DD} {k : Nat} {z v bit : Int} {xs : List UInt8}
theorem DMid.after {o1 : Nat → Nat} (hx : Ex o o1 w w1) (h : DMid o1 w1 T p q D E ns N s d s d w') : After o w T ns N w' := by
  obtain ⟨o', h1, h2⟩ := h
  exact ⟨o', p, q, D, E, s, d, h1, hx.trans h2⟩
/-- what a crash answers -/
def CrWay (L : List (Nat × Nat)) (fs : List Int) (l : Nat) (v : Int) : Prop :=
  (L.length < l ∧ v = 7) ∨ (l ≤ L.length ∧ ∃ J, J < l ∧ ¬ Good L fs J ∧ v = 3) ∨ (l ≤ L.length ∧ (∀ j, j < l → Good L fs j) ∧ v = 0)
theorem CrWay.long {L : List (Nat × Nat)} {fs : List Int} {l : Nat} (h : L.length < l) : CrWay L fs l 7 := Or.inl ⟨h, rfl⟩
theorem CrWay.range {L : List (Nat × Nat)} {fs : List Int} {l : Nat} (h : l ≤ L.length) (J : Nat) (hJ : J < l) (hb : ¬ Good L fs J) : CrWay L fs l 3 := Or.inr (Or.inl ⟨h, J, hJ, hb, rfl⟩)
theorem CrWay.ok {L : List (Nat × Nat)} {fs : List Int} {l : Nat} (h : l ≤ L.length) (hg : ∀ j, j < l → Good L fs j) : CrWay L fs l 0 := Or.inr (Or.inr ⟨h, hg, rfl⟩)
theorem cr_way (L : List (Nat × Nat)) (fs : List Int) (l : Nat) : ∃ v, CrWay L fs l v := by
  by_cases h : L.length < l
  · exact ⟨_, .long h⟩
  · by_cases hg : ∀ j, j < l → Good L fs j
    · exact ⟨_, .ok (by omega) hg⟩
    · have : ∃ J, J < l ∧ ¬ Good L fs J := Classical.byContradiction fun hn => hg fun j hj => Classical.byContradiction fun hb => hn ⟨j, hj, hb⟩
      obtain ⟨J, hJ, hb⟩ := this
      exact ⟨_, .range (by omega) J hJ hb⟩
theorem mid_crash {A : Option Addr} {l c p2 : Nat} {fs : List Int} {s0 : PS} (h : Mid o w T p q D E ns N s d s2 d2) (hk : k < 2) (hp : Pw w p2 s0) (hf : Fi w A l fs) (hw : CrWay (looseOf (ns k) (d k).S) fs l v) :
    Calls Try.prog 11 #[.pointer (some ⟨D k, 0, none⟩), .pointer (some ⟨p2, 0, none⟩), .slice A l c] w fun e w' => ∃ X : Option Addr, e = .returned (.tuple #[.pointer X, .int .i64 v]) ∧ X.isSome = decide (v = 0) ∧ Below w.heap.size w w' := by
  obtain ⟨fx, m, r, g, x⟩ := h.dv k hk
  rcases hw with ⟨hl, rfl⟩ | ⟨hl, J, hJ, hb, rfl⟩ | ⟨hl, hg, rfl⟩
  · exact (crash_long x hp hf hl).mono fun e w' ⟨h1, h2⟩ => ⟨none, h1, rfl, h2⟩
  · exact (crash_range x hp hf hl J hJ hb).mono fun e w' ⟨h1, h2⟩ => ⟨none, h1, rfl, h2⟩
  · exact (crash_ok x hp hf hl hg).mono fun e w' ⟨X, fx', m', r', h1, h2, h3, h4⟩ => ⟨some ⟨X, 0, none⟩, h1, rfl, h4⟩
theorem mid_rcrash {A : Option Addr} {l c q2 : Nat} {fs : List Int} (h : Mid o w T p q D E ns N s d s2 d2) (hk : k < 2) (hbd : ∀ i, i < ns k → ((d2 k).S i).loose.length ≤ 1000000000) (hf : Fi w A l fs) (hw : CrWay (looseOf (ns k) (d2 k).S) fs l v) :
    Calls Try.prog 37 #[.pointer (some ⟨E k, 0, none⟩), .pointer (some ⟨q2, 0, none⟩), .slice A l c] w fun e w' => ∃ X : Value, e = .returned (.tuple #[X, .int .i64 v]) ∧ Below w.heap.size w w' := by
  obtain ⟨gs, vs, x⟩ := h.rv k hk
  rcases hw with ⟨hl, rfl⟩ | ⟨hl, J, hJ, hb, rfl⟩ | ⟨hl, hg, rfl⟩
  · exact (rcrash_long x hf hl).mono fun e w' ⟨h1, h2⟩ => ⟨_, h1, h2⟩
  · exact (rcrash_range x hf hl J hJ hb).mono fun e w' ⟨h1, h2⟩ => ⟨_, h1, h2⟩
  · exact (rcrash_ok x hbd hf hl hg).mono fun e w' ⟨X, gs', vs', h1, h2, h3, h4⟩ => ⟨_, h1, h4⟩
end
end Go.Proofs.Ytdkniholeaiemaa.W
