/-
  Elder texts, one behind the other: DvRwrite, DvRcrash, DvKeeps. No conditions.
-/
import Derived.Test.YtikbbikcacoobaaDoorKDr
import Derived.Test.YtikbbikcacoobaaDoorKRow
/-! The document's devices: Write. No conditions. -/
namespace Go.Proofs.YtikbbikcacoobaaDoor.Dw
set_option maxRecDepth 100000
open Go.RowKit Oc Dm Gt
set_option linter.unusedVariables false
set_option maxRecDepth 100000
theorem strt : Rw.ElTy Tryd.prog 114 9 (.string ⟨#[]⟩) 16 := ⟨Tryd.underlying114, by kernel_rfl, rfl, by decide⟩
theorem tx_one (xs : List (List UInt8)) : ∀ u ∈ xs.map tx, u.oneCell' = true := by
  intro u hu
  obtain ⟨x, _, rfl⟩ := List.mem_map.1 hu
  rfl
theorem wp_append_row {P : Program} {w : World} {o : Oper} {a : Act} {K : Act → World → Prop} {Q : Exit → Act → World → Prop} (s x : Operand) (t : TypeId)
    (ho : o.op = .call { callee := .builtin .append, args := #[s, x], argTypes := #[t, t] }) {e : TypeId} {z : Value} {bytes : Nat} (hT : Rw.ElTy P t e z bytes) {w0 : World} {v : Value} {xs : List Value} (hs : a.eval s = v) (hown : Rw.OwnV w e w0.heap.size v xs) (hb : Below w0.heap.size w0 w)
    {A : Option Addr} {m : Nat} (c : Nat) {ys : List Value} (hx : a.eval x = .slice A m c) (hr : Rw.Sl w A m ys) (h1 : ∀ u ∈ ys, u.oneCell' = true) (hl : xs.length + m ≤ 1000000000000)
    (h : ∀ v' w', Rw.OwnV w' e w0.heap.size v' (xs ++ ys) → Below w0.heap.size w0 w' → w.grownBy w' v.ownBlock → K (a.put o.dst v') w') : Oper.wp P o a w K Q := by
  obtain ⟨v', w', hrun, h2, h3, _⟩ := Rw.run_append_row (P := P) (ty := o.type) c hT hown hr h1 hl hb.size
  unfold Oper.wp execOp
  simp only [ho, resolve, invoke, builtin, Sem.run_bind, Sem.run_pure, Result.andThen_ok, List.map_toArray, List.map_cons, List.map_nil, hs, hx, hrun]
  exact h v' w' h2 (hb.grown h3 hb.size fun g hg => (hown.ge g hg).1) h3
theorem own_empty (w : World) (e : TypeId) (B : Nat) (hB : B ≤ w.heap.size) : Rw.OwnV (w.alloc (.cells #[] e)) e B (.slice (some ⟨w.heap.size, 0, none⟩) 0 0) [] := World.ownsRow_lit (base := B) (e := e) (size := 1) w #[] 0 hB (by decide) rfl
theorem oc_put1 {w : World} {gs n i : Nat} {S : Nat → Sec} {vs : Nat → Value} (h : w.rowIs gs 116 (n * 3) (oc S vs)) (x : Sec) (v : Value) (hf : x.fixed = (S i).fixed) (hr : x.rotten = (S i).rotten) :
    (w.setCell ⟨gs, i * 3 + 1, none⟩ v).rowIs gs 116 (n * 3) (oc (upd S i x) (upd vs i v)) := by
  refine (h.set (i * 3 + 1) v).congr (fun j hj => ?_)
  have hm : j % 3 = 0 ∨ j % 3 = 1 ∨ j % 3 = 2 := by omega
  by_cases e : j / 3 = i
  · rcases hm with m | m | m
    · have : j = i * 3 := by omega
      subst this
      rw [oc0 (upd S i x), upd_same, if_neg (by omega), oc0, hf]
    · have : j = i * 3 + 1 := by omega
      subst this
      rw [oc1 (upd S i x), upd_same, if_pos rfl]
    · have : j = i * 3 + 2 := by omega
      subst this
      rw [oc2 (upd S i x), upd_same, if_neg (by omega), oc2, hr]
  · rw [if_neg (by omega)]
    unfold oc
    rw [upd_other _ _ e, upd_other _ _ e]
section
variable {w w' w4 : World} {G G' : Nat → Prop} {E q n : Nat} {S : Nat → Sec} {rd wx gs : Nat} {vs : Nat → Value} {s : PS}
theorem rput1 (h : RvAt w G E q n S rd wx gs vs) {i : Nat} (hi : i < n) {xs : List UInt8} {v : Value} (b : Below w.heap.size w w4) (o : Rw.OwnV w4 9 w.heap.size v (((S i).loose ++ [xs]).map tx)) :
    RvAt (w4.setCell ⟨gs, i * 3 + 1, none⟩ v) (Ext G w (w4.setCell ⟨gs, i * 3 + 1, none⟩ v)) E q n (wrote S i xs) rd wx gs (upd vs i v) ∧ Chg G w (w4.setCell ⟨gs, i * 3 + 1, none⟩ v) := by
  have hgl := h.bound gs h.inG.2
  have h4 := h.below b
  have hL : ((((S i).loose ++ [xs]).map tx)).length = ((S i).loose ++ [xs]).length := by simp
  obtain ⟨A, c, rfl, hlc, hcm, hsl⟩ := o.form hL
  have hge := o.ge
  refine ⟨?_, ?_⟩
  · refine (h4.frame (G' := Ext G w (w4.setCell ⟨gs, i * 3 + 1, none⟩ (.slice A ((S i).loose ++ [xs]).length c))) (w' := w4) (fun k x => .inl x) (fun k x => ?_) (fun k _ => rfl)).put hi _ _ (fun k x => x) (fun k x => ?_) (oc_put1 h4.row ⟨(S i).fixed, (S i).loose ++ [xs], (S i).rotten⟩ _ rfl rfl) (fun k _ hk => heap_setCell_other _ _ _ _ hk) ⟨A, c, rfl, hlc, hcm, ?_, ?_⟩
    · rcases x with x | x
      · exact h4.bound k x
      · rw [size_cell] at x; exact x.2
    · rw [size_cell]
      rcases x with x | x
      · exact h4.bound k x
      · rw [size_cell] at x; exact x.2
    · refine hsl.heap (fun b' off' hn e => heap_setCell_other _ _ _ _ ?_)
      intro e2
      subst e
      have := (hge b' rfl).1
      have e3 : b' = gs := e2
      omega
    · intro b' off' hn e
      subst e
      have := hge b' rfl
      exact ⟨.inr ⟨this.1, by rw [size_cell]; exact this.2⟩, by omega⟩
  · exact (Chg.of_below b).trans (G := G) (Chg.of_grown (grown_cell ..) (fun k e _ => by injection e with e; rw [← e]; exact h.inG.2)) (fun k _ x => x)
/-- what a written sector leaves -/
def RSpent (w : World) (G : Nat → Prop) (E q n : Nat) (S : Nat → Sec) (rd wx gs : Nat) (s : PS) (v : Value) (e : Ending) (w' : World) : Prop := e = .returned v ∧ Qw w' q s ∧ (∃ vs', RvAt w' (Ext G w w') E q n S rd wx gs vs') ∧ Chg (fun k => G k ∨ k = q) w w'

end
end Go.Proofs.YtikbbikcacoobaaDoor.Dw

/-! The document's devices: Crash. No conditions. -/
namespace Go.Proofs.YtikbbikcacoobaaDoor.Dw
set_option maxRecDepth 100000
open Go.RowKit Oc Dm Gt
set_option linter.unusedVariables false
set_option maxRecDepth 100000
/-- what a crash of the document's leaves -/
def RCrashed (w : World) (q2 n : Nat) (S : Nat → Sec) (e : Ending) (w' : World) : Prop := ∃ X gs vs, e = .returned (.tuple #[.pointer (some ⟨X, 0, none⟩), .int .i64 0]) ∧ w.heap.size ≤ X ∧ RvAt w' (Fresh w w') X q2 n S 0 0 gs vs ∧ Below w.heap.size w w'
theorem wrap_le {x : Nat} (h : x ≤ 1000000000) : IntKind.i64.wrap (x : Int) = (x : Int) := by
  unfold IntKind.wrap
  simp [IntKind.signed, IntKind.bits]
  omega
def kmid (S : Nat → Sec) (j i : Nat) : Sec := if i < j then keptS S i else sec0
theorem kmid_step (S : Nat → Sec) (j : Nat) : upd (kmid S j) j ⟨(S j).fixed, [], (S j).rotten⟩ = kmid S (j + 1) := by
  funext i
  unfold upd
  show (if i = j then _ else kmid S j i) = _
  unfold kmid
  by_cases e : i = j
  · subst e
    rw [if_pos rfl, if_pos (by omega)]; rfl
  · rw [if_neg e]
    by_cases h1 : i < j
    · rw [if_pos h1, if_pos (by omega)]
    · rw [if_neg h1, if_neg (by omega)]
section
variable {w w' : World} {G G' : Nat → Prop} {E q q2 n k c : Nat} {S : Nat → Sec} {rd wx gs : Nat} {vs : Nat → Value} {s : PS} {A : Option Addr} {fs : List Int}
end
end Go.Proofs.YtikbbikcacoobaaDoor.Dw

/-! What a crash makes of a sector: it is as it was fixed, or as one of its loose writes says; behind a flush a crash changes nothing: plain facts. No conditions. -/
namespace Go.Proofs.YtikbbikcacoobaaDoor.Dw
set_option maxRecDepth 100000
open Go.RowKit Oc Dm
set_option linter.unusedVariables false
/-- as it was fixed, or as one of its loose writes says -/
theorem crashTo_one {n : Nat} {S : Nat → Sec} {fs : List Int} (hg : ∀ j, Good (looseOf n S) fs j) : ∀ k i, (crashTo n S fs k i).fixed = (S i).fixed ∨ ∃ j, j < (S i).loose.length ∧ (crashTo n S fs k i).fixed = (S i).loose.getD j []
  | 0, i => .inl rfl
  | k + 1, i => by
    rw [crashTo]
    cases hf : fs[k]? with
    | none => exact crashTo_one hg k i
    | some f =>
      cases hx : (looseOf n S)[k]? with
      | none => exact crashTo_one hg k i
      | some x =>
        dsimp only
        by_cases h : 0 < f
        · rw [if_pos h]
          by_cases e : i = x.1
          · subst e
            rw [upd_same]
            obtain ⟨_, _, m3⟩ := mem_loose.1 (List.mem_of_getElem? hx)
            obtain ⟨_, h2⟩ := hg k f x hf hx
            exact .inr ⟨(f - 1).toNat, by omega, rfl⟩
          · rw [upd_other _ _ e]
            exact crashTo_one hg k i
        · rw [if_neg h]
          exact crashTo_one hg k i
theorem flushS_loose (S : Nat → Sec) (i : Nat) : (flushS S i).loose = [] := by
  unfold flushS
  split
  · assumption
  · rfl
theorem flushS_stands (S : Nat → Sec) (i : Nat) : (flushS S i).stands = (flushS S i).fixed := Sec.stands_fixed (flushS_loose S i)
theorem looseOf_flush (n : Nat) (S : Nat → Sec) : looseOf n (flushS S) = [] := by
  unfold looseOf
  rw [List.filterMap_eq_nil_iff]
  intro i _
  rw [if_pos (flushS_loose S i)]
theorem crash_flush (n : Nat) (S : Nat → Sec) (i : Nat) : (crashTo n (flushS S) [] 0 i).stands = (flushS S i).stands := by
  rw [flushS_stands]
  exact Sec.stands_fixed rfl
end Go.Proofs.YtikbbikcacoobaaDoor.Dw
