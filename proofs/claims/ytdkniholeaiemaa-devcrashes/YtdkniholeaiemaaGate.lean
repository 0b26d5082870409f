/-
  A region that draws its order and ends in a store that all the rest waits for: what reads is taken first, under a condition that need not outlast that store. For any program. No conditions.
-/
import Derived.OrdersHeld
import Derived.WalkKit
namespace Go.Proofs.Ytdkniholeaiemaa.Gt
open Go.RowKit
set_option linter.unusedVariables false
section
variable {P : Program} {ops : Array Oper} {Q : Exit → Act → World → Prop} {md : Region.Mode} {S : World → Prop} {t : Nat}

/-- whichever comes up next; S is shown behind all but number t -/
def Gate (P : Program) (md : Region.Mode) (ops : Array Oper) (Q : Exit → Act → World → Prop) (S : World → Prop) (t : Nat) : Nat → Array Bool → Act → World → Prop
  | 0, listed, a, w => Region.ready md ops listed = [] ∧ Q .normal a w
  | fuel + 1, listed, a, w =>
    (Region.ready md ops listed = [] → Q .normal a w) ∧
    ∀ i ∈ Region.ready md ops listed, wpOp P ops Q i (fun a' w' => (i ≠ t → S w') ∧ Gate P md ops Q S t fuel (listed.setIfInBounds i true) a' w') a w

theorem Gate.any : ∀ (fuel : Nat) (listed : Array Bool) (a : Act) (w : World), Gate P md ops Q S t fuel listed a w → wpAny P md ops Q fuel listed a w
  | 0, _, _, _, h => h
  | fuel + 1, _, _, _, h => ⟨h.1, fun i hi => wpOp_mono (fun a' w' h' => Gate.any fuel _ a' w' h'.2) (h.2 i hi)⟩

theorem unlisted {listed : Array Bool} {i : Nat} (h0 : listed.getD i true = false) (h1 : listed.getD i false = true) : False := by
  rcases Nat.lt_or_ge i listed.size with h' | h'
  · simp [h'] at h0 h1; rw [h0] at h1; cases h1
  · simp [Array.getElem?_eq_none h'] at h1

/-- does number j wait for number i? -/
def waits (md : Region.Mode) (ops : Array Oper) (j i : Nat) : Bool := match ops[j]? with
  | some oj => oj.after.any fun e => Region.binds md e && e.on == i
  | none => false
theorem waits_not {j i : Nat} {listed : Array Bool} (hw : waits md ops j i = true) (hun : listed.getD i true = false) : j ∉ Region.ready md ops listed := by
  intro hj
  obtain ⟨_, oj, hoj, hall⟩ := mem_ready.1 hj
  unfold waits at hw
  rw [hoj] at hw
  obtain ⟨e, he, hb⟩ := Array.any_eq_true'.1 hw
  simp only [Bool.and_eq_true, beq_iff_eq] at hb
  have h1 := hall e he hb.1
  rw [hb.2] at h1
  exact unlisted hun h1

theorem waits_no {j i : Nat} {listed : Array Bool} (hj : j ∈ Region.ready md ops listed) (hun : listed.getD i true = false) : waits md ops j i = false := by
  cases h : waits md ops j i
  · rfl
  · exact absurd hj (waits_not h hun)
/-- who has not come up, and does not wait for number i, is apart from it -/
def Clear (md : Region.Mode) (ops : Array Oper) (i : Nat) (oi : Oper) (listed : Array Bool) : Prop :=
  ∀ j oj, ops[j]? = some oj → j ≠ i → listed.getD j true = false → waits md ops j i = false → oi.apart ops oj = true
theorem Clear.more {i : Nat} {oi : Oper} {listed : Array Bool} (h : Clear md ops i oi listed) {j : Nat} (hj : listed.getD j true = false) : Clear md ops i oi (listed.setIfInBounds j true) :=
  fun k ok hk hki hu hw => h k ok hk hki (by
    by_cases e : j = k
    · exact e ▸ hj
    · rwa [getD_set_ne true e] at hu) hw
theorem clear_of {i : Nat} {oi : Oper} {listed : Array Bool} (hi : ops[i]? = some oi) (h : Region.free md ops listed i = true) : Clear md ops i oi listed := by
  intro j oj hj hne hun hw
  refine Region.free_spec hi h j oj hj hne hun fun e he hb heq => ?_
  unfold waits at hw
  rw [hj] at hw
  have h1 : (oj.after.any fun e => Region.binds md e && e.on == i) = true := Array.any_eq_true'.2 ⟨e, he, by rw [hb, heq]; simp⟩
  have h2 : (oj.after.any fun e => Region.binds md e && e.on == i) = false := hw
  rw [h1] at h2
  cases h2
/-- what reads may be taken first, if number t waits for it -/
theorem Gate.first {i : Nat} {oi : Oper} {v : Value} (hi : ops[i]? = some oi) (hsel : ∀ (j : Nat) (o : Oper) cs b, ops[j]? = some o → o.op ≠ .select cs b)
    (hQ : ∀ c a w, Q (.panic c) (a.put oi.dst v) w → Q (.panic c) a w) (hw : waits md ops t i = true) :
    ∀ (fuel : Nat) (listed : Array Bool) (a : Act) (w : World), Clear md ops i oi listed → i ∈ Region.ready md ops listed → YieldsIf P ops S oi v a → S w →
      Gate P md ops Q S t fuel (listed.setIfInBounds i true) (a.put oi.dst v) w → Gate P md ops Q S t (fuel + 1) listed a w
  | fuel, listed, a, w, hc, hr, hy, hS, H => by
    refine ⟨fun h => absurd hr (by rw [h]; exact List.not_mem_nil), fun j hj => ?_⟩
    by_cases e : j = i
    · subst e
      exact hy.wpOp hi hS ⟨fun _ => hS, H⟩
    · match fuel, H with
      | 0, H => exact absurd (ready_mono hj e) (by rw [H.1]; exact List.not_mem_nil)
      | fuel + 1, H =>
        have hun := (mem_ready.1 hr).1
        have hjt : j ≠ t := fun h => waits_not hw hun (h ▸ hj)
        obtain ⟨hju, oj, ho, _⟩ := mem_ready.1 hj
        exact wpOp_mono (fun a' w' h => ⟨fun _ => h.2.1 hjt, Gate.first hi hsel hQ hw fuel _ a' w' (hc.more hju) (ready_mono hr (Ne.symm e)) h.1 (h.2.1 hjt) (by rw [Array.setIfInBounds_comm _ _ e]; exact h.2.2)⟩)
          (wpOp_putIf ho (hc j oj ho e hju (waits_no hj hun)) (fun cs b => hsel i oi cs b hi) (fun cs b => hsel j oj cs b ho) hQ hy (H.2 j (ready_mono hj e)))

/-- those that are taken first, one behind the other -/
def okSeq (md : Region.Mode) (ops : Array Oper) (t : Nat) : List Nat → Array Bool → Bool
  | [], _ => true
  | i :: is, listed => (ops[i]?).isSome && Region.free md ops listed i && (Region.ready md ops listed).contains i && waits md ops t i && i != t && okSeq md ops t is (listed.setIfInBounds i true)
def listedBy (is : List Nat) (listed : Array Bool) : Array Bool := is.foldl (fun l i => l.setIfInBounds i true) listed
def Taken (P : Program) (ops : Array Oper) (S : World → Prop) : List Nat → (Act → Prop) → Act → Prop
  | [], K, a => K a
  | i :: is, K, a => ∃ o v, ops[i]? = some o ∧ YieldsIf P ops S o v a ∧ Taken P ops S is K (a.put o.dst v)
theorem Gate.takes (hs : Region.noSelect ops = true) (hQ : ∀ d v c a w, Q (.panic c) (Act.put a d v) w → Q (.panic c) a w) {w : World} (hS : S w) : ∀ (is : List Nat) (fuel : Nat) (listed : Array Bool) (a : Act), okSeq md ops t is listed = true →
    Taken P ops S is (fun a' => Gate P md ops Q S t fuel (listedBy is listed) a' w) a → Gate P md ops Q S t (is.length + fuel) listed a w
  | [], fuel, listed, a, _, h => by rw [List.length_nil, Nat.zero_add]; exact h
  | i :: is, fuel, listed, a, hc, h => by
    simp only [okSeq, Bool.and_eq_true, bne_iff_ne] at hc
    obtain ⟨⟨⟨⟨⟨_, hf⟩, hr⟩, hw⟩, hit⟩, hc⟩ := hc
    obtain ⟨o, v, ho, hy, h⟩ := h
    rw [List.length_cons, show is.length + 1 + fuel = (is.length + fuel) + 1 by omega]
    exact Gate.first ho (Region.noSelect_spec hs) (hQ o.dst v) hw _ listed a w (clear_of ho hf) (by simpa using hr) hy hS (Gate.takes hs hQ hS is fuel _ _ hc h)

theorem yields_step {i : Nat} {is : List Nat} {K : Act → Prop} {a : Act} {o : Oper} (v : Value) (ho : ops[i]? = some o) (hg : o.guard = none) (hv : ∀ w, S w → (execOp a.eval o).run P w = .ok (.value v) w)
    (h : Taken P ops S is K (a.put o.dst v)) : Taken P ops S (i :: is) K a :=
  ⟨o, v, ho, .inl ⟨by simp [Region.wanted, hg], hv⟩, h⟩
theorem Gate.one {i : Nat} {o : Oper} {fuel : Nat} {listed : Array Bool} {a : Act} {w : World} (hr : Region.ready md ops listed = [i]) (ho : ops[i]? = some o)
    (h : ∀ K : Act → World → Prop, (∀ a' w', (i ≠ t → S w') → Gate P md ops Q S t fuel (listed.setIfInBounds i true) a' w' → K a' w') → if Region.wanted o (yielded ops a.tmps) = true then Oper.wp P o a w K Q else K (a.put o.dst undef) w) : Gate P md ops Q S t (fuel + 1) listed a w := by
  refine ⟨fun h0 => (by rw [hr] at h0; cases h0), fun j hj => ?_⟩
  rw [hr, List.mem_singleton] at hj
  subst hj
  have := h (fun a' w' => (j ≠ t → S w') ∧ Gate P md ops Q S t fuel (listed.setIfInBounds j true) a' w') (fun a' w' h1 h2 => ⟨h1, h2⟩)
  unfold wpOp
  rw [ho]
  dsimp only
  by_cases hw : Region.wanted o (yielded ops a.tmps) = true
  · rw [if_pos hw] at this ⊢; exact .inl this
  · rw [if_neg hw] at this ⊢; exact this
theorem Gate.next {i : Nat} {o : Oper} {fuel : Nat} {listed : Array Bool} {a : Act} {w : World} (hr : Region.ready md ops listed = [i]) (ho : ops[i]? = some o) (hg : o.guard = none)
    (h : ∀ K : Act → World → Prop, (∀ a' w', (i ≠ t → S w') → Gate P md ops Q S t fuel (listed.setIfInBounds i true) a' w' → K a' w') → Oper.wp P o a w K Q) : Gate P md ops Q S t (fuel + 1) listed a w :=
  Gate.one hr ho fun K hK => by rw [if_pos (by simp [Region.wanted, hg])]; exact h K hK
theorem Gate.fork {i j : Nat} {o o2 : Oper} {fuel : Nat} {listed : Array Bool} {a : Act} {w : World} (hr : Region.ready md ops listed = [i, j]) (ho : ops[i]? = some o) (hg : o.guard = none) (ho2 : ops[j]? = some o2) (hg2 : o2.guard = none)
    (h : ∀ K : Act → World → Prop, (∀ a' w', (i ≠ t → S w') → Gate P md ops Q S t fuel (listed.setIfInBounds i true) a' w' → K a' w') → Oper.wp P o a w K Q)
    (h2 : ∀ K : Act → World → Prop, (∀ a' w', (j ≠ t → S w') → Gate P md ops Q S t fuel (listed.setIfInBounds j true) a' w' → K a' w') → Oper.wp P o2 a w K Q) : Gate P md ops Q S t (fuel + 1) listed a w := by
  refine ⟨fun h0 => (by rw [hr] at h0; cases h0), fun x hx => ?_⟩
  rw [hr, List.mem_cons, List.mem_singleton] at hx
  rcases hx with rfl | rfl
  · have := h (fun a' w' => (x ≠ t → S w') ∧ Gate P md ops Q S t fuel (listed.setIfInBounds x true) a' w') (fun a' w' h1 h2 => ⟨h1, h2⟩)
    unfold wpOp
    rw [ho]
    dsimp only
    rw [if_pos (by simp [Region.wanted, hg])]
    exact .inl this
  · have := h2 (fun a' w' => (x ≠ t → S w') ∧ Gate P md ops Q S t fuel (listed.setIfInBounds x true) a' w') (fun a' w' h1 h2 => ⟨h1, h2⟩)
    unfold wpOp
    rw [ho2]
    dsimp only
    rw [if_pos (by simp [Region.wanted, hg2])]
    exact .inl this
theorem Gate.done {fuel : Nat} {listed : Array Bool} {a : Act} {w : World} (hr : Region.ready md ops listed = []) (h : Q .normal a w) : Gate P md ops Q S t fuel listed a w := by
  cases fuel with
  | zero => exact ⟨hr, h⟩
  | succ fuel => exact ⟨fun _ => h, by rw [hr]; simp⟩
/-- THE BEGINNING -/
theorem gate {id : Nat} {a : Act} {w : World} (S : World → Prop) (t : Nat) (is : List Nat) (fuel : Nat) (hm : P.follows .mixedOrders = true) (hs : Region.noSelect ops = true) (hc : okSeq .any ops t is (Array.replicate ops.size false) = true) (hf : ops.size = is.length + fuel)
    (hQ : ∀ d v c a w, Q (.panic c) (Act.put a d v) w → Q (.panic c) a w) (hS : S w.drew) (h : Taken P ops S is (fun a' => Gate P .any ops Q S t fuel (listedBy is (Array.replicate ops.size false)) a' w.drew) a) : (Code.region id ops true).wp P Q a w := by
  refine wp_region_any hm (Gate.any (S := S) (t := t) _ _ _ _ ?_)
  have := Gate.takes (md := .any) (t := t) (Q := Q) hs hQ hS is fuel _ a hc h
  rw [← hf] at this
  exact this
end
end Go.Proofs.Ytdkniholeaiemaa.Gt
