/-
  A region that draws its order, in which a condition on memory outlasts all: what reads is taken first, whatever comes last. For any program. No conditions.
-/
import Derived.Test.YtapklelkcicjlaaGreatDoorKRow
namespace Go.Proofs.YtapklelkcicjlaaGreatDoor.Gt
open Go.RowKit
set_option linter.unusedVariables false
section
variable {P : Program} {ops : Array Oper} {Q : Exit → Act → World → Prop} {md : Region.Mode} {S : World → Prop} {t : Nat}

/-- what reads may be taken first, if S is shown behind each -/
theorem Gate.firstAll {i : Nat} {oi : Oper} {v : Value} (hi : ops[i]? = some oi) (hsel : ∀ (j : Nat) (o : Oper) cs b, ops[j]? = some o → o.op ≠ .select cs b)
    (hQ : ∀ c a w, Q (.panic c) (a.put oi.dst v) w → Q (.panic c) a w) (ht : ops[t]? = none) :
    ∀ (fuel : Nat) (listed : Array Bool) (a : Act) (w : World), Clear md ops i oi listed → i ∈ Region.ready md ops listed → YieldsIf P ops S oi v a → S w →
      Gate P md ops Q S t fuel (listed.setIfInBounds i true) (a.put oi.dst v) w → Gate P md ops Q S t (fuel + 1) listed a w
  | fuel, listed, a, w, hc, hr, hy, hS, H => by
    refine ⟨fun h => absurd hr (by rw [h]; exact List.not_mem_nil), fun j hj => ?_⟩
    by_cases e : j = i
    · subst e
      exact hy.wpOp hi hS ⟨fun _ => hS, H⟩
    · match fuel, H with
      | 0, H => exact absurd (ready_mono hj e) (by rw [H.1]; exact List.not_mem_nil)
      | fuel + 1, H =>
        have hun := (mem_ready.1 hr).1
        obtain ⟨hju, oj, ho, _⟩ := mem_ready.1 hj
        have hjt : j ≠ t := fun h => by rw [h, ht] at ho; cases ho
        exact wpOp_mono (fun a' w' h => ⟨fun _ => h.2.1 hjt, Gate.firstAll hi hsel hQ ht fuel _ a' w' (hc.more hju) (ready_mono hr (Ne.symm e)) h.1 (h.2.1 hjt) (by rw [Array.setIfInBounds_comm _ _ e]; exact h.2.2)⟩)
          (wpOp_putIf ho (hc j oj ho e hju (waits_no hj hun)) (fun cs b => hsel i oi cs b hi) (fun cs b => hsel j oj cs b ho) hQ hy (H.2 j (ready_mono hj e)))
/-- those that are taken first, one behind the other -/
def okAll (md : Region.Mode) (ops : Array Oper) : List Nat → Array Bool → Bool
  | [], _ => true
  | i :: is, listed => (ops[i]?).isSome && Region.free md ops listed i && (Region.ready md ops listed).contains i && okAll md ops is (listed.setIfInBounds i true)
theorem Gate.takesAll (hs : Region.noSelect ops = true) (ht : ops[t]? = none) (hQ : ∀ d v c a w, Q (.panic c) (Act.put a d v) w → Q (.panic c) a w) {w : World} (hS : S w) : ∀ (is : List Nat) (fuel : Nat) (listed : Array Bool) (a : Act), okAll md ops is listed = true →
    Taken P ops S is (fun a' => Gate P md ops Q S t fuel (listedBy is listed) a' w) a → Gate P md ops Q S t (is.length + fuel) listed a w
  | [], fuel, listed, a, _, h => by rw [List.length_nil, Nat.zero_add]; exact h
  | i :: is, fuel, listed, a, hc, h => by
    simp only [okAll, Bool.and_eq_true] at hc
    obtain ⟨⟨⟨_, hf⟩, hr⟩, hc⟩ := hc
    obtain ⟨o, v, ho, hy, h⟩ := h
    rw [List.length_cons, show is.length + 1 + fuel = (is.length + fuel) + 1 by omega]
    exact Gate.firstAll ho (Region.noSelect_spec hs) (hQ o.dst v) ht _ listed a w (clear_of ho hf) (by simpa using hr) hy hS (Gate.takesAll hs ht hQ hS is fuel _ _ hc h)
theorem yields_on {i : Nat} {is : List Nat} {K : Act → Prop} {a : Act} {o : Oper} (v : Value) (ho : ops[i]? = some o) (hg : Region.wanted o (yielded ops a.tmps) = true) (hv : ∀ w, S w → (execOp a.eval o).run P w = .ok (.value v) w)
    (h : Taken P ops S is K (a.put o.dst v)) : Taken P ops S (i :: is) K a :=
  ⟨o, v, ho, .inl ⟨hg, hv⟩, h⟩
theorem yields_off {i : Nat} {is : List Nat} {K : Act → Prop} {a : Act} {o : Oper} (ho : ops[i]? = some o) (hg : Region.wanted o (yielded ops a.tmps) = false)
    (h : Taken P ops S is K (a.put o.dst undef)) : Taken P ops S (i :: is) K a :=
  ⟨o, undef, ho, .inr ⟨hg, rfl⟩, h⟩
theorem gate_on {i : Nat} {o : Oper} {fuel : Nat} {listed : Array Bool} {a : Act} {w : World} (hr : Region.ready md ops listed = [i]) (ho : ops[i]? = some o) (hg : Region.wanted o (yielded ops a.tmps) = true)
    (h : ∀ K : Act → World → Prop, (∀ a' w', (i ≠ t → S w') → Gate P md ops Q S t fuel (listed.setIfInBounds i true) a' w' → K a' w') → Oper.wp P o a w K Q) : Gate P md ops Q S t (fuel + 1) listed a w :=
  Gate.one hr ho fun K hK => by rw [if_pos hg]; exact h K hK
/-- THE BEGINNING -/
theorem gateAll {id : Nat} {a : Act} {w : World} (S : World → Prop) (t : Nat) (is : List Nat) (fuel : Nat) (ht : ops[t]? = none) (hm : P.follows .mixedOrders = true) (hs : Region.noSelect ops = true) (hc : okAll .any ops is (Array.replicate ops.size false) = true) (hf : ops.size = is.length + fuel)
    (hQ : ∀ d v c a w, Q (.panic c) (Act.put a d v) w → Q (.panic c) a w) (hS : S w.drew) (h : Taken P ops S is (fun a' => Gate P .any ops Q S t fuel (listedBy is (Array.replicate ops.size false)) a' w.drew) a) : (Code.region id ops true).wp P Q a w := by
  refine wp_region_any hm (Gate.any (S := S) (t := t) _ _ _ _ ?_)
  have := Gate.takesAll (md := .any) (t := t) (Q := Q) hs ht hQ hS is fuel _ a hc h
  rw [← hf] at this
  exact this
end
end Go.Proofs.YtapklelkcicjlaaGreatDoor.Gt
