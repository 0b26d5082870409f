/-
  Rows without a node: plain facts, and the law's own function 'without'. No conditions.
-/
import Derived.Test.YtngfhcapjonkcaaLsPlays
namespace Go.Proofs.Ytngfhcapjonkcaa.Ls
open W
set_option linter.unusedVariables false

/-- a row without a number -/
def wo (i : Int) (r : List Nat) : List Nat := r.filter fun x => decide ((x : Int) ≠ i)
theorem wo_nat (a : Nat) (r : List Nat) : wo (a : Int) r = r.filter fun x => x != a := by
  unfold wo
  congr 1
  funext x
  by_cases e : x = a
  · subst e; simp
  · have h1 : (x : Int) ≠ (a : Int) := by omega
    have h2 : (x != a) = true := by simpa using e
    rw [h2]
    exact decide_eq_true h1
theorem wo_no {i : Int} {r : List Nat} (h : ∀ x ∈ r, (x : Int) ≠ i) : wo i r = r := by
  unfold wo
  rw [List.filter_eq_self]
  intro x hx
  exact decide_eq_true (h x hx)
theorem wo_mid {a : Nat} {u v : List Nat} (hu : a ∉ u) (hv : a ∉ v) : wo (a : Int) (u ++ a :: v) = u ++ v := by
  rw [wo_nat, List.filter_append, List.filter_cons_of_neg (by simp), filter_id hu, filter_id hv]
theorem rowOf_rm (L : List (List Nat)) (a j : Nat) : rowOf (rm L a) j = wo (a : Int) (rowOf L j) := by
  unfold rowOf
  rw [rm_at, wo_nat]
  cases L[j]? <;> rfl
theorem wo_wo (i : Int) (r : List Nat) : wo i (wo i r) = wo i r := by
  unfold wo
  rw [List.filter_filter]
  congr 1
  funext x
  simp
theorem rowOf_set {L : List (List Nat)} {k j : Nat} {r : List Nat} (hk : k < L.length) : rowOf (L.set k r) j = if j = k then r else rowOf L j := by
  unfold rowOf
  rw [List.getElem?_set]
  by_cases e : k = j
  · subst e; simp [hk]
  · rw [if_neg e, if_neg (fun x => e x.symm)]
/-- what is moved changes no others' order -/
def Keeps (L L' : List (List Nat)) (i : Int) : Prop := L'.length = L.length ∧ ∀ j, wo i (rowOf L' j) = wo i (rowOf L j)
theorem keeps_same (L : List (List Nat)) (i : Int) : Keeps L L i := ⟨rfl, fun _ => rfl⟩
theorem keeps_rm (L : List (List Nat)) (a : Nat) : Keeps L (rm L a) (a : Int) := ⟨rm_len L a, fun j => by rw [rowOf_rm, wo_wo]⟩
theorem keeps_push {L : List (List Nat)} {k a : Nat} (hk : k < L.length) : Keeps L (push L k a) (a : Int) := by
  refine ⟨push_len L k a, fun j => ?_⟩
  unfold push
  rw [rowOf_set (by rw [rm_len]; exact hk)]
  by_cases e : j = k
  · subst e
    rw [if_pos rfl, wo_nat, List.filter_cons_of_neg (by simp), ← wo_nat, rowOf_rm, wo_wo]
  · rw [if_neg e, rowOf_rm, wo_wo]
theorem keeps_app {L : List (List Nat)} {k a : Nat} (hk : k < L.length) : Keeps L (app L k a) (a : Int) := by
  refine ⟨app_len L k a, fun j => ?_⟩
  unfold app
  rw [rowOf_set (by rw [rm_len]; exact hk)]
  by_cases e : j = k
  · subst e
    rw [if_pos rfl, wo_nat, List.filter_append, List.filter_cons_of_neg (by simp), List.filter_nil, List.append_nil, ← wo_nat, rowOf_rm, wo_wo]
  · rw [if_neg e, rowOf_rm, wo_wo]
/-- how often a number stands in the first k rows -/
def inn (L : List (List Nat)) (i : Int) : Nat → Nat
  | 0 => 0
  | k + 1 => inn L i k + ((rowOf L k).length - (wo i (rowOf L k)).length)
theorem wo_le (i : Int) (r : List Nat) : (wo i r).length ≤ r.length := List.length_filter_le _ _
theorem inn_is {n : Nat} {L : List (List Nat)} (hO : Ok n L) (i : Int) : ∀ k, k ≤ L.length → (inn L i k = 0 ∧ ∀ j, j < k → ∀ x ∈ rowOf L j, (x : Int) ≠ i) ∨ (inn L i k = 1 ∧ ∃ j, j < k ∧ ∃ x ∈ rowOf L j, (x : Int) = i) := by
  intro k
  induction k with
  | zero => intro _; exact .inl ⟨rfl, fun j hj => by omega⟩
  | succ k ih =>
    intro hk
    have hr := rowOf_at (L := L) (k := k) (by omega)
    by_cases h : ∃ x ∈ rowOf L k, (x : Int) = i
    · obtain ⟨x, hx, rfl⟩ := h
      have hnd := hO.nd k _ hr
      obtain ⟨u, v, huv⟩ := List.append_of_mem hx
      have hd : (rowOf L k).length - (wo (x : Int) (rowOf L k)).length = 1 := by
        rw [huv] at hnd
        rw [huv, wo_mid (fun hh => by rw [List.nodup_append] at hnd; exact hnd.2.2 x hh x (by simp) rfl) (fun hh => by rw [List.nodup_append, List.nodup_cons] at hnd; exact hnd.2.1.1 hh)]
        simp
        omega
      refine .inr ⟨?_, k, by omega, x, hx, rfl⟩
      rcases ih (by omega) with ⟨h0, _⟩ | ⟨_, j, hj, x2, hx2, e⟩
      · rw [inn, h0, hd]
      · have : x2 = x := by omega
        subst this
        have := hO.one j k _ _ x2 (rowOf_at (by omega)) hr hx2 hx
        omega
    · have hno : ∀ x ∈ rowOf L k, (x : Int) ≠ i := fun x hx e => h ⟨x, hx, e⟩
      have hd : (rowOf L k).length - (wo i (rowOf L k)).length = 0 := by rw [wo_no hno]; omega
      rcases ih (by omega) with ⟨h0, h1⟩ | ⟨h0, j, hj, x, hx, e⟩
      · refine .inl ⟨by rw [inn, h0, hd], fun j hj x hx => ?_⟩
        by_cases e : j = k
        · subst e; exact hno x hx
        · exact h1 j (by omega) x hx
      · exact .inr ⟨by rw [inn, h0, hd], j, by omega, x, hx, e⟩
theorem inn_le {n : Nat} {L : List (List Nat)} (hO : Ok n L) (i : Int) (k : Nat) (hk : k ≤ L.length) : inn L i k ≤ 1 := by
  rcases inn_is hO i k hk with ⟨h, _⟩ | ⟨h, _⟩ <;> omega
theorem wo_take {r : List Nat} {i : Int} {j x : Nat} (h : r[j]? = some x) : wo i (r.take (j + 1)) = wo i (r.take j) ++ (if (x : Int) = i then [] else [x]) := by
  have hlt := (List.getElem?_eq_some_iff.1 h).1
  have hx : r[j] = x := (List.getElem?_eq_some_iff.1 h).2
  rw [List.take_succ_eq_append_getElem hlt, hx]
  unfold wo
  rw [List.filter_append]
  congr 1
  by_cases e : (x : Int) = i
  · rw [if_pos e, List.filter_cons_of_neg (by simpa using e)]; rfl
  · rw [if_neg e, List.filter_cons_of_pos (by simpa using e)]; rfl
end Go.Proofs.Ytngfhcapjonkcaa.Ls

namespace Go.Proofs.Ytngfhcapjonkcaa.W
open Go.RowKit Rw Ls
set_option linter.unusedVariables false

set_option maxHeartbeats 2000000 in
theorem without_any {w : World} (A : Option Addr) (c N : Nat) (r : List Nat) (i : Int) (h : Sl w A N (nv r)) (hN : r.length = N) (hN2 : N ≤ 5000) :
    Calls Try.prog 23 #[.slice A N c, .int .i64 i] w (MadeV w (nv (wo i r))) := by
  have H : Hid (Sl w A r.length (nv r)) := by show Sl _ _ _ _; rw [hN]; exact h
  have HN := Lib.hid hN
  clear h hN
  go_enter Try.func23, Try.ntmps23
  go_wp2
  go_loopw [5, 6] (fun s q wr => ∃ j : Nat, j ≤ N ∧ q = .int .i64 (j : Int) ∧ Hid (OwnV wr 3 w.heap.size s (nv (wo i (r.take j)))) ∧ Hid (Below w.heap.size w wr)) (fun _ q _ => N - (intOf q).toNat)
  case atStart => exact ⟨0, by omega, rfl, OwnV.nil _ _ _, Below.refl _ _⟩
  case round =>
    obtain ⟨j, hj, rfl, OJ, BJ⟩ := hrel
    by_cases hlt : j < N
    · obtain ⟨x, hx⟩ : ∃ x, r[j]? = some x := ⟨_, List.getElem?_eq_getElem (by rw [HN.out]; exact hlt)⟩
      obtain ⟨b, off, rfl, hcell0⟩ := sl_int H.out hx
      have hcell := (BJ.out.cell (p := ⟨b, off + j, none⟩) (World.block_lt_of_cell? w ⟨b, off + j, none⟩ hcell0)).trans hcell0
      have HS := Lib.hid (wo_take (i := i) hx)
      have LEN : Hid ((wo i (r.take j)).length ≤ 5000) := by show _ ≤ _; have h1 := wo_le i (r.take j); have h2 : (r.take j).length ≤ r.length := List.length_take_le' .. ; have := HN.out; omega
      clear hx hcell0
      by_cases e : (x : Int) = i
      · have he : ((x : Int) != i) = false := by simpa using e
        have HS2 : Hid (wo i (r.take (j + 1)) = wo i (r.take j)) := by show _ = _; rw [HS.out, if_pos e, List.append_nil]
        clear e
        go_wp2
        go_roundw
        case rel => exact ⟨j + 1, by omega, by go_num, by show OwnV _ _ _ _ _; rw [HS2.out]; exact OJ.out, BJ⟩
        case measure => simp [intOf]; omega
      · have he : ((x : Int) != i) = true := by simpa using e
        have HS2 : Hid (wo i (r.take (j + 1)) = wo i (r.take j) ++ [x]) := by show _ = _; rw [HS.out, if_neg e]
        clear e
        go_wp2_with (at_builtin; refine wpList_append_one rfl _ _ 37 rfl it rfl OJ.out BJ.out _ rfl rfl (by rw [nv_len]; have := LEN.out; omega) ?_; intro v2 w2 o2 b2; have O2 := Lib.hid o2; have B2 := Lib.hid b2; clear o2 b2)
        go_roundw
        case rel => exact ⟨j + 1, by omega, by go_num, by show OwnV _ _ _ _ _; rw [HS2.out, nv_snoc]; exact O2.out, B2⟩
        case measure => simp [intOf]; omega
    · have hjN : Hid (j = N) := by show _ = _; omega
      have hge : N ≤ j := by omega
      go_wp2
      go_ret
      exact ⟨_, rfl, by have := OJ.out; rw [List.take_of_length_le (by rw [HN.out]; exact hge)] at this; exact this, BJ.out⟩
end Go.Proofs.Ytngfhcapjonkcaa.W
