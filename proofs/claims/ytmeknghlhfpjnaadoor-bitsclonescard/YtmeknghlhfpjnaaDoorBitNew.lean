/-
  Contracts of package bits' Clone and New, and of count.Up. No conditions.
-/
import Derived.Test.YtmeknghlhfpjnaaDoorBitTurn
import Derived.Deep.RegionLaw
namespace Go.Proofs.YtmeknghlhfpjnaaDoor.W
open Go.RowKit Bt Rw
set_option linter.unusedVariables false

/-- append of values onto a row of the call's own, at a step of a region that draws its order -/
theorem step_append_row {P : Program} {w : World} {ops : Array Oper} {o : Oper} {a : Act} {K : Act → World → Prop} {Q : Exit → Act → World → Prop} {E : Prop} (hgd : o.guard = none) (s x : Operand) (t : TypeId)
    (ho : o.op = .call { callee := .builtin .append, args := #[s, x], argTypes := #[t, t] }) {e : TypeId} {z : Value} {bytes : Nat} (hT : ElTy P t e z bytes) {w0 : World} {v : Value} {xs : List Value} (hs : a.eval s = v) (hown : OwnV w e w0.heap.size v xs) (hb : Below w0.heap.size w0 w)
    {A : Option Addr} {m : Nat} (c : Nat) {ys : List Value} (hx : a.eval x = .slice A m c) (hr : Sl w A m ys) (h1 : ∀ u ∈ ys, u.oneCell' = true) (hl : xs.length + m ≤ 1000000000000)
    (h : ∀ v' w', OwnV w' e w0.heap.size v' (xs ++ ys) → Below w0.heap.size w0 w' → K (a.put o.dst v') w') :
    if Region.wanted o (yielded ops a.tmps) = true then Oper.wp P o a w K Q else E := by
  rw [if_pos (by simp [Region.wanted, hgd])]
  obtain ⟨v', w', hrun, h2, h3, _⟩ := run_append_row (P := P) (ty := o.type) c hT hown hr h1 hl hb.size
  unfold Oper.wp execOp
  simp only [ho, resolve, invoke, builtin, Sem.run_bind, Sem.run_pure, Result.andThen_ok, List.map_toArray, List.map_cons, List.map_nil, hs, hx, hrun]
  exact h v' w' h2 (hb.grown h3 hb.size fun g hg => (hown.ge g hg).1)

theorem uv_one (xs : List Nat) : ∀ u ∈ xs.map uv, u.oneCell' = true := by
  intro u hu
  obtain ⟨x, _, rfl⟩ := List.mem_map.1 hu
  rfl
theorem new_st {w w1 : World} {B : Nat} {v : Value} {l : List Bool} (hB : B ≤ w.heap.size) (ho : OwnV w1 55 w.heap.size v ((words l).map uv)) (hb : Below w.heap.size w w1) :
    St (w1.alloc (.cells #[.int .i64 (l.length : Int), v, .bool true] 38)) B w1.heap.size v l true ∧ w.heap.size ≤ w1.heap.size ∧ (∀ g, v.ownBlock = some g → w.heap.size ≤ g) ∧ Below w.heap.size w (w1.alloc (.cells #[.int .i64 (l.length : Int), v, .bool true] 38)) :=
  ⟨⟨heap_alloc_new w1 _, (ho.more hB).alloc _⟩, hb.size, fun g hg => (ho.ge g hg).1, hb.alloc hb.size _⟩

set_option maxHeartbeats 2000000 in
theorem clone_any {w : World} {B R : Nat} {v : Value} {l : List Bool} (h : St w B R v l true) (hl : l.length ≤ 4096) (hB : B ≤ w.heap.size) :
    Calls Tryd.prog 9 #[.pointer (some ⟨R, 0, none⟩)] w (NewSt w B l) := by
  obtain ⟨c0, c1, c2⟩ := h.cells
  obtain ⟨A, c, rfl, hc, hs⟩ := h.form
  obtain ⟨N, hN⟩ : ∃ N, nw l.length = N := ⟨_, rfl⟩
  have hN2 : N ≤ 64 := by rw [← hN]; unfold nw; omega
  have hR := h.lt
  rw [hN] at c1 hs
  have HS := Lib.hid hs
  have HL := Lib.hid ((words_cells l).trans hN)
  clear h hs hN hc
  go_enter Tryd.func9, Tryd.ntmps9
  go_wp2_with fail
  go_region_law (refine step_append_row (by rfl) _ _ 36 (by rfl) u64t (w0 := w) (by rfl) (OwnV.nil _ _ _) ((Below.refl _ _).drew) _ (by rfl) (HS.out.drew) (uv_one _) (by simp; omega) ?_; intro v1 w1 o1 b1; have d0 := (b1.cell (p := ⟨R, 0, none⟩) hR).trans c0; rw [List.nil_append] at o1; obtain ⟨A1, k1, rfl, l1, m1, s1⟩ := o1.form HL.out; have O1 := Lib.hid o1; have B1 := Lib.hid b1; clear o1 b1 s1 l1 m1)
  all_goals go_wp2
  all_goals go_ret
  all_goals
    obtain ⟨n1, n2, n3, n4⟩ := new_st hB O1.out B1.out
    exact ⟨_, _, rfl, n1, n2, n3, n4⟩

theorem up_64 (n : Nat) (r : Nat) (w : World) (hn : n ≤ 4096) (hr : nw n = r) : Calls Tryd.prog 20 #[.int .i64 (n : Int), .int .i64 64] w fun e w' => e = .returned (.int .i64 (r : Int)) ∧ w = w' := by
  unfold nw at hr
  by_cases h0 : n = 0
  · subst h0
    have HR := Lib.hid hr
    clear hr
    go_enter Tryd.func20, Tryd.ntmps20
    go_wp2
    go_ret
    exact ⟨ret_int (by rw [← HR.out]; rfl), rfl⟩
  · have h1 : 1 ≤ n := by omega
    have HR := Lib.hid hr
    clear hr h0
    go_enter Tryd.func20, Tryd.ntmps20
    go_wp2
    go_ret
    exact ⟨ret_int (by rw [← HR.out]; omega), rfl⟩

/-- what New leaves -/
def Opened (w : World) (B : Nat) (l : List Bool) (e : Ending) (w' : World) : Prop :=
  ∃ R v, e = .returned (.tuple #[.pointer (some ⟨R, 0, none⟩), .int .i64 0]) ∧ St w' B R v l true ∧ w.heap.size ≤ R ∧ (∀ g, v.ownBlock = some g → w.heap.size ≤ g) ∧ Below w.heap.size w w'
theorem new_bad (n : Int) (w : World) (hn : n < 0 ∨ 4096 < n) : Calls Tryd.prog 6 #[.int .i64 n] w fun e w' => e = .returned (.tuple #[.pointer none, .int .i64 1]) ∧ w = w' := by
  by_cases h0 : n < 0
  · clear hn
    go_enter Tryd.func6, Tryd.ntmps6
    go_wp2
    go_ret2
    exact ⟨rfl, rfl⟩
  · have h1 : 4096 < n := by omega
    clear hn
    go_enter Tryd.func6, Tryd.ntmps6
    go_wp2
    go_ret2
    exact ⟨rfl, rfl⟩
set_option maxHeartbeats 1000000 in
theorem new_any (n : Nat) (w : World) (B : Nat) (hn : n ≤ 4096) (hB : B ≤ w.heap.size) : Calls Tryd.prog 6 #[.int .i64 (n : Int)] w (Opened w B (List.replicate n false)) := by
  obtain ⟨r, hr⟩ : ∃ r, nw n = r := ⟨_, rfl⟩
  have hr2 : r ≤ 64 := by rw [← hr]; unfold nw; omega
  have HR := Lib.hid hr
  clear hr
  go_enter Tryd.func6, Tryd.ntmps6
  go_wp2_with fail
  refine (up_64 n r _ hn HR.out).mono ?_; rintro e w' ⟨rfl, rfl⟩
  go_wp2_with (at_make; refine wpList_make_row rfl _ _ 36 rfl u64t _ _ r rfl rfl (by omega) (by omega) (by omega) ?_; intro w1 o1 b1; have O1 := Lib.hid o1; have B1 := Lib.hid b1; clear o1 b1)
  go_ret2
  have o := O1.out
  have e : List.replicate r (Value.int .u64 0) = (words (List.replicate n false)).map uv := by rw [words_rep, HR.out, List.map_replicate]; rfl
  rw [e] at o
  obtain ⟨n1, n2, n3, n4⟩ := new_st hB o B1.out
  rw [List.length_replicate] at n1 n4
  exact ⟨_, _, rfl, n1, n2, n3, n4⟩
end Go.Proofs.YtmeknghlhfpjnaaDoor.W
