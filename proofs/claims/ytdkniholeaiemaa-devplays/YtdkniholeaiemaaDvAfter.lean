/-
  Both pairs as they begin, and one act more. No conditions.
-/
import Derived.Test.YtdkniholeaiemaaDvDoAll
namespace Go.Proofs.Ytdkniholeaiemaa.W
open Go.RowKit Oc Dm Gt Tn
set_option linter.unusedVariables false
set_option maxRecDepth 100000
def two (x y k : Nat) : Nat := if k = 0 then x else y
def dd0 (_ : Nat) : DD := ⟨fun _ => sec0, 0, 0⟩
theorem begun_mid {w w' : World} {T p q D0 D1 E0 E1 a b x1 x2 x3 x4 : Nat} (h : Begun w w' T p q D0 D1 E0 E1 a b x1 x2 x3 x4) :
    After (fun _ => 0) w T (two a b) 0 w' := by
  obtain ⟨a1, a2, a3, a4, a5, a6, a7, a8⟩ := h.at_
  obtain ⟨o, ho⟩ : ∃ o : Nat → Nat, o = fun k => if k = T then 1 else if k = p then 2 else if k = q then 3 else if T < k ∧ k < x1 then 4 else if x1 ≤ k ∧ k < x2 then 5 else if x2 ≤ k ∧ k < x3 then 6 else if x3 ≤ k ∧ k < x4 then 7 else 0 := ⟨_, rfl⟩
  have lt : ∀ k, o k ≠ 0 → k < w'.heap.size ∧ w.heap.size ≤ k := fun k x => by
    rw [ho] at x
    simp only [] at x
    split at x
    · omega
    · split at x
      · omega
      · split at x
        · omega
        · split at x
          · omega
          · split at x
            · omega
            · split at x
              · omega
              · split at x
                · omega
                · exact absurd rfl x
  have o4 : ∀ k, T < k ∧ k < x1 → o k = 4 := fun k x => by
    rw [ho]; simp only []; rw [if_neg (by omega), if_neg (by omega), if_neg (by omega), if_pos x]
  have o5 : ∀ k, x1 ≤ k ∧ k < x2 → o k = 5 := fun k x => by
    rw [ho]; simp only []; rw [if_neg (by omega), if_neg (by omega), if_neg (by omega), if_neg (by omega), if_pos x]
  have o6 : ∀ k, x2 ≤ k ∧ k < x3 → o k = 6 := fun k x => by
    rw [ho]; simp only []; rw [if_neg (by omega), if_neg (by omega), if_neg (by omega), if_neg (by omega), if_neg (by omega), if_pos x]
  have o7 : ∀ k, x3 ≤ k ∧ k < x4 → o k = 7 := fun k x => by
    rw [ho]; simp only []; rw [if_neg (by omega), if_neg (by omega), if_neg (by omega), if_neg (by omega), if_neg (by omega), if_neg (by omega), if_pos x]
  have oT : o T = 1 := by rw [ho]; exact if_pos rfl
  have op : o p = 2 := by rw [ho]; exact (if_neg (by omega)).trans (if_pos rfl)
  have oq : o q = 3 := by rw [ho]; exact (if_neg (by omega)).trans ((if_neg (by omega)).trans (if_pos rfl))
  clear ho
  refine ⟨o, p, q, two D0 D1, two E0 E1, ⟨false, none, 0⟩, dd0, ⟨h.head, oT, op, oq, fun k x => (lt k x).1, h.pw, h.qw, fun k hk => ?_, fun k hk => ?_, by decide, Nat.le_refl _, Nat.le_refl _, fun k e => by cases e⟩, ⟨fun k hk => ?_, h.below.os, h.below.tape, h.below.output, h.below.size, fun k hk _ => h.below.block k hk⟩⟩
  · match k, hk with
    | 0, _ => exact h.d0.frame (fun b x => o4 b x) (fun b x => (lt b (by have x' : o b = 4 + 0 := x; omega)).1) (fun _ _ => rfl)
    | 1, _ => exact h.d1.frame (fun b x => o5 b x) (fun b x => (lt b (by have x' : o b = 4 + 1 := x; omega)).1) (fun _ _ => rfl)
  · match k, hk with
    | 0, _ => obtain ⟨gs, y⟩ := h.e0; exact ⟨gs, _, y.frame (fun b x => o6 b x) (fun b x => (lt b (by have x' : o b = 6 + 0 := x; omega)).1) (fun _ _ => rfl)⟩
    | 1, _ => obtain ⟨gs, y⟩ := h.e1; exact ⟨gs, _, y.frame (fun b x => o7 b x) (fun b x => (lt b (by have x' : o b = 6 + 1 := x; omega)).1) (fun _ _ => rfl)⟩
  · rcases Nat.eq_zero_or_pos (o k) with e | e
    · exact e
    · have := (lt k (by omega)).2; omega
theorem begin_mid (w : World) (a b : Nat) (ha : a ≤ 4096) (hb : b ≤ 4096) : Calls Try.prog 7 #[.int .i64 (a : Int), .int .i64 (b : Int)] w fun e w' => ∃ T, e = .returned (.tuple #[.pointer (some ⟨T, 0, none⟩), .bool true]) ∧ After (fun _ => 0) w T (two a b) 0 w' :=
  (begin_any w a b ha hb).mono fun e w' ⟨T, p, q, D0, D1, E0, E1, x1, x2, x3, x4, h1, h2⟩ => ⟨T, h1, begun_mid h2⟩
section
variable {o : Nat → Nat} {w w' w'' : World} {T N : Nat} {ns : Nat → Nat}
theorem After.then (h : After o w T ns N w') (hb : Below w'.heap.size w' w'') : After o w T ns N w'' := by
  obtain ⟨o', p, q, D, E, s, d, m, x⟩ := h
  exact ⟨o', p, q, D, E, s, d, m.below hb, x.trans (Ex.of_below hb)⟩
theorem After.all (h : After (fun _ => 0) w T ns N w') : Below w.heap.size w w' := by
  obtain ⟨o', p, q, D, E, s, d, m, x⟩ := h
  exact x.below
/-- one act more -/
theorem after_do (h : After (fun _ => 0) w T ns N w') (hN : N + 1 ≤ 1000000) {b off : Nat} {a : ActV} (ha : ActAt w b off a) : Calls Try.prog 8 #[.pointer (some ⟨T, 0, none⟩), .agg a.cells.toArray] w' fun e w'' => e = .returned (.bool true) ∧ After (fun _ => 0) w T ns (N + 1) w'' := by
  obtain ⟨o', p, q, D, E, s, d, m, x⟩ := h
  have hf : Fo (fun _ => 0) w a.fa a.fl a.fs := ⟨ha.fates, fun _ _ _ _ => rfl⟩
  exact (do_any m hN a ha.wf (hf.ex x)).mono fun e w'' ⟨h1, o2, p2, q2, D2, E2, s2, d2, m2, x2⟩ => ⟨h1, o2, p2, q2, D2, E2, s2, d2, m2, x.trans x2⟩
theorem act_cells_at {b off : Nat} {a : ActV} (h : ActAt w b off a) (hb : Below w.heap.size w w') : w'.cell? ⟨b, off, none⟩ = some (.int .i64 a.kind) ∧ w'.cell? ⟨b, off + 1, none⟩ = some (.int .i64 a.of_) ∧ w'.cell? ⟨b, off + 2, none⟩ = some (.int .i64 a.at_) ∧ w'.cell? ⟨b, off + 3, none⟩ = some (.int .i64 a.n) ∧ w'.cell? ⟨b, off + 4, none⟩ = some (.int .i64 a.bit) ∧ w'.cell? ⟨b, off + 5, none⟩ = some (.int .u32 a.turn) ∧ w'.cell? ⟨b, off + 6, none⟩ = some (.int .u64 a.a) ∧ w'.cell? ⟨b, off + 7, none⟩ = some (.int .u64 a.b) ∧ w'.cell? ⟨b, off + 8, none⟩ = some (.int .u8 a.fill) ∧ w'.cell? ⟨b, off + 9, none⟩ = some (.int .i64 a.size) ∧ w'.cell? ⟨b, off + 10, none⟩ = some (.slice a.fa a.fl a.fc) := by
  have h' := h.below hb
  exact ⟨h'.cells 0 _ rfl, h'.cells 1 _ rfl, h'.cells 2 _ rfl, h'.cells 3 _ rfl, h'.cells 4 _ rfl, h'.cells 5 _ rfl, h'.cells 6 _ rfl, h'.cells 7 _ rfl, h'.cells 8 _ rfl, h'.cells 9 _ rfl, h'.cells 10 _ rfl⟩
end
end Go.Proofs.Ytdkniholeaiemaa.W
