/-
  Contract of Remove: what it leaves in memory. No conditions.
-/
import Derived.Test.YtngfhcapjonkcaaLsTurn
namespace Go.Proofs.Ytngfhcapjonkcaa.W
open Go.RowKit Rw
set_option linter.unusedVariables false

theorem St.drew {w : World} {R g1 g2 n m N : Nat} {f : Nat → Lnk} {s : Nat → Nat} (h : St w R g1 g2 n m N f s) : St w.drew R g1 g2 n m N f s := h.below (Below.refl _ _).drew
theorem Turn2.drew {a b : World} {g1 g2 : Nat} (h : Turn2 a b g1 g2) : Turn2 a b.drew g1 g2 := h.trans (Turn2.below (Below.refl _ _).drew)

set_option maxHeartbeats 4000000 in
theorem remove_raw {w : World} {R g1 g2 n m N : Nat} {f : Nat → Lnk} {s : Nat → Nat} (h : St w R g1 g2 n m N f s) (a p q k z : Nat) (han : a < n) (hp : p < N) (hq : q < N) (hk : k < m) (hpa : p ≠ a) (hqa : q ≠ a)
    (hap : (f a).prev = p) (haq : (f a).next = q) (hak : (f a).list = (k : Int)) (hz : s k = z + 1) (hz2 : z ≤ 2000) :
    Calls Try.prog 12 #[.pointer (some ⟨R, 0, none⟩), .int .i64 (a : Int)] w
      (Turned w R g1 g2 n m N (setLnk (setPrev (setNext f p q) q p) a ⟨a, a, -1⟩) (setSize s k z) (.bool true)) := by
  obtain ⟨c0, c1, c2⟩ := h.cells
  obtain ⟨n1, n2, n3⟩ := h.apart
  have hN := h.sum
  have hn := h.hn
  have hm := h.hm
  have ha : a < N := by omega
  have c3 := h.next hp
  have c5 := h.size hk
  have c6 := h.prev hq
  have a0 := h.prev ha
  have a1 := h.next ha
  have a2 := h.list ha
  obtain ⟨l0, l1, l2⟩ := h.lt
  have r0 : R ≠ w.heap.size := by omega
  have r1 : g1 ≠ w.heap.size := by omega
  have r2 : g2 ≠ w.heap.size := by omega
  have fr : ∀ i, w.frozen? ⟨g1, i, none⟩ = false := h.ring.frozen
  have fr2 : ∀ i, w.frozen? ⟨g2, i, none⟩ = false := h.sizes.frozen
  rw [hap] at a0
  rw [haq] at a1
  have HK := Lib.hid hak
  rw [hak] at a2
  rw [hz] at c5
  have H := Lib.hid h
  have HE : Hid (∀ o, Turned w R g1 g2 n m N (setLnk (setPrev (setNext f p q) q p) a ⟨a, a, -1⟩) (setSize s k z) (.bool true) (.returned (.bool true)) _) := fun o =>
    ⟨rfl, ((((((h.setNext p q).setPrev q p).setLnk a a a (-1)).setSize k z).alloc o).drew).drew, ((((((((Turn2.refl w g1 g2).set _ _ (.inl rfl)).set _ _ (.inl rfl)).set _ _ (.inl rfl)).set _ _ (.inl rfl)).set _ _ (.inl rfl)).set _ _ (.inr (.inl rfl))).alloc o).drew.drew⟩
  have hp0 : (0 : Int) ≤ (p : Int) := by omega
  have hp1 : (p : Int) < (N : Int) := by omega
  have hq0 : (0 : Int) ≤ (q : Int) := by omega
  have hq1 : (q : Int) < (N : Int) := by omega
  clear h c0 hN hap haq hak hz
  go_enter Try.func12, Try.ntmps12
  go_wp2_with fail
  refine (of_yes H.out a han k HK.out).mono ?_; rintro e w' ⟨rfl, rfl⟩
  go_wp2
  go_region
  go_wp2
  go_region
  go_wp2
  go_ret
  exact HE.out _
theorem remove_out {w : World} {R g1 g2 n m N : Nat} {f : Nat → Lnk} {s : Nat → Nat} (h : St w R g1 g2 n m N f s) (i : Int) (h0 : ¬ (0 ≤ i ∧ i < (n : Int))) :
    Calls Try.prog 12 #[.pointer (some ⟨R, 0, none⟩), .int .i64 i] w (Turned w R g1 g2 n m N f s (.bool false)) := by
  have H := Lib.hid h
  have H0 := Lib.hid h0
  clear h h0
  go_enter Try.func12, Try.ntmps12
  go_wp2_with fail
  refine (of_out H.out i H0.out).mono ?_; rintro e w' ⟨rfl, rfl⟩
  go_wp2
  go_ret
  exact ⟨rfl, H.out, Turn2.refl _ _ _⟩
theorem remove_free {w : World} {R g1 g2 n m N : Nat} {f : Nat → Lnk} {s : Nat → Nat} (h : St w R g1 g2 n m N f s) (i : Nat) (hi : i < n) (hk : (f i).list = -1) :
    Calls Try.prog 12 #[.pointer (some ⟨R, 0, none⟩), .int .i64 (i : Int)] w (Turned w R g1 g2 n m N f s (.bool false)) := by
  have H := Lib.hid h
  have H0 := Lib.hid hk
  clear h hk
  go_enter Try.func12, Try.ntmps12
  go_wp2_with fail
  refine (of_free H.out i hi H0.out).mono ?_; rintro e w' ⟨rfl, rfl⟩
  go_wp2
  go_ret
  exact ⟨rfl, H.out, Turn2.refl _ _ _⟩
theorem remove_nil (i : Int) (w : World) : Calls Try.prog 12 #[.pointer none, .int .i64 i] w fun e w' => e = .returned (.bool false) ∧ w = w' := by
  go_enter Try.func12, Try.ntmps12
  go_wp2_with fail
  refine (of_nil _ _).mono ?_; rintro e w' ⟨rfl, rfl⟩
  go_wp2
  go_ret
  exact ⟨rfl, rfl⟩
end Go.Proofs.Ytngfhcapjonkcaa.W
