/-
  Contract of fits. No conditions.
-/
import Derived.Test.YtngfhcapjonkcaaLsAll
import Derived.Deep.RegionHeld
import Derived.Deep.DrawnRows
namespace Go.Proofs.Ytngfhcapjonkcaa.Ls
open W
set_option linter.unusedVariables false

/-- where a link stands in its ring -/
structure Beside (f : Nat → Lnk) (n m at_ k p q : Nat) : Prop where
  km : k < m
  me : f at_ = ⟨p, q, (k : Int)⟩
  pn : p < n + m
  qn : q < n + m
  pf : (f p).next = at_
  qf : (f q).prev = at_
  pk : (f p).list = (k : Int)
  qk : (f q).list = (k : Int)
  hd : n ≤ at_ → at_ = n + k
theorem lnk_ext {l : Lnk} {p q : Nat} {k : Int} (h1 : l.prev = p) (h2 : l.next = q) (h3 : l.list = k) : l = ⟨p, q, k⟩ := by cases l; simp_all
theorem fit_at {n : Nat} {L : List (List Nat)} {f : Nat → Lnk} (hO : Ok n L) (hF : Fit n L f) (a : Nat) (ha : a < n + L.length) :
    (a < n ∧ f a = ⟨a, a, -1⟩ ∧ ∀ (k : Nat) (r : List Nat), L[k]? = some r → a ∉ r) ∨ ∃ k p q, Beside f n L.length a k p q ∧ (a < n → a ∈ rowOf L k) := by
  have ring : ∀ (k : Nat) (r u v u' v' : List Nat) (p q : Nat), L[k]? = some r → (n + k) :: r = u ++ a :: v → (p ∈ r ∨ p = n + k) → (q ∈ r ∨ q = n + k) → (f p).next = a → (f a).prev = p → (f a).next = q → (f q).prev = a → (n ≤ a → a = n + k) → Beside f n L.length a k p q := by
    intro k r u v u' v' p q hk e hp hq h1 h2 h3 h4 h5
    have hkl := (List.getElem?_eq_some_iff.1 hk).1
    have hpm : p ∈ (n + k) :: r := by rcases hp with h | h <;> simp [h]
    have hqm : q ∈ (n + k) :: r := by rcases hq with h | h <;> simp [h]
    have ham : a ∈ (n + k) :: r := by rw [e]; simp
    refine ⟨hkl, lnk_ext h2 h3 (hF.list k r hk a ham), ?_, ?_, h1, h4, hF.list k r hk p hpm, hF.list k r hk q hqm, h5⟩
    · rcases hp with h | h
      · have := hO.lt k r hk _ h; omega
      · omega
    · rcases hq with h | h
      · have := hO.lt k r hk _ h; omega
      · omega
  by_cases hn : a < n
  · rcases where_is L a with ⟨k, u, v, hk⟩ | hno
    · refine .inr ?_
      obtain ⟨u', p, e1, hp⟩ := last_of (n + k) u
      obtain ⟨q, v', e2, hq⟩ := first_of v (n + k)
      have hl := hF.ring k _ hk
      have ec : (n + k) :: (u ++ a :: v) ++ [n + k] = u' ++ p :: a :: q :: v' := by
        have : (n + k) :: (u ++ a :: v) ++ [n + k] = ((n + k) :: u) ++ a :: (v ++ [n + k]) := by simp
        rw [this, e1, e2]; simp
      rw [ec] at hl
      have m1 := Lk.mid u' (q :: v') hl
      have hl2 : Lk f ((u' ++ [p]) ++ a :: q :: v') := by simpa using hl
      have m2 := Lk.mid (u' ++ [p]) v' hl2
      refine ⟨k, p, q, ring k _ ((n + k) :: u) v u' v' p q hk rfl (hp.imp_left fun h => by simp [h]) (hq.imp_left fun h => by simp [h]) m1.1 m1.2 m2.1 m2.2 (fun h => by omega), fun _ => ?_⟩
      unfold rowOf
      rw [hk]
      simp
    · exact .inl ⟨hn, hF.free a hn hno, hno⟩
  · refine .inr ?_
    obtain ⟨k, hk⟩ : ∃ k, a = n + k := ⟨a - n, by omega⟩
    subst hk
    have hkl : k < L.length := by omega
    have hr := rowOf_at hkl
    obtain ⟨u', p, e1, hp⟩ := last_of (n + k) (rowOf L k)
    obtain ⟨q, v', e2, hq⟩ := first_of (rowOf L k) (n + k)
    have hl := hF.ring k _ hr
    have ec1 : (n + k) :: rowOf L k ++ [n + k] = u' ++ p :: (n + k) :: [] := by rw [e1]; simp
    have ec2 : (n + k) :: rowOf L k ++ [n + k] = [] ++ (n + k) :: q :: v' := by rw [List.cons_append, e2]; rfl
    have m1 := Lk.mid u' [] (ec1 ▸ hl)
    have m2 := Lk.mid [] v' (ec2 ▸ hl)
    exact ⟨k, p, q, ring k _ [] (rowOf L k) u' v' p q hr rfl hp hq m1.1 m1.2 m2.1 m2.2 (fun _ => rfl), fun h => by omega⟩
end Go.Proofs.Ytngfhcapjonkcaa.Ls

namespace Go.Proofs.Ytngfhcapjonkcaa.W
open Go.RowKit Rw Ls
set_option linter.unusedVariables false

set_option maxHeartbeats 4000000 in
theorem fits_free {w : World} {R g1 g2 n m N : Nat} {f : Nat → Lnk} {s : Nat → Nat} (h : St w R g1 g2 n m N f s) (a : Nat) (ha : a < n) (hf : f a = ⟨a, a, -1⟩) :
    Calls Try.prog 33 #[.pointer (some ⟨R, 0, none⟩), .int .i64 (a : Int)] w fun e w' => e = .returned (.bool true) ∧ Below w.heap.size w w' := by
  obtain ⟨c0, c1, c2⟩ := h.cells
  have hsum := h.sum
  have hn := h.hn
  have hm := h.hm
  have haN : a < N := by omega
  have a0 := h.prev haN
  have a1 := h.next haN
  have a2 := h.list haN
  rw [hf] at a0 a1 a2
  obtain ⟨l0, l1, l2⟩ := h.lt
  have r0 : R ≠ w.heap.size := by omega
  have r1 : g1 ≠ w.heap.size := by omega
  have r2 : g2 ≠ w.heap.size := by omega
  have H := Lib.hid h
  clear h hf c2 hsum
  go_enter Try.func33, Try.ntmps33
  go_wp2_with fail
  refine (hasLink_yes (H.out.alloc _) a haN).mono ?_; rintro e w' ⟨rfl, rfl⟩
  go_wp2_with fail
  refine (hasLink_yes (H.out.alloc _) a haN).mono ?_; rintro e w' ⟨rfl, rfl⟩
  go_wp2
  go_ret
  exact ⟨rfl, (Below.refl _ _).alloc (Nat.le_refl _) _⟩

theorem fits_box {w w1 : World} {R g1 g2 n m N : Nat} {f : Nat → Lnk} {s : Nat → Nat} {p q : Nat} {k : Int} (h : St w R g1 g2 n m N f s) (e : w.alloc (.cells #[.int .i64 (p : Int), .int .i64 (q : Int), .int .i64 k] 50) = w1) :
    St w1 R g1 g2 n m N f s ∧ w1.cell? ⟨w.heap.size, 0, none⟩ = some (.int .i64 (p : Int)) ∧ w1.cell? ⟨w.heap.size, 1, none⟩ = some (.int .i64 (q : Int)) ∧ w1.cell? ⟨w.heap.size, 2, none⟩ = some (.int .i64 k) ∧ Below w.heap.size w w1 ∧ w.heap.size < w1.heap.size := by
  subst e
  refine ⟨h.alloc _, ?_, ?_, ?_, (Below.refl _ _).alloc (Nat.le_refl _) _, by simp⟩
  · rw [cell_of_row _ _ _ _ _ _ (heap_alloc_new w _)]; rfl
  · rw [cell_of_row _ _ _ _ _ _ (heap_alloc_new w _)]; rfl
  · rw [cell_of_row _ _ _ _ _ _ (heap_alloc_new w _)]; rfl

set_option maxHeartbeats 8000000 in
theorem fits_in {w : World} {R g1 g2 n m N : Nat} {f : Nat → Lnk} {s : Nat → Nat} (h : St w R g1 g2 n m N f s) (a k p q : Nat) (ha : a < n) (hb : Beside f n m a k p q) :
    Calls Try.prog 33 #[.pointer (some ⟨R, 0, none⟩), .int .i64 (a : Int)] w fun e w' => e = .returned (.bool true) ∧ Below w.heap.size w w' := by
  obtain ⟨c0, c1, c2⟩ := h.cells
  have hsum := h.sum
  have hn := h.hn
  have hm := h.hm
  obtain ⟨km, me, pn, qn, pf, qf, pk, qk, hd⟩ := hb
  rw [hsum] at pn qn
  have haN : a < N := by omega
  have a0 := h.prev haN
  have a1 := h.next haN
  have a2 := h.list haN
  rw [me] at a0 a1 a2
  have p0 := h.prev pn
  have p1 := h.next pn
  have p2 := h.list pn
  rw [pf] at p1
  rw [pk] at p2
  have q0 := h.prev qn
  have q1 := h.next qn
  have q2 := h.list qn
  rw [qf] at q0
  rw [qk] at q2
  obtain ⟨l0, l1, l2⟩ := h.lt
  have r0 : R ≠ w.heap.size := by omega
  have r1 : g1 ≠ w.heap.size := by omega
  have r2 : g2 ≠ w.heap.size := by omega
  have H := Lib.hid h
  have i0 : (0 : Int) ≤ (p : Int) := by omega
  have i1 : (p : Int) < (N : Int) := by omega
  have j0 : (0 : Int) ≤ (q : Int) := by omega
  have j1 : (q : Int) < (N : Int) := by omega
  have PF := Lib.hid pf
  have PK := Lib.hid pk
  have QF := Lib.hid qf
  have QK := Lib.hid qk
  clear h me pf qf pk qk hd hsum c2
  go_enter Try.func33, Try.ntmps33
  go_wp2_with fail
  refine (hasLink_yes (H.out.alloc _) p pn).mono ?_; rintro e w' ⟨rfl, rfl⟩
  go_wp2_with fail
  refine (hasLink_yes (H.out.alloc _) q qn).mono ?_; rintro e w' ⟨rfl, rfl⟩
  go_wp2_with fail
  obtain ⟨b, hb⟩ : ∃ b, w.heap.size = b := ⟨_, rfl⟩
  obtain ⟨w1, hw1⟩ : ∃ w1, w.alloc (.cells #[.int .i64 (p : Int), .int .i64 (q : Int), .int .i64 (k : Int)] 50) = w1 := ⟨_, rfl⟩
  obtain ⟨st1, b0, b1, b2, bel1, bl⟩ := fits_box H.out hw1
  rw [hw1]
  rw [hb] at b0 b1 b2 bl r0 r1 r2 ⊢
  have S1 := Lib.hid st1
  have B1 : Hid (Below b w w1) := hb ▸ bel1
  have HB := Lib.hid hb
  clear c0 c1 a0 a1 a2 p0 p1 p2 q0 q1 q2 l0 l1 l2
  obtain ⟨c0, c1, c2⟩ := st1.cells
  have p0 := st1.prev pn
  have p1 := st1.next pn
  have p2 := st1.list pn
  rw [PF.out] at p1
  rw [PK.out] at p2
  have q0 := st1.prev qn
  have q1 := st1.next qn
  have q2 := st1.list qn
  rw [QF.out] at q0
  rw [QK.out] at q2
  obtain ⟨pp, hpp⟩ : ∃ pp, (f p).prev = pp := ⟨_, rfl⟩
  obtain ⟨qq, hqq⟩ : ∃ qq, (f q).next = qq := ⟨_, rfl⟩
  rw [hpp] at p0
  rw [hqq] at q1
  clear hpp hqq
  obtain ⟨l0, l1, l2⟩ := st1.lt
  have s0 : R ≠ w1.heap.size := by omega
  have s1 : g1 ≠ w1.heap.size := by omega
  have s2 : b ≠ w1.heap.size := by omega
  have t0 : R ≠ w1.heap.size + 1 := by omega
  have t1 : g1 ≠ w1.heap.size + 1 := by omega
  have t2 : b ≠ w1.heap.size + 1 := by omega
  clear st1 bel1 hb hw1 c0 c2
  go_region_held (fun w' => w'.cell? ⟨R, 1, none⟩ = some (.slice (some ⟨g1, 0, none⟩) N N) ∧ w'.cell? ⟨b, 0, none⟩ = some (.int .i64 (p : Int)) ∧ w'.cell? ⟨b, 1, none⟩ = some (.int .i64 (q : Int)) ∧ w'.cell? ⟨g1, p * 3, none⟩ = some (.int .i64 (pp : Int)) ∧ w'.cell? ⟨g1, p * 3 + 1, none⟩ = some (.int .i64 (a : Int)) ∧ w'.cell? ⟨g1, p * 3 + 2, none⟩ = some (.int .i64 (k : Int)) ∧ w'.cell? ⟨g1, q * 3, none⟩ = some (.int .i64 (a : Int)) ∧ w'.cell? ⟨g1, q * 3 + 1, none⟩ = some (.int .i64 (qq : Int)) ∧ w'.cell? ⟨g1, q * 3 + 2, none⟩ = some (.int .i64 (k : Int))) (go_keep) (fail)
  all_goals
    go_wp2_with fail
    refine (hasList_yes ((S1.out.alloc _).alloc _).drew _ (by omega) (by omega)).mono ?_; rintro e w' ⟨rfl, rfl⟩
    go_wp2
    go_ret
    exact ⟨rfl, by rw [HB.out]; exact ((B1.out.alloc (by omega) _).alloc (by simp; omega) _).drew⟩

set_option maxHeartbeats 8000000 in
theorem fits_head {w : World} {R g1 g2 n m N : Nat} {f : Nat → Lnk} {s : Nat → Nat} (h : St w R g1 g2 n m N f s) (a k p q : Nat) (ha : n ≤ a) (haN : a < N) (hb : Beside f n m a k p q) :
    Calls Try.prog 33 #[.pointer (some ⟨R, 0, none⟩), .int .i64 (a : Int)] w fun e w' => e = .returned (.bool true) ∧ Below w.heap.size w w' := by
  obtain ⟨c0, c1, c2⟩ := h.cells
  have hsum := h.sum
  have hn := h.hn
  have hm := h.hm
  obtain ⟨km, me, pn, qn, pf, qf, pk, qk, hd⟩ := hb
  rw [hsum] at pn qn
  have a0 := h.prev haN
  have a1 := h.next haN
  have a2 := h.list haN
  rw [me] at a0 a1 a2
  obtain ⟨l0, l1, l2⟩ := h.lt
  have r0 : R ≠ w.heap.size := by omega
  have r1 : g1 ≠ w.heap.size := by omega
  have r2 : g2 ≠ w.heap.size := by omega
  have H := Lib.hid h
  have i0 : (0 : Int) ≤ (p : Int) := by omega
  have i1 : (p : Int) < (N : Int) := by omega
  have j0 : (0 : Int) ≤ (q : Int) := by omega
  have j1 : (q : Int) < (N : Int) := by omega
  have PF := Lib.hid pf
  have PK := Lib.hid pk
  have QF := Lib.hid qf
  have QK := Lib.hid qk
  have HD : Hid (n + k = a) := (hd ha).symm
  clear h me pf qf pk qk hd hsum c2
  go_enter Try.func33, Try.ntmps33
  go_wp2_with fail
  refine (hasLink_yes (H.out.alloc _) p pn).mono ?_; rintro e w' ⟨rfl, rfl⟩
  go_wp2_with fail
  refine (hasLink_yes (H.out.alloc _) q qn).mono ?_; rintro e w' ⟨rfl, rfl⟩
  go_wp2_with fail
  refine (head_any (H.out.alloc _) k (by omega) a HD.out).mono ?_; rintro e w' ⟨rfl, rfl⟩
  go_wp2_with fail
  obtain ⟨b, hb⟩ : ∃ b, w.heap.size = b := ⟨_, rfl⟩
  obtain ⟨w1, hw1⟩ : ∃ w1, w.alloc (.cells #[.int .i64 (p : Int), .int .i64 (q : Int), .int .i64 (k : Int)] 50) = w1 := ⟨_, rfl⟩
  obtain ⟨st1, b0, b1, b2, bel1, bl⟩ := fits_box H.out hw1
  rw [hw1]
  rw [hb] at b0 b1 b2 bl r0 r1 r2 ⊢
  have S1 := Lib.hid st1
  have B1 : Hid (Below b w w1) := hb ▸ bel1
  have HB := Lib.hid hb
  clear c0 c1 a0 a1 a2 l0 l1 l2
  obtain ⟨c0, c1, c2⟩ := st1.cells
  have p0 := st1.prev pn
  have p1 := st1.next pn
  have p2 := st1.list pn
  rw [PF.out] at p1
  rw [PK.out] at p2
  have q0 := st1.prev qn
  have q1 := st1.next qn
  have q2 := st1.list qn
  rw [QF.out] at q0
  rw [QK.out] at q2
  obtain ⟨pp, hpp⟩ : ∃ pp, (f p).prev = pp := ⟨_, rfl⟩
  obtain ⟨qq, hqq⟩ : ∃ qq, (f q).next = qq := ⟨_, rfl⟩
  rw [hpp] at p0
  rw [hqq] at q1
  clear hpp hqq
  obtain ⟨l0, l1, l2⟩ := st1.lt
  have s0 : R ≠ w1.heap.size := by omega
  have s1 : g1 ≠ w1.heap.size := by omega
  have s2 : b ≠ w1.heap.size := by omega
  have t0 : R ≠ w1.heap.size + 1 := by omega
  have t1 : g1 ≠ w1.heap.size + 1 := by omega
  have t2 : b ≠ w1.heap.size + 1 := by omega
  clear st1 bel1 hb hw1 c0 c2
  go_region_held (fun w' => w'.cell? ⟨R, 1, none⟩ = some (.slice (some ⟨g1, 0, none⟩) N N) ∧ w'.cell? ⟨b, 0, none⟩ = some (.int .i64 (p : Int)) ∧ w'.cell? ⟨b, 1, none⟩ = some (.int .i64 (q : Int)) ∧ w'.cell? ⟨g1, p * 3, none⟩ = some (.int .i64 (pp : Int)) ∧ w'.cell? ⟨g1, p * 3 + 1, none⟩ = some (.int .i64 (a : Int)) ∧ w'.cell? ⟨g1, p * 3 + 2, none⟩ = some (.int .i64 (k : Int)) ∧ w'.cell? ⟨g1, q * 3, none⟩ = some (.int .i64 (a : Int)) ∧ w'.cell? ⟨g1, q * 3 + 1, none⟩ = some (.int .i64 (qq : Int)) ∧ w'.cell? ⟨g1, q * 3 + 2, none⟩ = some (.int .i64 (k : Int))) (go_keep) (fail)
  all_goals
    go_wp2_with fail
    refine (hasList_yes ((S1.out.alloc _).alloc _).drew _ (by omega) (by omega)).mono ?_; rintro e w' ⟨rfl, rfl⟩
    go_wp2
    go_ret
    exact ⟨rfl, by rw [HB.out]; exact ((B1.out.alloc (by omega) _).alloc (by simp; omega) _).drew⟩

theorem fits_any {w : World} {R g1 g2 n : Nat} {L : List (List Nat)} {f : Nat → Lnk} {s : Nat → Nat} (h : Li w R g1 g2 n L f s) (a : Nat) (ha : a < n + L.length) :
    Calls Try.prog 33 #[.pointer (some ⟨R, 0, none⟩), .int .i64 (a : Int)] w fun e w' => e = .returned (.bool true) ∧ Below w.heap.size w w' := by
  rcases fit_at h.ok h.fit a ha with ⟨h1, h2, _⟩ | ⟨k, p, q, hb, _⟩
  · exact fits_free h.st a h1 h2
  · by_cases hn : a < n
    · exact fits_in h.st a k p q hn hb
    · exact fits_head h.st a k p q (by omega) ha hb
end Go.Proofs.Ytngfhcapjonkcaa.W
