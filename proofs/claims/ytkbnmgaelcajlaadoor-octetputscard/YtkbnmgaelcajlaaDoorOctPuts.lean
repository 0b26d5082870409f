/-
  The walk of the statement on Put and At. No conditions.
-/
import Derived.Test.YtkbnmgaelcajlaaDoorOctAll
import Derived.Deep.RegionHeld
import Derived.Deep.DrawnRows
namespace Go.Proofs.YtkbnmgaelcajlaaDoor.W
open Go.RowKit Oc
set_option linter.unusedVariables false
attribute [local go_sem ↓] Go.wp_at_zero Go.wp_at_succ

theorem bthen {w a b : World} (h : Below w.heap.size w a) (k : Below a.heap.size a b) : Below w.heap.size w b := h.trans (k.mono h.size)
theorem two_cells (w : World) (u v : Value) (T : TypeId) : (w.alloc (.cells #[u, v] T)).cell? ⟨w.heap.size, 0, none⟩ = some u ∧ (w.alloc (.cells #[u, v] T)).cell? ⟨w.heap.size, 1, none⟩ = some v := by
  have h := heap_alloc_new w (.cells #[u, v] T)
  exact ⟨by rw [cell_of_row _ _ _ _ _ _ h]; rfl, by rw [cell_of_row _ _ _ _ _ _ h]; rfl⟩
theorem join_new (A A2 : Option Addr) (n n2 c c2 : Nat) (xs ys : List UInt8) (w : World) (hn : n ≤ 1000000000) (hn2 : n2 ≤ 1000000000) (ho : Oct w A n xs) (ho2 : Oct w A2 n2 ys) :
    Calls Tryd.prog 12 #[.slice (some ⟨w.heap.size, 0, none⟩) 2 2] (w.alloc (.cells #[.slice A n c, .slice A2 n2 c2] 22)) fun e w' => ∃ v, e = .returned v ∧ Own w' 5 w.heap.size v (xs ++ ys) ∧ Below w.heap.size w w' := by
  obtain ⟨h0, h1⟩ := two_cells w (.slice A n c) (.slice A2 n2 c2) 22
  refine (join_two A A2 n n2 c c2 xs ys w.heap.size _ hn hn2 h0 h1 (ho.alloc _) (ho2.alloc _)).mono ?_
  rintro e w' ⟨v, rfl, o, b⟩
  exact ⟨v, rfl, o.more (by simp), ((Below.refl _ _).alloc (Nat.le_refl _) _).trans (b.mono (by simp))⟩

set_option maxHeartbeats 4000000 in
theorem puts_walk (A : Option Addr) (n c : Nat) (xs : List UInt8) (N : Nat) (k i : Int) (w : World) (hc : n ≤ c) (ho : Oct w A n xs) (hN : N < 18446744073709551616) (he : Env w) :
    Calls Tryd.prog 3 #[.slice A n c, .int .u64 (N : Int), .int .i64 k, .int .i64 i] w fun e w' => e = .returned (.bool true) ∧ Below w.heap.size w w' := by
  obtain ⟨m, hm⟩ : ∃ m, m = min n 200 := ⟨_, rfl⟩
  have hm2 : m ≤ 200 := by omega
  have hmc : m ≤ c := by omega
  obtain ⟨ys, eys⟩ : ∃ ys, xs.take m = ys := ⟨_, rfl⟩
  have hys : Oct w A m ys := by rw [← eys]; exact ho.take (by omega)
  obtain ⟨zs, ezs⟩ : ∃ zs, putOf N k = zs := ⟨_, rfl⟩
  obtain ⟨ts, ets⟩ : ∃ ts, ys ++ zs = ts := ⟨_, rfl⟩
  obtain ⟨nz, enz⟩ : ∃ nz, zs.length = nz := ⟨_, rfl⟩
  obtain ⟨nt, ent⟩ : ∃ nt, ts.length = nt := ⟨_, rfl⟩
  have hnz : nz ≤ 8 := by rw [← enz, ← ezs]; exact putOf_length N k
  have EZ := Lib.hid ezs
  have ET := Lib.hid ets
  have ENZ := Lib.hid enz
  have ENT := Lib.hid ent
  clear ezs ets enz ent
  have HM := Lib.hid hm
  have HO := Lib.hid hys
  have HN := Lib.hid hN
  have HE := Lib.hid he
  clear hm hys hN he ho eys
  go_enter Tryd.func3, Tryd.ntmps3
  go_wp2_with fail
  refine (few_any _ _ _ m _ HM.out hc).mono ?_; rintro e w' ⟨rfl, rfl⟩
  go_wp2_with fail
  refine (at_any _ _ _ _ _ _ _ (by omega) HO.out).mono ?_; rintro e w' ⟨rfl, rfl⟩
  go_wp2_with fail
  refine (rat_any _ _ _ _ _ _ _ (by omega) hmc HO.out).mono ?_; rintro e w' ⟨rfl, rfl⟩
  go_wp2_with fail
  go_region_held (fun _ => True) (exact trivial) (first
    | (go_at_call 11; (with_reducible refine (put_any _ _ _ _ N _ _ (by omega) HO.out.drew HN.out).mono ?_); rintro e w1 ⟨v1, rfl, o1, b1⟩; rw [EZ.out, ET.out] at o1; obtain ⟨A1, c1, rfl, l1, s1⟩ := o1.form ENT.out; have S1 := Lib.hid s1; have B1 : Hid (Below w.heap.size w w1) := below_of_drew b1; have cv1 := s1.conv bt Tryd.underlying9 c1; clear o1 b1 s1 l1)
    | (go_at_call 13; (with_reducible refine (num_any N _ _ HN.out).mono ?_); rintro e w2 ⟨v2, rfl, o2, b2⟩; rw [EZ.out] at o2; obtain ⟨A2, c2, rfl, l2, s2⟩ := o2.form ENZ.out; have S2 := Lib.hid s2; have B2 := Lib.hid b2; have cv2 := (S1.out.below b2).conv bt Tryd.underlying9 c1; have cv5 := fun o => ((S1.out.below b2).alloc o).conv bt Tryd.underlying9 c1; clear o2 b2 s2 l2)
    | (go_at_call 12; ((with_reducible refine (join_new A A2 m nz c c2 ys zs w2 (by omega) (by omega) ((HO.out.below B1.out).below B2.out) S2.out).mono ?_); rintro e w3 ⟨v3, rfl, o3, b3⟩; rw [ET.out] at o3; obtain ⟨A3, c3, rfl, l3, s3⟩ := o3.form ENT.out; have B3 := Lib.hid b3; have cv3 := s3.conv bt Tryd.underlying9 c3; have cv4 := ((S1.out.below B2.out).below B3.out).conv bt Tryd.underlying9 c1; clear o3 b3 s3 l3))
    | (go_at_call 14; (with_reducible refine (awake_any _ (((HE.out.below B1.out).below B2.out).below B3.out)).mono ?_); rintro e w4 ⟨rfl, b4⟩; have B4 := Lib.hid b4; clear b4))
  all_goals go_wp2
  all_goals (go_ret; exact ⟨rfl, bthen (bthen (bthen B1.out B2.out) B3.out) B4.out⟩)

theorem nat_u64 {a : Int} (h : (Lit.int .u64 a).wf = true) : ∃ N : Nat, a = (N : Int) ∧ N < 18446744073709551616 := by
  simp [Lit.wf, IntKind.min, IntKind.max, IntKind.signed, IntKind.bits] at h
  exact ⟨a.toNat, by omega, by omega⟩
theorem puts_law (w : World) (A : Option Addr) (n c : Nat) (xs : List UInt8) (hc : n ≤ c) (hm : c ≤ maxLen) (ho : Oct w A n xs) (N : Int) (hN : (Lit.int .u64 N).wf = true) (k : Int) (hk : (Lit.int .i64 k).wf = true) (i : Int) (hi : (Lit.int .i64 i).wf = true) (he : Env w) :
    Calls Tryd.prog 3 #[.slice A n c, .int .u64 N, .int .i64 k, .int .i64 i] w fun e w' => e = .returned (.bool true) ∧ Below w.heap.size w w' := by
  obtain ⟨M, rfl, hM⟩ := nat_u64 hN
  exact puts_walk A n c xs M k i w hc ho hM he
end Go.Proofs.YtkbnmgaelcajlaaDoor.W
