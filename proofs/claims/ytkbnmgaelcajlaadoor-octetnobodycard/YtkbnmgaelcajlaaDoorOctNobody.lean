/-
  The walk of the statement on readers that nobody made. No conditions.
-/
import Derived.Test.YtkbnmgaelcajlaaDoorOctAll
namespace Go.Proofs.YtkbnmgaelcajlaaDoor.W
open Go.RowKit Oc
set_option linter.unusedVariables false

theorem bthen3 {w a b : World} (h : Below w.heap.size w a) (k : Below a.heap.size a b) : Below w.heap.size w b := h.trans (k.mono h.size)
/-- a pair without octets stays where its block stays -/
theorem rd_keep {w w' : World} {T : TypeId} {R : Nat} {g : Bool} (h : Rd w T R [] g) (hk : w'.heap[R]? = w.heap[R]?) : Rd w' T R [] g := by
  obtain ⟨A, c, hh, hc, ho⟩ := h
  exact ⟨A, c, hk.trans hh, hc, Oct.nil _ _⟩
/-- one more -/
def up (z : UInt8) : UInt8 := UInt8.ofNat (z.toNat + 1)
theorem up_val (z : UInt8) : ((z.toNat : Int) + 1) % 256 = ((up z).toNat : Int) := by
  unfold up
  simp
/-- a cell of a row of the call's own, read and written -/
theorem own_at {w : World} {e : TypeId} {B m c : Nat} {A : Option Addr} {zs : List UInt8} {j : Nat} (h : Own w e B (.slice A m c) zs) (hl : zs.length = m) (hj : j < m) :
    ∃ g z, A = some ⟨g, 0, none⟩ ∧ B ≤ g ∧ zs[j]? = some z ∧ w.cell? ⟨g, j, none⟩ = some (.int .u8 (z.toNat : Int)) ∧ w.frozen? ⟨g, j, none⟩ = false ∧
      ∀ y : UInt8, Own (w.setCell ⟨g, j, none⟩ (.int .u8 (y.toNat : Int))) e B (.slice A m c) (zs.set j y) := by
  have hjl : j < zs.length := by omega
  have h' : w.ownsRow B e 1 (.slice A m c) zs.length (zs.map ov) := h
  rcases h.2 with ⟨_, h0⟩ | ⟨g, cap, cur, hv, hb, hh, hn, hm, hs, ht⟩
  · omega
  · injection hv with h1 h2 h3
    subst h1 h2 h3
    refine ⟨g, zs[j], rfl, hb, List.getElem?_eq_getElem hjl, ?_, World.ownsRow.frozenAt h' j, fun y => ?_⟩
    · rw [World.ownsRow.cellAt h' j (by omega)]
      simp [hjl, ov]
    · have := (World.ownsRow.stored h' j (.int .u8 (y.toNat : Int))).1
      unfold Own
      rw [List.length_set, List.map_set]
      exact this

set_option maxHeartbeats 4000000 in
theorem nobody_walk (A : Option Addr) (n c : Nat) (xs : List UInt8) (q k : Int) (w : World) (hc : n ≤ c) (ho : Oct w A n xs) (he : Env w) :
    Calls Tryd.prog 7 #[.slice A n c, .int .i64 q, .int .i64 k] w fun e w' => e = .returned (.bool true) ∧ Below w.heap.size w w' := by
  obtain ⟨m, hm⟩ : ∃ m, m = min n 200 := ⟨_, rfl⟩
  have hm2 : m ≤ 200 := by omega
  have hmc : m ≤ c := by omega
  obtain ⟨ys, eys⟩ : ∃ ys, xs.take m = ys := ⟨_, rfl⟩
  have hys : Oct w A m ys := by rw [← eys]; exact ho.take (by omega)
  have hyl : Hid (ys.length = m) := hys.len
  have HM := Lib.hid hm
  have HO := Lib.hid hys
  have HE := Lib.hid he
  clear hm hys he ho eys
  have cv0 := fun o => (HO.out.alloc o).conv bt Tryd.underlying9 c
  go_enter Tryd.func7, Tryd.ntmps7
  go_wp2_with fail
  refine (few_any _ _ _ m _ HM.out hc).mono ?_; rintro e w' ⟨rfl, rfl⟩
  go_wp2_with fail
  refine (read_any _ _ _ ys _ (by omega) (HO.out.alloc _)).mono ?_; rintro e w2 ⟨R, rfl, hR, r2, b2⟩
  have hR : w.heap.size + 1 ≤ R := by simpa using hR
  have D1 : Rd (w.alloc (.cells #[.slice none 0 0, .bool false] 52)) 52 w.heap.size [] false := rd_new (Oct.nil w none) (Nat.le_refl _) _ _
  have D2 := Lib.hid (D1.below b2)
  have B2 : Hid (Below w.heap.size w w2) := bthen3 ((Below.refl _ _).alloc (Nat.le_refl _) _) b2
  have R2 := Lib.hid r2
  have hw2 : w.heap.size + 1 ≤ w2.heap.size := by have := b2.size; simpa using this
  clear cv0 r2 b2 D1
  go_wp2_with fail
  refine (bytes_take m R2.out (by rw [hyl.out]; omega) (by rw [hyl.out]; exact Nat.le_refl _)).mono ?_; rintro e w3 ⟨v3, rfl, o3, r3, g3⟩
  obtain ⟨A3, c3, rfl, l3, s3⟩ := o3.form (n := m) (by rw [List.length_take, hyl.out]; omega)
  have B3 : Hid (Below w.heap.size w w3) := B2.out.trans (below_of_grown g3 B2.out.size (by omega))
  have D3 := Lib.hid (rd_keep D2.out (g3.block _ (by omega) (fun e => by injection e with e; omega)))
  have O3 := Lib.hid o3
  have hw3 : w2.heap.size ≤ w3.heap.size := g3.size
  clear o3 r3 g3 l3 s3
  go_wp2
  go_loopw [11] (fun i wr => ∃ (j : Nat) (zs : List UInt8), j ≤ m ∧ i = .int .i64 j ∧ Hid (zs.length = m) ∧ Hid (Own wr 5 w2.heap.size (.slice A3 m c3) zs) ∧ Hid (Below w2.heap.size w3 wr)) (fun i _ => m - (intOf i).toNat)
  case atStart => exact ⟨0, _, by omega, rfl, by rw [List.length_take, hyl.out]; show min m m = m; omega, O3, Below.refl _ _⟩
  case round =>
    obtain ⟨j, zs, hj, rfl, EZ, OJ, BJ⟩ := hrel
    by_cases hlt : j < m
    · obtain ⟨g, z, rfl, hg, hz, hcell, hfro, hst⟩ := own_at OJ.out EZ.out hlt
      have HS := Lib.hid hst
      clear hz hst
      go_wp2
      go_roundw
      case rel => exact ⟨j + 1, zs.set j (up z), by omega, by go_num, by show _ = _; rw [List.length_set]; exact EZ.out, by rw [up_val]; exact HS.out (up z), BJ.out.setCell hg _⟩
      case measure => simp [intOf]; omega
    · have : j = m := by omega
      subst this
      have D4 := Lib.hid (rd_keep D3.out (BJ.out.block _ (by omega)))
      have B4 : Hid (Below w.heap.size w wr) := B3.out.trans (BJ.out.mono (by omega))
      have cv := (HO.out.below B4.out).conv bt Tryd.underlying9 c
      go_wp2_with fail
      refine (u_nil _ _).mono ?_; rintro e w' ⟨rfl, rfl⟩
      go_wp2_with fail
      refine (u_bad _ D4.out).mono ?_; rintro e w' ⟨rfl, rfl⟩
      go_wp2_with fail
      refine (bytes_nil _ _).mono ?_; rintro e w' ⟨rfl, rfl⟩
      go_wp2_with fail
      refine (bytes_bad _ D4.out).mono ?_; rintro e w' ⟨rfl, rfl⟩
      go_wp2_with fail
      refine (left_nil _).mono ?_; rintro e w' ⟨rfl, rfl⟩
      go_wp2_with fail
      refine (left_bad D4.out).mono ?_; rintro e w' ⟨rfl, rfl⟩
      go_wp2_with fail
      refine (bad_nil _).mono ?_; rintro e w' ⟨rfl, rfl⟩
      go_wp2_with fail
      refine (bad_rd D4.out).mono ?_; rintro e w' ⟨rfl, rfl⟩
      go_wp2_with fail
      refine (done_nil _).mono ?_; rintro e w' ⟨rfl, rfl⟩
      go_wp2_with fail
      refine (done_bad D4.out).mono ?_; rintro e w' ⟨rfl, rfl⟩
      go_wp2_with fail
      refine (awake_any _ (HE.out.below B4.out)).mono ?_; rintro e w7 ⟨rfl, b7⟩
      have B7 := Lib.hid (bthen3 B4.out b7)
      clear b7 cv
      go_wp2
      go_ret
      exact ⟨rfl, B7.out⟩

theorem nobody_law (w : World) (A : Option Addr) (n c : Nat) (xs : List UInt8) (hc : n ≤ c) (hm : c ≤ maxLen) (ho : Oct w A n xs) (q : Int) (hq : (Lit.int .i64 q).wf = true) (k : Int) (hk : (Lit.int .i64 k).wf = true) (he : Env w) :
    Calls Tryd.prog 7 #[.slice A n c, .int .i64 q, .int .i64 k] w fun e w' => e = .returned (.bool true) ∧ Below w.heap.size w w' := nobody_walk A n c xs q k w hc ho he
end Go.Proofs.YtkbnmgaelcajlaaDoor.W
