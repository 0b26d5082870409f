/-
  The document's log: Open, Room, Cut, Begin, Append, Same. No conditions.
-/
import Derived.Test.YtikbbikcacoobaaGreatDoorIvRead
import Derived.BigQuiet
import Derived.Deep.RegionHeld
import Derived.Deep.DrawnRows
namespace Go.Proofs.YtikbbikcacoobaaGreatDoor.Pd.Iv
open Go.RowKit Oc Dm W Dw Sr
set_option linter.unusedVariables false
set_option maxRecDepth 100000
attribute [local go_sem ↓] Go.wp_at_zero Go.wp_at_succ

section
variable {w w' : World} {G : Nat → Prop} {E q n N la lg f ep T B : Nat} {m : Vs} {p : Pn.Pl} {g : Lg} {TT : TypeId}
/-- where a device's power is told -/
theorem RD.offcells (h : RD w G E q n N m) : w.cell? ⟨E, 0, none⟩ = some (.pointer (some ⟨q, 0, none⟩)) ∧ w.cell? ⟨q, 0, none⟩ = some (.bool m.s.off) := by
  obtain ⟨gs, vs, x⟩ := h.rv
  obtain ⟨l, hh, _⟩ := h.qw.head
  exact ⟨x.cells.1, by rw [cell_of_row _ _ _ _ _ _ hh]; rfl⟩
theorem ropen_off (h : RD w G E q n N m) (ho : m.s.off = true) (f ep : Nat) : Calls Tryz.prog 63 #[.pointer (some ⟨E, 0, none⟩), (.agg #[.int .i64 p.a0, .int .i64 p.a1, .int .i64 p.a2, .int .i64 p.a3, .int .i64 p.a4, .int .i64 p.a5, .int .i64 p.a6, .int .i64 p.a7, .int .i64 p.a8, .int .i64 p.a9, .int .i64 p.a10, .int .i64 p.a11, .int .i64 p.a12]), .int .u64 (f : Int), .int .u64 (ep : Int)] w fun e w' => e = .returned (.tuple #[.pointer none, .slice none 0 0, .int .i64 80]) ∧ Below w.heap.size w w' := by
  obtain ⟨c0, c1⟩ := RD.offcells (h.below (balloc w (.cells #[.int .i64 p.a0, .int .i64 p.a1, .int .i64 p.a2, .int .i64 p.a3, .int .i64 p.a4, .int .i64 p.a5, .int .i64 p.a6, .int .i64 p.a7, .int .i64 p.a8, .int .i64 p.a9, .int .i64 p.a10, .int .i64 p.a11, .int .i64 p.a12] 39)))
  rw [ho] at c1
  clear h ho
  go_enter Tryz.func63, Tryz.ntmps63
  go_wp2
  go_ret3
  exact ⟨rfl, balloc _ _⟩
set_option maxHeartbeats 2000000 in
theorem ropen_yes (h : RD w G E q n N m) (hp : Pln p la lg n) (hz : ∀ i, i < n → (m.S i).stands.length = 64) (ho : m.s.off = false) (hf : f ≤ most) (hep : ep ≤ most) (R : List Rc × Vs) (hR : rdl la lg ep lg f 0 m = R) :
    Calls Tryz.prog 63 #[.pointer (some ⟨E, 0, none⟩), (.agg #[.int .i64 p.a0, .int .i64 p.a1, .int .i64 p.a2, .int .i64 p.a3, .int .i64 p.a4, .int .i64 p.a5, .int .i64 p.a6, .int .i64 p.a7, .int .i64 p.a8, .int .i64 p.a9, .int .i64 p.a10, .int .i64 p.a11, .int .i64 p.a12]), .int .u64 (f : Int), .int .u64 (ep : Int)] w fun e w' => ∃ U A c, e = .returned (.tuple #[.pointer (some ⟨U, 0, none⟩), .slice A R.1.length c, .int .i64 0]) ∧ w.heap.size ≤ U ∧ LgAt w' 83 U E p ⟨f, f + R.1.length, ep⟩ ∧ OwnS w' 31 5 w.heap.size (.slice A R.1.length c) (R.1.map rcs) ∧ RD w' G E q n N R.2 ∧ Chg G w w' := by
  have H := Lib.hid h
  have HP := Lib.hid hp
  have HZ := Lib.hid hz
  have HR := Lib.hid hR
  have HB : Hid (∀ k, G k → k < w.heap.size) := fun k x => h.bound k (.inl x)
  have HF := Lib.hid hf
  have HEP := Lib.hid hep
  have RL : Hid (R.1.length ≤ 256) := by
    have := rdl_len (la := la) (lg := lg) (ep := ep) lg f 0 m
    rw [hR] at this
    exact Nat.le_trans this hp.hl2
  have hf2 : f ≤ 4611686014132420608 := hf
  obtain ⟨c0, c1⟩ := RD.offcells (h.below (balloc w (.cells #[.int .i64 p.a0, .int .i64 p.a1, .int .i64 p.a2, .int .i64 p.a3, .int .i64 p.a4, .int .i64 p.a5, .int .i64 p.a6, .int .i64 p.a7, .int .i64 p.a8, .int .i64 p.a9, .int .i64 p.a10, .int .i64 p.a11, .int .i64 p.a12] 39)))
  rw [ho] at c1
  clear h hp hz hR hf hep ho
  go_enter Tryz.func63, Tryz.ntmps63
  go_wp2_with fail
  have b1 := balloc w (.cells #[.int .i64 p.a0, .int .i64 p.a1, .int .i64 p.a2, .int .i64 p.a3, .int .i64 p.a4, .int .i64 p.a5, .int .i64 p.a6, .int .i64 p.a7, .int .i64 p.a8, .int .i64 p.a9, .int .i64 p.a10, .int .i64 p.a11, .int .i64 p.a12] 39)
  have Y1 := Lib.hid (heap_alloc_new w (.cells #[.int .i64 p.a0, .int .i64 p.a1, .int .i64 p.a2, .int .i64 p.a3, .int .i64 p.a4, .int .i64 p.a5, .int .i64 p.a6, .int .i64 p.a7, .int .i64 p.a8, .int .i64 p.a9, .int .i64 p.a10, .int .i64 p.a11, .int .i64 p.a12] 39))
  refine (rread_any (H.out.below b1) HP.out HZ.out HF.out HEP.out R HR.out).mono ?_; rintro e w2 ⟨v, rfl, o2, p2, c2⟩
  obtain ⟨A, c, rfl, _, _⟩ := o2.form (n := R.1.length) (by rw [List.length_map])
  have O2 := Lib.hid (o2.more b1.size)
  have P2 := Lib.hid p2
  have C2 := Lib.hid ((Chg.of_below (F := G) b1).trans c2 (fun _ _ x => x))
  have Y2 := Lib.hid ((c2.block _ (lt_of_heap Y1.out) (fun x => by have := HB.out _ x; omega)).trans Y1.out)
  have rl := RL.out
  obtain ⟨k, hk⟩ : ∃ k, R.1.length = k := ⟨_, rfl⟩
  rw [hk] at O2 rl ⊢
  have HK := Lib.hid hk
  clear o2 p2 c2 b1 Y1 c0 c1 hk RL
  go_wp2_with ((with_reducible apply Pn.L_loadPlan); exact rfl; exact Y2.out; exact rfl)
  go_ret3
  have e : ((f : Int) + (k : Int)) = ((f + k : Nat) : Int) := by omega
  rw [e, HK.out]
  have ba := balloc w2 (.cells #[.pointer (some ⟨E, 0, none⟩), .int .i64 p.a0, .int .i64 p.a1, .int .i64 p.a2, .int .i64 p.a3, .int .i64 p.a4, .int .i64 p.a5, .int .i64 p.a6, .int .i64 p.a7, .int .i64 p.a8, .int .i64 p.a9, .int .i64 p.a10, .int .i64 p.a11, .int .i64 p.a12, .int .u64 (f : Int), .int .u64 ((f + k : Nat) : Int), .int .u64 (ep : Int)] 83)
  exact ⟨w2.heap.size, A, c, rfl, C2.out.size, heap_alloc_new w2 _, O2.out.alloc _, P2.out.below ba, C2.out.trans (Chg.of_below (F := G) ba) (fun _ _ x => x)⟩
set_option maxHeartbeats 2000000 in
theorem rroom_any (h : LgAt w TT T E p g) (hp : Pln p la lg n) (hg : GOk B lg g) : Calls Tryz.prog 44 #[.pointer (some ⟨T, 0, none⟩)] w fun e w' => e = .returned (.int .i64 (room lg g)) ∧ Below w.heap.size w w' := by
  obtain ⟨d, hd⟩ : ∃ d, g.nx - g.f = d := ⟨_, rfl⟩
  have h1 := hg.h1
  have h2 := hg.h2
  have hl := hp.hl2
  have hd2 : (g.nx : Int) - (g.f : Int) = (d : Int) := by omega
  have E1 : IntKind.u64.wrap (d : Int) = (d : Int) := IntWalk.u64_in _ ⟨by omega, by omega⟩
  have E2 : IntKind.i64.wrap (d : Int) = (d : Int) := IntWalk.i64_in _ ⟨by omega, by omega⟩
  have E3 : IntKind.i64.wrap ((lg : Int) - (d : Int)) = room lg g := by unfold room; rw [hd]; exact IntWalk.i64_in _ ⟨by omega, by omega⟩
  have c8 : w.cell? ⟨T, 8, none⟩ = some (.int .i64 (lg : Int)) := by have := h.cell 8 rfl; rwa [hp.h7] at this
  obtain ⟨c0, c14, c15, c16, fr⟩ := h.cells
  clear h hp hg hd c0 c16
  go_enter Tryz.func44, Tryz.ntmps44
  go_wp2
  go_quiet (fail)
  go_wp2
  go_ret
  refine ⟨?_, below_drewN (Below.refl _ _) nq⟩
  rfl
theorem rcut_yes (h : LgAt w 83 T E p g) (t : Nat) (ht : t < 18446744073709551616) (hc : g.f ≤ t ∧ t ≤ g.nx) : Calls Tryz.prog 33 #[.pointer (some ⟨T, 0, none⟩), .int .u64 (t : Int)] w fun e w' => e = .returned (.bool true) ∧ LgAt w' 83 T E p ⟨t, g.nx, g.ep⟩ ∧ w.grownBy w' (some T) := by
  have H := Lib.hid h
  obtain ⟨c0, c14, c15, c16, fr⟩ := h.cells
  have h1 : ¬ (t : Int) < (g.f : Int) := by omega
  have h2 : ¬ (g.nx : Int) < (t : Int) := by omega
  clear h c16 c0 hc
  go_enter Tryz.func33, Tryz.ntmps33
  go_wp2
  go_ret
  exact ⟨rfl, H.out.set_f t, grown_set _ _ _ _⟩
theorem rcut_no (h : LgAt w 83 T E p g) (t : Nat) (hc : ¬ (g.f ≤ t ∧ t ≤ g.nx)) : Calls Tryz.prog 33 #[.pointer (some ⟨T, 0, none⟩), .int .u64 (t : Int)] w fun e w' => e = .returned (.bool false) ∧ w = w' := by
  obtain ⟨c0, c14, c15, c16, fr⟩ := h.cells
  by_cases hh : g.f ≤ t
  · have h1 : ¬ (t : Int) < (g.f : Int) := by omega
    have h2 : (g.nx : Int) < (t : Int) := by omega
    clear h c16 c0 hc hh
    go_enter Tryz.func33, Tryz.ntmps33
    go_wp2
    go_ret
    exact ⟨rfl, rfl⟩
  · have h1 : (t : Int) < (g.f : Int) := by omega
    clear h c16 c0 hc hh
    go_enter Tryz.func33, Tryz.ntmps33
    go_wp2
    go_ret
    exact ⟨rfl, rfl⟩
theorem rbeg_yes (h : LgAt w 83 T E p g) (t : Nat) (hc : g.ep ≤ t ∧ t ≤ most) : Calls Tryz.prog 34 #[.pointer (some ⟨T, 0, none⟩), .int .u64 (t : Int)] w fun e w' => e = .returned (.bool true) ∧ LgAt w' 83 T E p ⟨g.f, g.nx, t⟩ ∧ w.grownBy w' (some T) := by
  have H := Lib.hid h
  obtain ⟨c0, c14, c15, c16, fr⟩ := h.cells
  have h1 : ¬ (t : Int) < (g.ep : Int) := by omega
  have h2 : ¬ (4611686014132420608 : Int) < (t : Int) := by have := hc.2; unfold most at this; omega
  have h3 : t < 18446744073709551616 := by omega
  clear h c14 c15 c0 hc
  go_enter Tryz.func34, Tryz.ntmps34
  go_wp2
  go_ret
  exact ⟨rfl, H.out.set_e t, grown_set _ _ _ _⟩
theorem rbeg_no (h : LgAt w 83 T E p g) (t : Nat) (hc : ¬ (g.ep ≤ t ∧ t ≤ most)) : Calls Tryz.prog 34 #[.pointer (some ⟨T, 0, none⟩), .int .u64 (t : Int)] w fun e w' => e = .returned (.bool false) ∧ w = w' := by
  obtain ⟨c0, c14, c15, c16, fr⟩ := h.cells
  by_cases hh : g.ep ≤ t
  · have h1 : ¬ (t : Int) < (g.ep : Int) := by omega
    have h2 : (4611686014132420608 : Int) < (t : Int) := by unfold most at hc; omega
    clear h c14 c15 c0 hc hh
    go_enter Tryz.func34, Tryz.ntmps34
    go_wp2
    go_ret
    exact ⟨rfl, rfl⟩
  · have h1 : (t : Int) < (g.ep : Int) := by omega
    clear h c14 c15 c0 hc hh
    go_enter Tryz.func34, Tryz.ntmps34
    go_wp2
    go_ret
    exact ⟨rfl, rfl⟩
end
/-! records in a slice -/
def Rs (w : World) (A : Option Addr) (n : Nat) (L : List Rc) : Prop := L.length = n ∧ (0 < n → ∃ b off, A = some ⟨b, off, none⟩ ∧ ∀ i r, L[i]? = some r → ∀ j u, (rcs r)[j]? = some u → w.cell? ⟨b, off + i * 5 + j, none⟩ = some u)
theorem Rs.below {w w' : World} {A : Option Addr} {n : Nat} {L : List Rc} (h : Rs w A n L) (hb : Below w.heap.size w w') : Rs w' A n L :=
  ⟨h.1, fun h0 => by
    obtain ⟨b, off, e, hc⟩ := h.2 h0
    exact ⟨b, off, e, fun i r hr j u hu => by
      have c := hc i r hr j u hu
      rw [hb.cell (p := ⟨b, _, none⟩) (World.block_lt_of_cell? w _ c)]; exact c⟩⟩
theorem rs_own {w : World} {B n c : Nat} {A : Option Addr} {L : List Rc} (h : OwnS w 31 5 B (.slice A n c) (L.map rcs)) (hn : L.length = n) : Rs w A n L := by
  refine ⟨hn, fun h0 => ?_⟩
  obtain ⟨g, cap, e, _⟩ := h.here (n := n) (by rw [List.length_map]; exact hn) h0
  injection e with e1 e2 e3
  subst e1
  refine ⟨g, 0, rfl, fun i r hr j u hu => ?_⟩
  rw [Nat.zero_add]
  exact (h.cell (by rw [List.length_map]; exact hn) (by rw [List.getElem?_map, hr]; rfl) hu).1
theorem Rs.cut {w : World} {b off n k : Nat} {L : List Rc} (h : Rs w (some ⟨b, off, none⟩) n L) (m : Nat) (hm : k + m ≤ n) : Rs w (some ⟨b, off + k * 5, none⟩) m ((L.drop k).take m) := by
  refine ⟨by rw [List.length_take, List.length_drop, h.1]; omega, fun h0 => ?_⟩
  obtain ⟨b', off', e, hc⟩ := h.2 (by omega)
  injection e with e
  injection e with e1 e2
  subst e1 e2
  refine ⟨b, _, rfl, fun i r hr j u hu => ?_⟩
  rw [List.getElem?_take] at hr
  split at hr
  · rw [List.getElem?_drop] at hr
    have := hc _ r hr j u hu
    rwa [show off + (k + i) * 5 + j = off + k * 5 + i * 5 + j by omega] at this
  · cases hr
set_option maxHeartbeats 4000000 in
/-- two rows that are the same -/
theorem rsame_any {w : World} {A1 A2 : Option Addr} {k c1 c2 : Nat} {L : List Rc} (h1 : Rs w A1 k L) (h2 : Rs w A2 k L) (hk : k ≤ 1000000) :
    Calls Tryz.prog 23 #[.slice A1 k c1, .slice A2 k c2] w fun e w' => e = .returned (.bool true) ∧ Below w.heap.size w w' := by
  have H1 := Lib.hid h1
  have H2 := Lib.hid h2
  have HN : Hid (L.length = k) := h1.1
  clear h1 h2
  go_enter Tryz.func23, Tryz.ntmps23
  go_wp2
  go_loopw [5] (fun q5 wr => ∃ j : Nat, j ≤ k ∧ q5 = .int .i64 (j : Int) ∧ Hid (Below w.heap.size w wr)) (fun q5 _ => k - (intOf q5).toNat)
  case atStart => exact ⟨0, by omega, rfl, Below.refl _ _⟩
  case round =>
    obtain ⟨j, hj, rfl, BJ⟩ := hrel
    by_cases hlt : j < k
    · have hlt2 : (j : Int) < (k : Int) := by omega
      obtain ⟨x, hx⟩ : ∃ x, L[j]? = some x := ⟨_, List.getElem?_eq_getElem (by rw [HN.out]; exact hlt)⟩
      obtain ⟨b1, o1, rfl, cx1⟩ := (H1.out.below BJ.out).2 (by omega)
      obtain ⟨b2, o2, rfl, cx2⟩ := (H2.out.below BJ.out).2 (by omega)
      have u0 := cx1 j x hx 0 _ rfl
      have u1 := cx1 j x hx 1 _ rfl
      have u2 := cx1 j x hx 2 _ rfl
      have u3 := cx1 j x hx 3 _ rfl
      have u4 := cx1 j x hx 4 _ rfl
      have v0 := cx2 j x hx 0 _ rfl
      have v1 := cx2 j x hx 1 _ rfl
      have v2 := cx2 j x hx 2 _ rfl
      have v3 := cx2 j x hx 3 _ rfl
      have v4 := cx2 j x hx 4 _ rfl
      rw [Nat.add_zero] at u0 v0
      clear hx cx1 cx2
      go_wp2_with fail
      go_quiet (fail)
      go_wp2
      go_roundw
      case rel => exact ⟨j + 1, by omega, by go_num, below_drewN BJ.out nq⟩
      case measure => simp [intOf]; omega
    · have hlt2 : ¬ (j : Int) < (k : Int) := by omega
      go_wp2
      go_ret
      exact ⟨rfl, BJ.out⟩
end Go.Proofs.YtikbbikcacoobaaGreatDoor.Pd.Iv
