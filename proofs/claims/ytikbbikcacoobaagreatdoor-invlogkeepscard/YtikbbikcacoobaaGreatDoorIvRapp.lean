/-
  The document's Append. No conditions.
-/
import Derived.Test.YtikbbikcacoobaaGreatDoorIvRef
namespace Go.Proofs.YtikbbikcacoobaaGreatDoor.Pd.Iv
open Go.RowKit Oc Dm W Dw Sr
set_option linter.unusedVariables false
set_option maxRecDepth 100000
attribute [local go_sem ↓] Go.wp_at_zero Go.wp_at_succ

section
variable {w w' : World} {G : Nat → Prop} {E q n N la lg T B : Nat} {m : Vs} {p : Pn.Pl} {g : Lg}
set_option maxHeartbeats 8000000 in
theorem rappend_any (h : RD w G E q n N m) (hl : LgAt w 83 T E p g) (hT : ¬ Al G q T) (hp : Pln p la lg n) (hg : GOk B lg g) (hN : N + 1 ≤ 1000000) (x : Int) (gn : Nat) (mk : UInt8) (R : Int × Lg × Vs) (hR : app la lg ⟨g.nx, g.ep, x, gn, mk⟩ g m = R) :
    Calls Tryz.prog 32 #[.pointer (some ⟨T, 0, none⟩), .int .i64 x, .int .u64 (gn : Int), .int .u8 (mk.toNat : Int)] w fun e w' => e = .returned (.int .i64 R.1) ∧ RD w' (Ext G w w') E q n (N + 1) R.2.2 ∧ LgAt w' 83 T E p R.2.1 ∧ Chg (fun b => Al G q b ∨ b = T) w w' := by
  have H := Lib.hid h
  have HL := Lib.hid hl
  have HT := Lib.hid hT
  have HP := Lib.hid hp
  have HG := Lib.hid hg
  have UP : Hid (∀ y, Below w.heap.size w y → RD y (Ext G w y) E q n (N + 1) m ∧ LgAt y 83 T E p g ∧ Chg (fun b => Al G q b ∨ b = T) w y) := fun y hb =>
    ⟨((h.below hb).more (Nat.le_succ _) hN).wide (fun _ z => .inl z) (ext_bound (fun k z => h.bound k (.inl z)) hb.size) h.enq, hl.below hb, Chg.of_below hb⟩
  have CS : Hid (∀ x : World, LgAt x 83 T E p g → x.cell? ⟨T, 15, none⟩ = some (.int .u64 (g.nx : Int)) ∧ x.cell? ⟨T, 16, none⟩ = some (.int .u64 (g.ep : Int))) := fun x H => ⟨H.cell 15 rfl, H.cell 16 rfl⟩
  have CT : Hid (∀ x : World, LgAt x 83 T E p g → x.cell? ⟨T, 0, none⟩ = some (.pointer (some ⟨E, 0, none⟩)) ∧ x.cell? ⟨T, 7, none⟩ = some (.int .i64 (la : Int)) ∧ x.cell? ⟨T, 8, none⟩ = some (.int .i64 (lg : Int)) ∧ x.cell? ⟨T, 15, none⟩ = some (.int .u64 (g.nx : Int))) := fun x H => ⟨H.cell 0 rfl, by rw [← hp.h6]; exact H.cell 7 rfl, by rw [← hp.h7]; exact H.cell 8 rfl, H.cell 15 rfl⟩
  have hr : room lg g = (lg : Int) - ((g.nx - g.f : Nat) : Int) := rfl
  have hg1 := hg.h1
  have hg2 := hg.h2
  have hB : g.nx ≤ 1000000000 := Nat.le_trans hg.h3 hg.h5
  have hlg : lg ≤ 256 := hp.hl2
  have hlg1 : 1 ≤ lg := hp.hl
  have hla : la ≤ 4096 := by have := hp.hn; have := hp.hn2; omega
  obtain ⟨s1, _⟩ := spot_lt hp g.nx
  clear h hl hT hp hg
  by_cases hf : g.nx - g.f = lg
  · have t0 : room lg g < 1 := by omega
    have HR : Hid (R = (5, g, m)) := by show _ = _; rw [← hR]; unfold app; rw [if_pos hf]
    have T0 := Lib.hid t0
    clear hR hf t0 hr
    go_enter Tryz.func32, Tryz.ntmps32
    go_wp2_with fail
    refine (rroom_any HL.out HP.out HG.out).mono ?_; rintro e w1 ⟨rfl, b1⟩
    have B1 := Lib.hid b1
    have t0 := T0.out
    clear b1
    go_wp2
    go_ret
    rw [HR.out]
    exact ⟨rfl, UP.out _ B1.out⟩
  · have t0 : ¬ room lg g < 1 := by omega
    have T0 := Lib.hid t0
    clear t0 hr
    by_cases hm : MayBe ⟨g.nx, g.ep, x, gn, mk⟩
    · obtain ⟨xs, hxs⟩ : ∃ xs, sect ⟨g.nx, g.ep, x, gn, mk⟩ = xs := ⟨_, rfl⟩
      have hxl : xs.length = 64 := by rw [← hxs]; exact sect_length _
      obtain ⟨v, m', hv⟩ : ∃ v m', wr1 m (la + g.nx % lg) xs = (v, m') := ⟨_, _, rfl⟩
      have HR : Hid (R = (v, (if v = 0 then ⟨g.f, g.nx + 1, g.ep⟩ else g), m')) := by show _ = _; rw [← hR]; unfold app; rw [if_neg hf, if_neg (fun z => z hm), hxs, hv]
      have KP : Hid (∀ y, Calls Tryz.prog 38 #[.agg #[.int .u64 (g.nx : Int), .int .u64 (g.ep : Int), .int .i64 x, .int .u64 (gn : Int), .int .u8 (mk.toNat : Int)]] y fun e y' => ∃ A c, e = .returned (.tuple #[.slice A 64 c, .int .i64 0]) ∧ Oct y' A 64 xs ∧ Below y.heap.size y y') := fun y =>
        (rrput_ok ⟨g.nx, g.ep, x, gn, mk⟩ y hm).mono fun e y' ⟨v2, e1, o2, b2⟩ => by
          obtain ⟨A2, c2, rfl, l2, s2⟩ := o2.form (sect_length _)
          rw [hxs] at s2
          exact ⟨A2, c2, e1, s2, b2⟩
      obtain ⟨BB, hBB⟩ : ∃ B, tx xs = .string B := ⟨_, rfl⟩
      have HX : Hid (tx xs = .string BB) := hBB
      obtain ⟨t, ht⟩ : ∃ t, g.nx % lg = t := ⟨_, rfl⟩
      have htl : t < lg := by rw [← ht]; exact Nat.mod_lt _ (by omega)
      have hrem : (g.nx : Int) % (lg : Int) = (t : Int) := by rw [← ht]; simp
      have KW : Hid (∀ y, Below w.heap.size w y → Calls Tryz.prog 41 #[.pointer (some ⟨E, 0, none⟩), .int .i64 ((la : Int) + (t : Int)), .string BB] y fun e y' => e = .returned (.int .i64 v) ∧ RD y' (Ext G w y') E q n (N + 1) m' ∧ LgAt y' 83 T E p g ∧ Chg (Al G q) w y') := fun y hy => by
        have := (H.out.below hy).write hN (la + g.nx % lg) s1 hBB hxl
        rw [hv, ht, show ((la + t : Nat) : Int) = (la : Int) + (t : Int) by omega] at this
        refine this.mono fun e y' ⟨e1, e2, e3⟩ => ?_
        exact ⟨e1, H.out.from_ hy.size e3.size e2, (HL.out.below hy).kept e3 HT.out, (Chg.of_below (F := Al G q) hy).trans e3 (fun _ _ z => z)⟩
      have HREM := Lib.hid hrem
      clear hR hf hm hv hxs hBB ht hrem s1
      go_enter Tryz.func32, Tryz.ntmps32
      go_wp2_with fail
      refine (rroom_any HL.out HP.out HG.out).mono ?_; rintro e w1 ⟨rfl, b1⟩
      have B1 := Lib.hid b1
      have L1 := Lib.hid (HL.out.below b1)
      have t0 := T0.out
      clear b1
      obtain ⟨c15, c16⟩ := CS.out _ L1.out
      go_wp2_with fail
      go_region_held (fun x => x.cell? ⟨T, 15, none⟩ = some (.int .u64 (g.nx : Int)) ∧ x.cell? ⟨T, 16, none⟩ = some (.int .u64 (g.ep : Int))) (first | go_keep | exact CS.out _ L2.out)
        (first
          | (go_at_call 38; (with_reducible refine (KP.out _).mono ?_); rintro e w2 ⟨A2, c2, rfl, o2, b2⟩; have B2 : Hid (Below w.heap.size w w2) := bthen (bthen B1.out (bdrew _)) b2; have O2 := Lib.hid o2; have L2 := Lib.hid (HL.out.below B2.out); clear o2 b2))
      all_goals
        clear c15 c16 t0
        obtain ⟨c0, c7, c8, c15⟩ := CT.out _ L2.out
        have hrem := HREM.out
        have hl0 : ¬ (lg : Int) = 0 := by omega
        have hl02 : ((lg : Int) == 0) = false := by simp; omega
        have hw7 : IntKind.u64.wrap (lg : Int) = (lg : Int) := IntWalk.u64_in _ ⟨by omega, by omega⟩
        have hwt : IntKind.u64.wrap (t : Int) = (t : Int) := IntWalk.u64_in _ ⟨by omega, by omega⟩
        have hwt2 : IntKind.i64.wrap (t : Int) = (t : Int) := IntWalk.i64_in _ ⟨by omega, by omega⟩
        have hlt9 : IntKind.i64.wrap ((la : Int) + (t : Int)) = (la : Int) + (t : Int) := IntWalk.i64_in _ ⟨by omega, by omega⟩
        have cv := O2.out.drew.conv Dm.bt Tryz.underlying9 c2
        rw [show Value.string (bstr xs) = .string BB from HX.out] at cv
        go_wp2_with fail
        go_region_held (fun x => x.cell? ⟨T, 0, none⟩ = some (.pointer (some ⟨E, 0, none⟩)) ∧ x.cell? ⟨T, 7, none⟩ = some (.int .i64 (la : Int)) ∧ x.cell? ⟨T, 8, none⟩ = some (.int .i64 (lg : Int)) ∧ x.cell? ⟨T, 15, none⟩ = some (.int .u64 (g.nx : Int))) (first | go_keep | exact CT.out _ L3.out)
          (first
            | (go_at_call 41; (with_reducible refine (KW.out _ (bthen B2.out (bdrew _))).mono ?_); rintro e w3 ⟨rfl, p3, l3, k3⟩; have P3 := Lib.hid p3; have L3 := Lib.hid l3; have K3 := Lib.hid k3; clear p3 l3 k3))
        all_goals
          clear c0 c7 c8 c15 cv hrem hl0 hl02 hw7 hwt hwt2 hlt9
          by_cases hv0 : v = 0
          · subst hv0
            obtain ⟨x0, x14, x15, x16, xf⟩ := L3.out.cells
            clear x0 x14 x16
            go_wp2
            go_ret
            rw [HR.out]
            have e : ((g.nx : Int) + 1) = ((g.nx + 1 : Nat) : Int) := by omega
            rw [e]
            have gs := grown_set w3 T 15 (.int .u64 ((g.nx + 1 : Nat) : Int))
            have cs : Chg (fun b => b = T) w3 (w3.setCell ⟨T, 15, none⟩ (.int .u64 ((g.nx + 1 : Nat) : Int))) := Chg.of_grown gs (fun k e _ => by injection e with e; exact e.symm)
            have hs : (w3.setCell ⟨T, 15, none⟩ (.int .u64 ((g.nx + 1 : Nat) : Int))).heap.size = w3.heap.size := by simp [World.setCell]
            refine ⟨rfl, ?_, L3.out.set_n (g.nx + 1), (K3.out.mono (fun _ _ z => .inl z)).trans cs (fun _ _ z => .inr z)⟩
            have e2 : Ext G w (w3.setCell ⟨T, 15, none⟩ (.int .u64 ((g.nx + 1 : Nat) : Int))) = Ext G w w3 := by unfold Ext; rw [hs]
            rw [e2]
            exact P3.out.kept cs (fun k z e => by
              subst e
              rcases z with (z | z) | z
              · exact HT.out (.inl z)
              · have := HL.out.lt; have := z.1; omega
              · exact HT.out (.inr z))
          · go_wp2
            go_ret
            rw [HR.out, if_neg hv0]
            exact ⟨rfl, P3.out, L3.out, K3.out.mono (fun _ _ z => .inl z)⟩
    · have HR : Hid (R = (1, g, m)) := by show _ = _; rw [← hR]; unfold app; rw [if_neg hf, if_pos hm]
      have KP : Hid (∀ y, Calls Tryz.prog 38 #[.agg #[.int .u64 (g.nx : Int), .int .u64 (g.ep : Int), .int .i64 x, .int .u64 (gn : Int), .int .u8 (mk.toNat : Int)]] y fun e y' => e = .returned (.tuple #[.slice none 0 0, .int .i64 1]) ∧ Below y.heap.size y y') := fun y =>
        rrput_no ⟨g.nx, g.ep, x, gn, mk⟩ y hm
      clear hR hf hm s1
      go_enter Tryz.func32, Tryz.ntmps32
      go_wp2_with fail
      refine (rroom_any HL.out HP.out HG.out).mono ?_; rintro e w1 ⟨rfl, b1⟩
      have B1 := Lib.hid b1
      have L1 := Lib.hid (HL.out.below b1)
      have t0 := T0.out
      clear b1
      obtain ⟨c15, c16⟩ := CS.out _ L1.out
      go_wp2_with fail
      go_region_held (fun x => x.cell? ⟨T, 15, none⟩ = some (.int .u64 (g.nx : Int)) ∧ x.cell? ⟨T, 16, none⟩ = some (.int .u64 (g.ep : Int))) (first | go_keep | exact CS.out _ L2.out)
        (first
          | (go_at_call 38; (with_reducible refine (KP.out _).mono ?_); rintro e w2 ⟨rfl, b2⟩; have B2 : Hid (Below w.heap.size w w2) := bthen (bthen B1.out (bdrew _)) b2; have L2 := Lib.hid (HL.out.below B2.out); clear b2))
      all_goals
        clear c15 c16 t0
        go_wp2
        go_ret
        rw [HR.out]
        exact ⟨rfl, UP.out _ B2.out⟩
end
end Go.Proofs.YtikbbikcacoobaaGreatDoor.Pd.Iv
