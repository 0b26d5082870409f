/-
  The walk of the statement on the wear of a fill. No conditions.
-/
import Derived.Test.YtapklelkcicjlaaGreatDoorSlAwake
import Derived.Test.YtapklelkcicjlaaGreatDoorSlWearNum
import Derived.BigQuiet
import Derived.Deep.RegionHeld
import Derived.Deep.DrawnRows
import Derived.Deep.CutRange
import Derived.Deep.CutBlock
namespace Go.Proofs.YtapklelkcicjlaaGreatDoor.Pd.Sl
set_option maxRecDepth 100000
open Go.RowKit Oc Dm W Dw Sr Gt W.Hd
set_option linter.unusedVariables false
set_option maxRecDepth 100000
attribute [local go_sem ↓] Go.wp_at_zero Go.wp_at_succ
section
variable {w : World} {k c : Nat} {A : Option Addr} {L : Nat → ActV}
set_option maxHeartbeats 16000000 in
theorem wears_walk (x : Nat) (hx : x ≤ 65535) (ha : Acts w A k L) (hk : k ≤ maxLen) (he : EnvH w) :
    Calls Tryz.prog 6 #[.int .u16 (x : Int), .slice A k c] w fun e w' => e = .returned (.bool true) ∧ Below w.heap.size w w' := by
  obtain ⟨xm, hxm⟩ : ∃ f : Nat, (x : Int) % 6 = (f : Int) := ⟨x % 6, by omega⟩
  have hx2 : xm ≤ 65535 := by omega
  obtain ⟨p, la, ns, n, hP, hnse, hB⟩ := begin_some xm hx2 w he
  clear hnse
  have HB := Lib.hid hB
  have HP := Lib.hid hP
  have HE := Lib.hid he
  have HA := Lib.hid ha
  have hk9 : (k : Int) ≤ 9223372036854775807 := by unfold maxLen at hk; omega
  have G0 : Hid ((fresh ns).length = ns ∧ small (fresh ns) 0) := ⟨fresh_len ns, fresh_small ns⟩
  have hns : ns ≤ 256 := hP.hl2
  generalize fresh ns = L0 at hB HB G0
  clear hB hP he ha hx2
  go_enter Tryz.func6, Tryz.ntmps6
  go_wp2_with fail
  refine HB.out.mono ?_; rintro e w1 ⟨P, rfl, st1⟩
  have ST1 := Lib.hid st1
  clear st1 HB hxm
  go_wp2
  go_loopw [7] (fun q7 wr => ∃ i : Nat, i ≤ 20 ∧ q7 = .int .i64 (i : Int) ∧ Hid (∃ m g, St w P p n (12 * i) m m (some g) (some g) w (fun b => w.heap.size ≤ b) wr ∧ g.length = ns ∧ small g i)) (fun q7 _ => 20 - (intOf q7).toNat)
  case atStart => exact ⟨0, Nat.zero_le _, rfl, m00, _, ST1.out, G0.out⟩
  case round =>
    obtain ⟨i, hi, rfl, SI⟩ := hrel
    clear ST1 G0
    obtain ⟨mi, gi, st, gk⟩ := SI.out
    have ST := Lib.hid st
    have GK := Lib.hid gk
    have BE := Lib.hid st.bel
    clear st gk SI
    have hcase : (i < k ∧ i < 20) ∨ (k ≤ i) ∨ (i < k ∧ 20 ≤ i) := by omega
    rcases hcase with ⟨h1, h2⟩ | hend
    · obtain ⟨b, off, rfl, hld, hok⟩ := act_load HA.out h1
      have LD := Lib.hid (hld wr BE.out)
      have DO := Lib.hid (fun (y : World) (hy : Below wr.heap.size wr y) => st_do (ST.out.below hy) HE.out HP.out GK.out.1 GK.out.2 (show i + 1 ≤ 900000 by omega) (show 12 * i + 12 ≤ 1000000 by omega) (L i) hok)
      have h1' : (i : Int) < (k : Int) := by omega
      have h2' : (i : Int) < 20 := by omega
      clear hld hok
      generalize L i = y at LD DO
      obtain ⟨kind, sl, lb, gn, fi, sz, zn, bit, tn, u, v, ffa, ffl, ffc, ffs, hx⟩ := y
      have LD2 : Hid ((Instr.loadAt 34 (.pointer (some ⟨b, off + i * 17, none⟩))).run Tryz.prog wr = .ok (.agg #[.int .i64 kind, .int .i64 sl, .int .i64 lb, .int .u64 (gn : Int), .int .u8 (fi.toNat : Int), .int .i64 sz, .int .i64 zn, .int .i64 bit, .int .u32 (tn : Int), .int .u64 (u : Int), .int .u64 (v : Int), .slice ffa ffl ffc, .bool hx.u, .int .i64 hx.l, .int .u64 (hx.g : Int), .int .u32 (hx.s.toNat : Int), .int .u32 (hx.r.toNat : Int)]) wr) := LD.out
      have DO2 : Hid (∀ y : World, Below wr.heap.size wr y → Calls Tryz.prog 8 #[.pointer (some ⟨P, 0, none⟩), .agg #[.int .i64 kind, .int .i64 sl, .int .i64 lb, .int .u64 (gn : Int), .int .u8 (fi.toNat : Int), .int .i64 sz, .int .i64 zn, .int .i64 bit, .int .u32 (tn : Int), .int .u64 (u : Int), .int .u64 (v : Int), .slice ffa ffl ffc, .bool hx.u, .int .i64 hx.l, .int .u64 (hx.g : Int), .int .u32 (hx.s.toNat : Int), .int .u32 (hx.r.toNat : Int)]] y fun e w' => e = .returned (.bool true) ∧ Done w P p n (12 * i + 12) (i + 1) ns w (fun b => w.heap.size ≤ b) w') := DO.out
      clear LD DO
      obtain ⟨bA, hbA⟩ : ∃ bA, bA = wr.heap.size := ⟨_, rfl⟩
      have HBA := Lib.hid hbA
      clear hbA
      go_upto_region 8 with ((with_reducible apply L_ld); exact rfl; exact LD2.out)
      have B4 : Hid (Below wr.heap.size wr (wr.alloc (.cells #[.int .i64 kind, .int .i64 sl, .int .i64 lb, .int .u64 (gn : Int), .int .u8 (fi.toNat : Int), .int .i64 sz, .int .i64 zn, .int .i64 bit, .int .u32 (tn : Int), .int .u64 (u : Int), .int .u64 (v : Int), .slice ffa ffl ffc, .bool hx.u, .int .i64 hx.l, .int .u64 (hx.g : Int), .int .u32 (hx.s.toNat : Int), .int .u32 (hx.r.toNat : Int)] 34))) := balloc _ _
      have H4' : Hid ((wr.alloc (.cells #[.int .i64 kind, .int .i64 sl, .int .i64 lb, .int .u64 (gn : Int), .int .u8 (fi.toNat : Int), .int .i64 sz, .int .i64 zn, .int .i64 bit, .int .u32 (tn : Int), .int .u64 (u : Int), .int .u64 (v : Int), .slice ffa ffl ffc, .bool hx.u, .int .i64 hx.l, .int .u64 (hx.g : Int), .int .u32 (hx.s.toNat : Int), .int .u32 (hx.r.toNat : Int)] 34)).heap[bA]? = some (.cells #[.int .i64 kind, .int .i64 sl, .int .i64 lb, .int .u64 (gn : Int), .int .u8 (fi.toNat : Int), .int .i64 sz, .int .i64 zn, .int .i64 bit, .int .u32 (tn : Int), .int .u64 (u : Int), .int .u64 (v : Int), .slice ffa ffl ffc, .bool hx.u, .int .i64 hx.l, .int .u64 (hx.g : Int), .int .u32 (hx.s.toNat : Int), .int .u32 (hx.r.toNat : Int)] 34 (0, 0))) := by show _ = _; rw [HBA.out]; exact heap_alloc_new _ _
      rw [← HBA.out]
      generalize wr.alloc (.cells #[.int .i64 kind, .int .i64 sl, .int .i64 lb, .int .u64 (gn : Int), .int .u8 (fi.toNat : Int), .int .i64 sz, .int .i64 zn, .int .i64 bit, .int .u32 (tn : Int), .int .u64 (u : Int), .int .u64 (v : Int), .slice ffa ffl ffc, .bool hx.u, .int .i64 hx.l, .int .u64 (hx.g : Int), .int .u32 (hx.s.toNat : Int), .int .u32 (hx.r.toNat : Int)] 34) = w4 at B4 H4' ⊢
      have c0 : w4.cell? ⟨bA, 0, none⟩ = some (.int .i64 kind) := cell_of_row _ _ 0 _ _ _ H4'.out
      by_cases hk0 : kind = 0
      · subst hk0
        obtain ⟨pw, D, q, E, T, U, F, G, H1, H2, r, hh, kk⟩ := ST.out
        obtain ⟨t, g, hT, _, _, _⟩ := r.st1
        subst hT
        have PR4 := Lib.hid (r.below B4.out)
        have PH4 := Lib.hid (hh.below B4.out)
        have K4 := Lib.hid (Kp'.trans kk (Kp'.of_below B4.out P _))
        have BX4 : Hid (Bx w4 P (Us F pw G q H1 H2) bA #[.int .i64 0, .int .i64 sl, .int .i64 lb, .int .u64 (gn : Int), .int .u8 (fi.toNat : Int), .int .i64 sz, .int .i64 zn, .int .i64 bit, .int .u32 (tn : Int), .int .u64 (u : Int), .int .u64 (v : Int), .slice ffa ffl ffc, .bool hx.u, .int .i64 hx.l, .int .u64 (hx.g : Int), .int .u32 (hx.s.toNat : Int), .int .u32 (hx.r.toNat : Int)]) := ⟨fun j v e => (cell_of_row _ _ j _ _ _ H4'.out).trans e, lt_of_heap H4'.out, fun z => by have := r.uP bA z; have := HBA.out; omega⟩
        clear r hh kk H4' B4 HBA ST DO2 LD2 BE
        obtain ⟨xs, hxs⟩ : ∃ xs, List.replicate (fillLen sz) fi = xs := ⟨_, rfl⟩
        have FA : Hid (∀ y, Calls Tryz.prog 13 #[.int .u8 (fi.toNat : Int), .int .i64 sz] y fun e y' => ∃ b, e = .returned (.slice (some ⟨b, 0, none⟩) (fillLen sz) (fillLen sz)) ∧ y.heap.size ≤ b ∧ Oct y' (some ⟨b, 0, none⟩) (fillLen sz) xs ∧ Below y.heap.size y y') := fun y =>
          (Dw.fill_any y fi sz).mono fun e w' ⟨b, e1, e2, e3, e4⟩ => ⟨b, e1, e2, oct_own (by rw [← hxs, List.map_replicate]; exact e3) (by rw [← hxs, List.length_replicate]), e4⟩
        have HFK : Hid (fillLen sz ≤ 1000000) := Nat.le_trans (fillLen_le sz) (by decide)
        generalize fillLen sz = fk at FA HFK
        clear hxs
        obtain ⟨v0, L2, m2, hr⟩ : ∃ v0 L2 m2, Sl.fill la sl lb gn xs gi mi = (v0, L2, m2) := ⟨_, _, _, rfl⟩
        have HR := Lib.hid hr
        have HQ : Hid (L2.length = ns ∧ small L2 (i + 1)) := by
          have := fill_small (la := la) (z := sl) (b := lb) (g := gn) (xs := xs) (m := mi) GK.out.2
          rw [hr] at this
          exact ⟨this.2.trans GK.out.1, this.1.more (Nat.le_succ _)⟩
        have HW : Hid (∃ kq : Nat, kq ≤ 1 ∧ (v0 = 0 → kq = 1) ∧ (wearZ L2 sl).toNat = (wearZ gi sl).toNat + kq ∧ total L2 = total gi + kq ∧ total gi ≤ 256 * 4294967295) := by
          obtain ⟨kq, a1, a2, a3, a4⟩ := fill_wears la sl lb gn xs gi mi
          rw [hr] at a2 a3 a4
          have := total_le gi
          rw [GK.out.1] at this
          have h9 : ns * 4294967295 ≤ 256 * 4294967295 := Nat.mul_le_mul_right _ hns
          exact ⟨kq, a1, a2, a3, a4, Nat.le_trans this h9⟩
        clear hr
        obtain ⟨c26, c27, c28, c29, c30, c31, cf⟩ := phead_all PH4.out
        have KT : Hid (Calls Tryz.prog 37 #[.pointer (some ⟨t, 0, none⟩)] w4 fun e w' => e = .returned (.int .u64 (total gi : Int)) ∧ w4 = w') := by
          obtain ⟨t', g', e, _, _, hl⟩ := PR4.out.st1
          injection e with e; injection e with e; subst e
          exact total_any hl
        go_wp2_with fail
        refine KT.out.mono ?_; rintro e w' ⟨rfl, rfl⟩
        clear KT
        have a1 := BX4.out.cells 1 _ rfl
        have KW : Hid (∀ k, Calls Tryz.prog 14 #[.pointer (some ⟨t, 0, none⟩), .int .i64 sl] (w4.drewN k) fun e w' => e = .returned (.int .u32 ((wearZ gi sl).toNat : Int)) ∧ w4.drewN k = w') := fun k => by
          obtain ⟨t', g', e, _, _, hl⟩ := (PR4.out.below (below_drewN (Below.refl _ _) k)).st1
          injection e with e; injection e with e; subst e
          exact wear_any hl sl
        go_wp2_with fail
        go_quiet ((first
          | (go_at_call 14; exact quiet (KW.out _))))
        have BQ : Hid (Below w4.heap.size w4 (w4.drewN nq)) := below_drewN (Below.refl _ _) nq
        have PR5 := Lib.hid (PR4.out.below BQ.out)
        have PH5 := Lib.hid (PH4.out.below BQ.out)
        have K5 := Lib.hid (Kp'.trans K4.out (Kp'.of_below BQ.out P _))
        have BX5 := Lib.hid (BX4.out.kp (Kp'.of_below BQ.out P _))
        generalize w4.drewN nq = w5 at PR5 PH5 K5 BX5 ⊢
        clear a1 c0 c26 c27 c28 c29 c30 c31 cf PR4 PH4 K4 BX4 KW BQ
        have HUP : Hid (∀ b, Us F pw G q H1 H2 b ∨ b = P → b < w5.heap.size) := PR5.out.uP
        have KF : Hid (∀ y b, Below w5.heap.size w5 y → w5.heap.size ≤ b → Oct y (some ⟨b, 0, none⟩) fk xs → Calls Tryz.prog 12 #[.pointer (some ⟨t, 0, none⟩), .int .i64 sl, .int .i64 lb, .int .u64 (gn : Int), .slice (some ⟨b, 0, none⟩) fk fk] y fun e y' => e = .returned (.int .i64 v0) ∧ Pr w P p n (12 * i + 5) pw D q E (some ⟨t, 0, none⟩) U (Ext F y y') G H1 H2 m2 mi (some L2) (some gi) y' ∧ y'.heap[P]? = y.heap[P]? ∧ Kp y (Us F pw G q H1 H2) y' (Us (Ext F y y') pw G q H1 H2)) := fun y b hy hb ho =>
          (PR5.out.below hy).fill HE.out HP.out GK.out.1 (by omega) sl lb gn HFK.out ho (fun k off _ e => by
            injection e with e
            injection e with e
            subst e
            exact ⟨fun x => by have := HUP.out b (.inl (.inl x)); omega, fun x => by have := HUP.out b (.inl (.inr (.inr (.inl x)))); omega⟩) (v0, L2, m2) HR.out
        have a1 := BX5.out.cells 1 _ rfl
        have a2 := BX5.out.cells 2 _ rfl
        have a3 := BX5.out.cells 3 _ rfl
        have a4 := BX5.out.cells 4 _ rfl
        have a5 := BX5.out.cells 5 _ rfl
        obtain ⟨c26, c27, c28, c29, c30, c31, cf⟩ := phead_all PH5.out
        go_wp2_with fail
        go_region_held (fun x => x.cell? ⟨P, 28, none⟩ = some (.pointer (some ⟨t, 0, none⟩)) ∧ x.cell? ⟨bA, 1, none⟩ = some (.int .i64 sl) ∧ x.cell? ⟨bA, 2, none⟩ = some (.int .i64 lb) ∧ x.cell? ⟨bA, 3, none⟩ = some (.int .u64 (gn : Int)) ∧ x.cell? ⟨bA, 4, none⟩ = some (.int .u8 (fi.toNat : Int)) ∧ x.cell? ⟨bA, 5, none⟩ = some (.int .i64 sz)) (first | go_keep | exact ⟨(phead_all PH7.out).2.2.1, BX7.out.cells 1 _ rfl, BX7.out.cells 2 _ rfl, BX7.out.cells 3 _ rfl, BX7.out.cells 4 _ rfl, BX7.out.cells 5 _ rfl⟩ | exact ⟨(phead_all PH6.out).2.2.1, BX6.out.cells 1 _ rfl, BX6.out.cells 2 _ rfl, BX6.out.cells 3 _ rfl, BX6.out.cells 4 _ rfl, BX6.out.cells 5 _ rfl⟩)
          (first
            | (go_at_call 13; (with_reducible refine (FA.out _).mono ?_); rintro e w6 ⟨b6, rfl, hb6, o6, b2⟩; have B6 : Hid (Below w5.heap.size w5 w6) := below_of_drew b2; have HB6 : Hid (w5.heap.size ≤ b6) := hb6; have O6 := Lib.hid o6; have PH6 : Hid (PHead w6 P p pw D q E (some ⟨t, 0, none⟩) U) := PH5.out.below B6.out; have BX6 := Lib.hid (BX5.out.kp (Kp'.of_below B6.out P _)); clear b2 hb6 o6)
            | (go_at_call 12; (with_reducible refine (KF.out _ _ B6.out HB6.out O6.out).mono ?_); rintro e w7 ⟨rfl, p7, h7, k7⟩; have PR7 := Lib.hid p7; have PH7 := Lib.hid (PH6.out.of h7); have K7 := Lib.hid (Kp'.trans (Kp'.trans K5.out (Kp'.of_below B6.out P _)) (k7.but P)); have BX7 := Lib.hid (BX6.out.kp (k7.but P)); clear p7 h7 k7))
        all_goals
          clear a1 a2 a3 a4 a5 c26 c27 c28 c29 c30 c31 cf O6 HB6 PH6 BX6 KF HUP
          generalize Ext F w6 w7 = F7 at PR7 K7 BX7
          have HUP : Hid (∀ b, Us F7 pw G q H1 H2 b ∨ b = P → b < w7.heap.size) := PR7.out.uP
          have KG : Hid (∀ y b, Below w7.heap.size w7 y → w7.heap.size ≤ b → Oct y (some ⟨b, 0, none⟩) fk xs → Calls Tryz.prog 38 #[.pointer U, .int .i64 sl, .int .i64 lb, .int .u64 (gn : Int), .slice (some ⟨b, 0, none⟩) fk fk] y fun e y' => e = .returned (.int .i64 v0) ∧ Pr w P p n (12 * i + 10) pw D q E (some ⟨t, 0, none⟩) U F7 (Ext G y y') H1 H2 m2 m2 (some L2) (some L2) y' ∧ y'.heap[P]? = y.heap[P]? ∧ Kp y (Us F7 pw G q H1 H2) y' (Us F7 pw (Ext G y y') q H1 H2)) := fun y b hy hb ho =>
            (PR7.out.below hy).rfill HP.out GK.out.1 (by omega) sl lb gn HFK.out ho (fun k off _ e => by
              injection e with e
              injection e with e
              subst e
              exact ⟨fun x => by have := HUP.out b (.inl (.inr (.inl x))); omega, fun x => by have := HUP.out b (.inl (.inr (.inr (.inr x)))); omega⟩) (v0, L2, m2) HR.out
          have a1 := BX7.out.cells 1 _ rfl
          have a2 := BX7.out.cells 2 _ rfl
          have a3 := BX7.out.cells 3 _ rfl
          have a4 := BX7.out.cells 4 _ rfl
          have a5 := BX7.out.cells 5 _ rfl
          obtain ⟨c26, c27, c28, c29, c30, c31, cf⟩ := phead_all PH7.out
          go_wp2_with fail
          go_region_held (fun x => x.cell? ⟨P, 31, none⟩ = some (.pointer U) ∧ x.cell? ⟨bA, 1, none⟩ = some (.int .i64 sl) ∧ x.cell? ⟨bA, 2, none⟩ = some (.int .i64 lb) ∧ x.cell? ⟨bA, 3, none⟩ = some (.int .u64 (gn : Int)) ∧ x.cell? ⟨bA, 4, none⟩ = some (.int .u8 (fi.toNat : Int)) ∧ x.cell? ⟨bA, 5, none⟩ = some (.int .i64 sz)) (first | go_keep | exact ⟨(phead_all PH9.out).2.2.2.2.2.1, BX9.out.cells 1 _ rfl, BX9.out.cells 2 _ rfl, BX9.out.cells 3 _ rfl, BX9.out.cells 4 _ rfl, BX9.out.cells 5 _ rfl⟩ | exact ⟨(phead_all PH8.out).2.2.2.2.2.1, BX8.out.cells 1 _ rfl, BX8.out.cells 2 _ rfl, BX8.out.cells 3 _ rfl, BX8.out.cells 4 _ rfl, BX8.out.cells 5 _ rfl⟩)
            (first
              | (go_at_call 13; (with_reducible refine (FA.out _).mono ?_); rintro e w8 ⟨b8, rfl, hb8, o8, b2⟩; have B8 : Hid (Below w7.heap.size w7 w8) := below_of_drew b2; have HB8 : Hid (w7.heap.size ≤ b8) := hb8; have O8 := Lib.hid o8; have PH8 : Hid (PHead w8 P p pw D q E (some ⟨t, 0, none⟩) U) := PH7.out.below B8.out; have BX8 := Lib.hid (BX7.out.kp (Kp'.of_below B8.out P _)); clear b2 hb8 o8)
              | (go_at_call 38; (with_reducible refine (KG.out _ _ B8.out HB8.out O8.out).mono ?_); rintro e w9 ⟨rfl, p9, h9, k9⟩; have PR9 := Lib.hid p9; have PH9 := Lib.hid (PH8.out.of h9); have K9 := Lib.hid (Kp'.trans (Kp'.trans K7.out (Kp'.of_below B8.out P _)) (k9.but P)); have BX9 := Lib.hid (BX8.out.kp (k9.but P)); clear p9 h9 k9))
          all_goals
            clear a1 a2 a3 a4 a5 c26 c27 c28 c29 c30 c31 cf O8 HB8 PH8 BX8 KG HUP PR7 PH7 K7 BX7
            have a1 := BX9.out.cells 1 _ rfl
            have c28 := (phead_all PH9.out).2.2.1
            have KW : Hid (∀ k, Calls Tryz.prog 14 #[.pointer (some ⟨t, 0, none⟩), .int .i64 sl] (w9.drewN k) fun e w' => e = .returned (.int .u32 ((wearZ L2 sl).toNat : Int)) ∧ w9.drewN k = w') := fun k => by
              obtain ⟨t', g', e, _, _, hl⟩ := (PR9.out.below (below_drewN (Below.refl _ _) k)).st1
              injection e with e; injection e with e; subst e
              exact wear_any hl sl
            obtain ⟨kq, q1, q2, q3, q4, q5⟩ := HW.out
            have KT : Hid (∀ k, Calls Tryz.prog 37 #[.pointer (some ⟨t, 0, none⟩)] (w9.drewN k) fun e w' => e = .returned (.int .u64 (total L2 : Int)) ∧ w9.drewN k = w') := fun k => by
              obtain ⟨t', g', e, _, _, hl⟩ := (PR9.out.below (below_drewN (Below.refl _ _) k)).st1
              injection e with e; injection e with e; subst e
              exact total_any hl
            have hlt := (wearZ L2 sl).toNat_lt
            have hlt2 : (wearZ L2 sl).toNat < 4294967296 := hlt
            clear hlt
            generalize (wearZ L2 sl).toNat = r2 at KW q3 hlt2
            generalize (wearZ gi sl).toNat = r1 at q3 ⊢
            generalize total L2 = t2 at KT q4
            generalize total gi = t1 at q4 q5 ⊢
            have hsub : IntKind.u32.wrap ((r2 : Int) - (r1 : Int)) = (kq : Int) := by
              rw [show ((r2 : Int) - (r1 : Int)) = (kq : Int) by omega]
              rw [IntKind.wrap_u32]; omega
            have hadd : IntKind.u64.wrap ((t1 : Int) + (kq : Int)) = (t2 : Int) := by
              rw [IntKind.wrap_u64]; omega
            have NUM : Hid (kq ≤ 1 ∧ (v0 = 0 → kq = 1)) := ⟨q1, q2⟩
            clear q1 q2 q3 q4 q5 hlt2
            go_wp2_with fail
            go_quiet ((first
              | (go_at_call 14; exact quiet (KW.out _))))
            have BQ : Hid (Below w9.heap.size w9 (w9.drewN nq)) := below_drewN (Below.refl _ _) nq
            have PR10 := Lib.hid (PR9.out.below BQ.out)
            have PH10 := Lib.hid (PH9.out.below BQ.out)
            have K10 := Lib.hid (Kp'.trans K9.out (Kp'.of_below BQ.out P _))
            have KT10 := Lib.hid (KT.out nq)
            generalize w9.drewN nq = w10 at PR10 PH10 K10 KT10 ⊢
            clear a1 c28 KW KT BQ PR9 PH9 K9 BX9
            have c28 := (phead_all PH10.out).2.2.1
            have hcv : IntKind.u64.wrap (kq : Int) = (kq : Int) := by have := NUM.out.1; rw [IntKind.wrap_u64]; omega
            obtain ⟨q1, q2⟩ := NUM.out
            have hkq : kq = 0 ∨ kq = 1 := by omega
            rcases hkq with rfl | rfl
            · have hv : ¬ v0 = 0 := fun e => by have := q2 e; omega
              have hvb : (v0 == 0) = false := by simpa using hv
              have hadd0 : IntKind.u64.wrap (t1 : Int) = (t2 : Int) := by
                have := hadd
                rwa [show ((0 : Nat) : Int) = 0 from rfl, Int.add_zero] at this
              clear q1 q2 NUM hadd hcv
              go_wp2_with fail
              refine KT10.out.mono ?_; rintro e w' ⟨rfl, rfl⟩
              go_wp2
              go_roundw
              case rel => exact ⟨i + 1, by omega, by go_num, m2, L2, ⟨pw, D, q, E, _, U, F7, _, H1, H2, PR10.out.more (by omega) (by omega), PH10.out, K10.out⟩, HQ.out⟩
              case measure => simp [intOf]; omega
            · have hadd1 : IntKind.u64.wrap ((t1 : Int) + 1) = (t2 : Int) := hadd
              clear hadd hcv
              by_cases hv : v0 = 0
              · subst hv
                clear q1 q2 NUM
                go_wp2_with fail
                refine KT10.out.mono ?_; rintro e w' ⟨rfl, rfl⟩
                go_wp2
                go_roundw
                case rel => exact ⟨i + 1, by omega, by go_num, m2, L2, ⟨pw, D, q, E, _, U, F7, _, H1, H2, PR10.out.more (by omega) (by omega), PH10.out, K10.out⟩, HQ.out⟩
                case measure => simp [intOf]; omega
              · have hvb : (v0 == 0) = false := by simpa using hv
                clear q1 q2 NUM
                go_wp2_with fail
                refine KT10.out.mono ?_; rintro e w' ⟨rfl, rfl⟩
                go_wp2
                go_roundw
                case rel => exact ⟨i + 1, by omega, by go_num, m2, L2, ⟨pw, D, q, E, _, U, F7, _, H1, H2, PR10.out.more (by omega) (by omega), PH10.out, K10.out⟩, HQ.out⟩
                case measure => simp [intOf]; omega
      · have hk0' : (kind == 0) = false := by simpa using hk0
        have LD4 : Hid ((Instr.loadAt 34 (.pointer (some ⟨bA, 0, none⟩))).run Tryz.prog w4 = .ok (.agg #[.int .i64 kind, .int .i64 sl, .int .i64 lb, .int .u64 (gn : Int), .int .u8 (fi.toNat : Int), .int .i64 sz, .int .i64 zn, .int .i64 bit, .int .u32 (tn : Int), .int .u64 (u : Int), .int .u64 (v : Int), .slice ffa ffl ffc, .bool hx.u, .int .i64 hx.l, .int .u64 (hx.g : Int), .int .u32 (hx.s.toNat : Int), .int .u32 (hx.r.toNat : Int)]) w4) := by
          have := run_load_cells (P := Tryz.prog) (cs := [.int .i64 kind, .int .i64 sl, .int .i64 lb, .int .u64 (gn : Int), .int .u8 (fi.toNat : Int), .int .i64 sz, .int .i64 zn, .int .i64 bit, .int .u32 (tn : Int), .int .u64 (u : Int), .int .u64 (v : Int), .slice ffa ffl ffc, .bool hx.u, .int .i64 hx.l, .int .u64 (hx.g : Int), .int .u32 (hx.s.toNat : Int), .int .u32 (hx.r.toNat : Int)]) (w := w4) (b := bA) (off := 0) Tryz.underlying34 rfl act_info rfl fun j v hv => by
            have := cell_of_row w4 bA j _ _ _ H4'.out
            rw [Nat.zero_add]
            rw [this]
            simpa using hv
          exact this
        have DO4 := Lib.hid (DO2.out w4 B4.out)
        clear DO2 H4' LD2
        go_wp2_with ((with_reducible apply L_ld); exact rfl; exact LD4.out)
        refine DO4.out.mono ?_; rintro e w5 ⟨rfl, m3, g3, s3, k3, z3⟩
        have ST3 := Lib.hid s3
        have K3 := Lib.hid k3
        have Z3 := Lib.hid z3
        clear s3 k3 z3
        go_wp2
        go_roundw
        case rel => exact ⟨i + 1, by omega, by go_num, m3, g3, by rw [show 12 * (i + 1) = 12 * i + 12 by omega]; exact ST3.out, K3.out, Z3.out⟩
        case measure => simp [intOf]; omega
    · rcases hend with hend | ⟨hend, hend2⟩
      all_goals
        go_wp2_with fail
        refine (awake_any _ (HE.out.below BE.out)).mono ?_; rintro e w6 ⟨rfl, b6⟩
        have B6 := Lib.hid (bthen BE.out b6)
        clear b6
        go_wp2
        go_ret
        exact ⟨rfl, B6.out⟩
theorem wears_law (W : World) (a0 : Int) (w0 : (Lit.int .u16 a0).wf = true) (D : Option Addr) (n c : Nat) (L : Nat → ActV) (hl : n ≤ c) (hm : c ≤ maxLen) (h : Acts W D n L) (he : EnvH W) :
    Calls Tryz.prog 6 #[.int .u16 a0, .slice D n c] W fun e w' => e = .returned (.bool true) ∧ Below W.heap.size W w' := by
  simp [Lit.wf, IntKind.min, IntKind.max, IntKind.signed, IntKind.bits] at w0
  obtain ⟨x, rfl⟩ := Int.eq_ofNat_of_zero_le w0.1
  exact wears_walk x (by omega) h (Nat.le_trans hl hm) he
end
end Go.Proofs.YtapklelkcicjlaaGreatDoor.Pd.Sl
