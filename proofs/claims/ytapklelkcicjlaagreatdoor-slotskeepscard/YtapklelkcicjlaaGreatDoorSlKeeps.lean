/-
  The walk of the statement on slots behind a crash. No conditions.
-/
import Derived.Test.YtapklelkcicjlaaGreatDoorKSk
import Derived.BigQuiet
import Derived.Deep.RegionHeld
import Derived.Deep.DrawnRows
import Derived.Deep.CutRange
import Derived.Deep.CutBlock
import Derived.Test.YtapklelkcicjlaaGreatDoorGateAll
namespace Go.Proofs.YtapklelkcicjlaaGreatDoor.Pd.Sl
set_option maxRecDepth 100000
open Go.RowKit Oc Dm W Dw Sr Gt W.Hd
set_option linter.unusedVariables false
set_option maxRecDepth 100000
attribute [local go_sem ↓] Go.wp_at_zero Go.wp_at_succ
theorem fuse_ok {s : PS} {z : Int} (ho : s.off = false) (h0 : 0 ≤ z) (h1 : z ≤ 1048576) : PS.fuseE s z = 0 := by
  unfold PS.fuseE
  rw [if_neg (by rw [ho]; decide), if_neg (by omega)]
/-- where the device, and the law's own row, stand on the way -/
def Way (w : World) (P : Nat) (p : Pn.Pl) (n ns la pw D q E t : Nat) (U : Option Addr) (G H1 H2 : Nat → Prop) (L0 : List Slt) (Fl : Nat → Int → Nat → List UInt8 → Prop) (bW N : Nat) (wr : World) : Prop :=
  ∃ F m L wl, Pr w P p n N pw D q E (some ⟨t, 0, none⟩) U F G H1 H2 m m00 (some L) (some L0) wr ∧ PHead wr P p pw D q E (some ⟨t, 0, none⟩) U ∧ L.length = ns ∧ Keep Fl la ns m.S (rsOf L) (gets wl) ∧ wl.length = ns ∧ Wr wr w.heap.size (fun b => Us F pw G q H1 H2 b ∨ b = P) bW wl
/-- what was filled, by acts -/
def FlA (L : Nat → ActV) (k : Nat) (i : Nat) (b : Int) (g : Nat) (xs : List UInt8) : Prop := ∃ j, j < k ∧ (L j).slot = (i : Int) ∧ (L j).lba = b ∧ (L j).gn = g ∧ List.replicate 64 (L j).fill = xs
theorem Keep.more {Fl Fl' : Nat → Int → Nat → List UInt8 → Prop} {la k : Nat} {S : Nat → Sec} {rs : Nat → UInt32} {ws : Nat → Nat} (h : Keep Fl la k S rs ws) (hF : ∀ i b g xs, Fl i b g xs → Fl' i b g xs) : Keep Fl' la k S rs ws :=
  ⟨fun i hi x hx => by
    rcases h.hd i hi x hx with e | e | ⟨b, g, ys, r, e, h1, h2, h3⟩
    · exact .inl e
    · exact .inr (.inl e)
    · exact .inr (.inr ⟨b, g, ys, r, e, h1, hF _ _ _ _ h2, h3⟩), h.wr⟩
section
variable {w : World} {k c : Nat} {A : Option Addr} {L : Nat → ActV}
set_option maxHeartbeats 40000000 in
theorem keeps_walk (x : Nat) (hx : x ≤ 65535) (ha : Acts w A k L) (hkc : k ≤ c) (hc : c ≤ maxLen) (fu : Nat) (hfu : fu ≤ 255) (fa : Option Addr) (ll lc : Nat) (fs : List Int) (hfs : Fi w fa ll fs) (hll : ll ≤ maxLen) (RA : Option Addr) (rk rc : Nat) (RL : Nat → ActV) (hra : Acts w RA rk RL) (hrk : rk ≤ maxLen) (he : EnvH w) :
    Calls Tryz.prog 4 #[.int .u16 (x : Int), .slice A k c, .int .u8 (fu : Int), .slice fa ll lc, .slice RA rk rc] w fun e w' => e = .returned (.bool true) ∧ Below w.heap.size w w' := by
  obtain ⟨xm, hxm⟩ : ∃ f : Nat, (x : Int) % 6 = (f : Int) := ⟨x % 6, by omega⟩
  have hx2 : xm ≤ 65535 := by omega
  obtain ⟨p, la, ns, n, hP, hnse, hB⟩ := begin_some xm hx2 w he
  clear hnse
  have HB := Lib.hid hB
  have HP := Lib.hid hP
  have HE := Lib.hid he
  have HA := Lib.hid ha
  have HRA := Lib.hid hra
  have HFS := Lib.hid hfs
  have HKC : Hid (k ≤ c ∧ c ≤ maxLen) := ⟨hkc, hc⟩
  have hns : ns ≤ 256 := hP.hl2
  have hrk9 : (rk : Int) ≤ 9223372036854775807 := by unfold maxLen at hrk; omega
  have hk9 : (k : Int) ≤ 9223372036854775807 := by unfold maxLen at hc; omega
  have hll9 : ll ≤ 9223372036854775807 := by unfold maxLen at hll; omega
  have G0 : Hid ((fresh ns).length = ns ∧ ∀ Fl, Keep Fl la ns m00.S (rsOf (fresh ns)) (gets (List.replicate ns 0))) := ⟨fresh_len ns, fun _ => keep_start la ns⟩
  obtain ⟨L0, hL0⟩ : ∃ L0, L0 = fresh ns := ⟨_, rfl⟩
  rw [← hL0] at HB G0
  clear hB hP he ha hx2 hfs hra hL0 hc hkc
  go_enter Tryz.func4, Tryz.ntmps4
  go_wp2_with fail
  refine HB.out.mono ?_; rintro e w1 ⟨P, rfl, st1⟩
  obtain ⟨pw, D, q, E, T, U, F1, G, H1, H2, r, hh, kk⟩ := st1
  obtain ⟨t, g, rfl, _, _, _⟩ := r.st1
  have PR1 := Lib.hid r
  have PH1 := Lib.hid hh
  clear r hh kk HB hxm
  have c26 := (phead_all PH1.out).1
  go_wp2_with fail
  refine (PR1.out.fuse (fu : Int)).mono ?_; rintro e w2 ⟨rfl, p2, h2, k2⟩
  rw [fuse_ok (s := m00.s) rfl (by omega) (by omega)]
  have PR2 := Lib.hid p2
  have PH2 := Lib.hid (PH1.out.of h2)
  clear c26 PR1 PH1 p2 h2 k2
  go_upto_if 47 with fail
  go_cut [1] from 45 to 49 (fun s1 wc => ∃ k2 c2, s1 = .slice A k2 c2 ∧ k2 ≤ 20 ∧ k2 ≤ k ∧ wc = w2)
  case first =>
    by_cases h20 : k ≤ 20
    · have h20' : ¬ (20 : Int) < (k : Int) := by omega
      go_wp2
      go_meet
      exact ⟨k, c, rfl, h20, Nat.le_refl _, rfl⟩
    · have h20' : (20 : Int) < (k : Int) := by omega
      have hc20 : 20 ≤ c := by have := HKC.out.1; omega
      have hc21 : (20 : Int) ≤ (c : Int) := by omega
      go_wp2
      go_meet
      exact ⟨20, c, rfl, Nat.le_refl _, by omega, rfl⟩
  case rest =>
    obtain ⟨k2, c2, rfl, hk20, hk2, hw⟩ := hcut
    subst hw
    have HA2 : Hid (Acts w A k2 L) := fun i hi => HA.out i (by omega)
    clear HA HKC
    have c22 : wc.cell? ⟨P, 22, none⟩ = some (.int .i64 (ns : Int)) := by rw [← HP.out.h9]; exact (PH2.out.cell 22).1
    go_wp2_with (at_make; refine Rw.wpList_make_row rfl _ _ _ rfl u32_row _ _ ns rfl rfl rfl rfl (by omega) ?_; intro w3 o3 b3; have O3 := Lib.hid o3; have B3 := Lib.hid b3; clear o3 b3)
    have SZ : Hid (w.heap.size ≤ wc.heap.size) := PR2.out.bel.size
    have W3 : Hid (Way w P p n ns la pw D q E t U G H1 H2 L0 (FlA L k2) wc.heap.size 0 w3) := ⟨_, _, L0, List.replicate ns 0, PR2.out.below B3.out, PH2.out.below B3.out, G0.out.1, G0.out.2 _, List.length_replicate, ⟨by rw [List.length_replicate, List.map_replicate]; exact O3.out.more SZ.out, fun y => Nat.lt_irrefl _ (PR2.out.uP _ y), SZ.out⟩⟩
    clear O3 B3 SZ PR2 PH2 c22 G0
    generalize wc.heap.size = bW at W3 ⊢
    go_wp2
    go_loopw [14] (fun q14 wr => ∃ i : Nat, i ≤ k2 ∧ q14 = .int .i64 (i : Int) ∧ Hid (Way w P p n ns la pw D q E t U G H1 H2 L0 (FlA L k2) bW (6 * i) wr)) (fun q14 _ => k2 - (intOf q14).toNat)
    case atStart => exact ⟨0, Nat.zero_le _, rfl, W3⟩
    case round =>
      obtain ⟨i, hi, rfl, WI⟩ := hrel
      clear W3
      obtain ⟨F, m, Lc, wl, pr, ph, hl, kp, hwl, wr_⟩ := WI.out
      have PR := Lib.hid pr
      have PH := Lib.hid ph
      have HL := Lib.hid hl
      have KP := Lib.hid kp
      have WL := Lib.hid hwl
      have WR := Lib.hid wr_
      clear pr ph hl kp hwl wr_ WI
      by_cases h1 : i < k2
      · have h1' : (i : Int) < (k2 : Int) := by omega
        obtain ⟨bb, off, rfl, hld, _⟩ := act_load HA2.out h1
        have LD := Lib.hid (hld wr PR.out.bel)
        have HFL : Hid (∀ s : Nat, (L i).slot = (s : Int) → FlA L k2 s (L i).lba (L i).gn (List.replicate 64 (L i).fill)) := fun s e => ⟨i, h1, e, rfl, rfl, rfl⟩
        clear hld
        generalize L i = y at LD HFL
        obtain ⟨kind, sl, lb, gn, fi, sz, zn, bit, tn, u, v, ffa, ffl, ffc, ffs, hx⟩ := y
        have LD2 : Hid ((Instr.loadAt 34 (.pointer (some ⟨bb, off + i * 17, none⟩))).run Tryz.prog wr = .ok (.agg #[.int .i64 kind, .int .i64 sl, .int .i64 lb, .int .u64 (gn : Int), .int .u8 (fi.toNat : Int), .int .i64 sz, .int .i64 zn, .int .i64 bit, .int .u32 (tn : Int), .int .u64 (u : Int), .int .u64 (v : Int), .slice ffa ffl ffc, .bool hx.u, .int .i64 hx.l, .int .u64 (hx.g : Int), .int .u32 (hx.s.toNat : Int), .int .u32 (hx.r.toNat : Int)]) wr) := LD.out
        have HF2 : Hid (∀ s : Nat, sl = (s : Int) → FlA L k2 s lb gn (List.replicate 64 fi)) := HFL.out
        clear LD HFL
        obtain ⟨bA, hbA⟩ : ∃ bA, bA = wr.heap.size := ⟨_, rfl⟩
        have HBA := Lib.hid hbA
        clear hbA
        go_upto_region 11 with ((with_reducible apply L_ld); exact rfl; exact LD2.out)
        have B4 : Hid (Below wr.heap.size wr (wr.alloc (.cells #[.int .i64 kind, .int .i64 sl, .int .i64 lb, .int .u64 (gn : Int), .int .u8 (fi.toNat : Int), .int .i64 sz, .int .i64 zn, .int .i64 bit, .int .u32 (tn : Int), .int .u64 (u : Int), .int .u64 (v : Int), .slice ffa ffl ffc, .bool hx.u, .int .i64 hx.l, .int .u64 (hx.g : Int), .int .u32 (hx.s.toNat : Int), .int .u32 (hx.r.toNat : Int)] 34))) := balloc _ _
        have H4' : Hid ((wr.alloc (.cells #[.int .i64 kind, .int .i64 sl, .int .i64 lb, .int .u64 (gn : Int), .int .u8 (fi.toNat : Int), .int .i64 sz, .int .i64 zn, .int .i64 bit, .int .u32 (tn : Int), .int .u64 (u : Int), .int .u64 (v : Int), .slice ffa ffl ffc, .bool hx.u, .int .i64 hx.l, .int .u64 (hx.g : Int), .int .u32 (hx.s.toNat : Int), .int .u32 (hx.r.toNat : Int)] 34)).heap[bA]? = some (.cells #[.int .i64 kind, .int .i64 sl, .int .i64 lb, .int .u64 (gn : Int), .int .u8 (fi.toNat : Int), .int .i64 sz, .int .i64 zn, .int .i64 bit, .int .u32 (tn : Int), .int .u64 (u : Int), .int .u64 (v : Int), .slice ffa ffl ffc, .bool hx.u, .int .i64 hx.l, .int .u64 (hx.g : Int), .int .u32 (hx.s.toNat : Int), .int .u32 (hx.r.toNat : Int)] 34 (0, 0))) := by show _ = _; rw [HBA.out]; exact heap_alloc_new _ _
        rw [← HBA.out]
        generalize wr.alloc (.cells #[.int .i64 kind, .int .i64 sl, .int .i64 lb, .int .u64 (gn : Int), .int .u8 (fi.toNat : Int), .int .i64 sz, .int .i64 zn, .int .i64 bit, .int .u32 (tn : Int), .int .u64 (u : Int), .int .u64 (v : Int), .slice ffa ffl ffc, .bool hx.u, .int .i64 hx.l, .int .u64 (hx.g : Int), .int .u32 (hx.s.toNat : Int), .int .u32 (hx.r.toNat : Int)] 34) = w5 at B4 H4' ⊢
        have PR5 := Lib.hid (PR.out.below B4.out)
        have PH5 := Lib.hid (PH.out.below B4.out)
        have WR5 := Lib.hid (WR.out.below B4.out)
        have BX5 : Hid (Bx w5 P (Us F pw G q H1 H2) bA #[.int .i64 kind, .int .i64 sl, .int .i64 lb, .int .u64 (gn : Int), .int .u8 (fi.toNat : Int), .int .i64 sz, .int .i64 zn, .int .i64 bit, .int .u32 (tn : Int), .int .u64 (u : Int), .int .u64 (v : Int), .slice ffa ffl ffc, .bool hx.u, .int .i64 hx.l, .int .u64 (hx.g : Int), .int .u32 (hx.s.toNat : Int), .int .u32 (hx.r.toNat : Int)]) := ⟨fun j v e => (cell_of_row _ _ j _ _ _ H4'.out).trans e, lt_of_heap H4'.out, fun z => by have := PR.out.uP bA z; have := HBA.out; omega⟩
        clear H4' B4 HBA LD2 PR PH WR
        obtain ⟨xs, hxs⟩ : ∃ xs, List.replicate 64 fi = xs := ⟨_, rfl⟩
        rw [hxs] at HF2
        have FA : Hid (∀ y, Calls Tryz.prog 13 #[.int .u8 (fi.toNat : Int), .int .i64 0] y fun e y' => ∃ b, e = .returned (.slice (some ⟨b, 0, none⟩) 64 64) ∧ y.heap.size ≤ b ∧ Oct y' (some ⟨b, 0, none⟩) 64 xs ∧ Below y.heap.size y y') := fun y => by
          have := fill_sec y fi
          rw [hxs] at this
          exact this
        clear hxs
        obtain ⟨v0, L2, m2, hr⟩ : ∃ v0 L2 m2, Sl.fill la sl lb gn xs Lc m = (v0, L2, m2) := ⟨_, _, _, rfl⟩
        have HR := Lib.hid hr
        have HL2 : Hid (L2.length = ns) := by
          have : (Sl.fill la sl lb gn xs Lc m).2.1.length = Lc.length := by
            unfold Sl.fill
            split
            · rfl
            split
            · rfl
            split
            · rfl
            split
            · rfl
            exact List.length_set
          rw [hr] at this
          exact this.trans HL.out
        have KP2 : Hid (Keep (FlA L k2) la ns m2.S (rsOf L2) (if v0 = 0 then put (gets wl) sl.toNat (wearZ L2 sl).toNat else gets wl) ∧ (v0 = 0 → hasZ Lc sl)) := KP.out.fillz HL.out (fun hz => HF2.out _ (by have := hz.1; omega)) (v0, L2, m2) hr
        clear hr KP
        have HUP : Hid (∀ b, Us F pw G q H1 H2 b ∨ b = P → b < w5.heap.size) := PR5.out.uP
        have KF : Hid (∀ y b, Below w5.heap.size w5 y → w5.heap.size ≤ b → Oct y (some ⟨b, 0, none⟩) 64 xs → Calls Tryz.prog 12 #[.pointer (some ⟨t, 0, none⟩), .int .i64 sl, .int .i64 lb, .int .u64 (gn : Int), .slice (some ⟨b, 0, none⟩) 64 64] y fun e y' => e = .returned (.int .i64 v0) ∧ Pr w P p n (6 * i + 5) pw D q E (some ⟨t, 0, none⟩) U (Ext F y y') G H1 H2 m2 m00 (some L2) (some L0) y' ∧ y'.heap[P]? = y.heap[P]? ∧ Kp y (Us F pw G q H1 H2) y' (Us (Ext F y y') pw G q H1 H2)) := fun y b hy hb ho =>
          (PR5.out.below hy).fill HE.out HP.out HL.out (by omega) sl lb gn (by decide) ho (fun k off _ e => by
            injection e with e
            injection e with e
            subst e
            exact ⟨fun x => by have := HUP.out b (.inl (.inl x)); omega, fun x => by have := HUP.out b (.inl (.inr (.inr (.inl x)))); omega⟩) (v0, L2, m2) HR.out
        have a1 := BX5.out.cells 1 _ rfl
        have a2 := BX5.out.cells 2 _ rfl
        have a3 := BX5.out.cells 3 _ rfl
        have a4 := BX5.out.cells 4 _ rfl
        obtain ⟨c26, c27, c28, c29, c30, c31, cf⟩ := phead_all PH5.out
        go_wp2_with fail
        go_region_held (fun x => x.cell? ⟨P, 28, none⟩ = some (.pointer (some ⟨t, 0, none⟩)) ∧ x.cell? ⟨bA, 1, none⟩ = some (.int .i64 sl) ∧ x.cell? ⟨bA, 2, none⟩ = some (.int .i64 lb) ∧ x.cell? ⟨bA, 3, none⟩ = some (.int .u64 (gn : Int)) ∧ x.cell? ⟨bA, 4, none⟩ = some (.int .u8 (fi.toNat : Int))) (first | go_keep | exact ⟨(phead_all PH7.out).2.2.1, BX7.out.cells 1 _ rfl, BX7.out.cells 2 _ rfl, BX7.out.cells 3 _ rfl, BX7.out.cells 4 _ rfl⟩ | exact ⟨(phead_all PH6.out).2.2.1, BX6.out.cells 1 _ rfl, BX6.out.cells 2 _ rfl, BX6.out.cells 3 _ rfl, BX6.out.cells 4 _ rfl⟩)
          (first
            | (go_at_call 13; (with_reducible refine (FA.out _).mono ?_); rintro e w6 ⟨b6, rfl, hb6, o6, b2⟩; have B6 : Hid (Below w5.heap.size w5 w6) := below_of_drew b2; have HB6 : Hid (w5.heap.size ≤ b6) := hb6; have O6 := Lib.hid o6; have PH6 : Hid (PHead w6 P p pw D q E (some ⟨t, 0, none⟩) U) := PH5.out.below B6.out; have BX6 := Lib.hid (BX5.out.kp (Kp'.of_below B6.out P _)); have WR6 := Lib.hid (WR5.out.below B6.out); clear b2 hb6 o6)
            | (go_at_call 12; (with_reducible refine (KF.out _ _ B6.out HB6.out O6.out).mono ?_); rintro e w7 ⟨rfl, p7, h7, k7⟩; have PR7 := Lib.hid p7; have PH7 := Lib.hid (PH6.out.of h7); have WR7 := Lib.hid (WR6.out.kp (k7.but P)); have BX7 := Lib.hid (BX6.out.kp (k7.but P)); clear p7 h7 k7))
        all_goals
          clear a1 a2 a3 a4 c26 c27 c28 c29 c30 c31 cf O6 HB6 PH6 BX6 WR6 KF HUP FA PR5 PH5 WR5 BX5
          generalize Ext F w6 w7 = F7 at PR7 BX7 WR7
          by_cases hv : v0 = 0
          · subst hv
            obtain ⟨s0, hs0, hs1⟩ : ∃ s0 : Nat, sl = (s0 : Int) ∧ s0 < ns := by
              have := KP2.out.2 rfl
              have h3 := this.1
              have h4 := this.2
              rw [HL.out] at h4
              exact ⟨sl.toNat, by omega, by omega⟩
            subst hs0
            have KP3 : Hid (Keep (FlA L k2) la ns m2.S (rsOf L2) (gets (wl.set s0 (wearZ L2 (s0 : Int)).toNat))) := by
              have := KP2.out.1
              rw [if_pos rfl, Int.toNat_natCast] at this
              rw [gets_set (by rw [WL.out]; exact hs1)]
              exact this
            have hs2 : (s0 : Int) < (ns : Int) := by omega
            have KW : Hid (∀ y, Below w7.heap.size w7 y → Calls Tryz.prog 14 #[.pointer (some ⟨t, 0, none⟩), .int .i64 (s0 : Int)] y fun e w' => e = .returned (.int .u32 ((wearZ L2 (s0 : Int)).toNat : Int)) ∧ y = w') := fun y hy => by
              obtain ⟨t', g', e, _, _, hl⟩ := (PR7.out.below hy).st1
              injection e with e; injection e with e; subst e
              exact wear_any hl _
            obtain ⟨cw, fw⟩ := (WR7.out.below (bdrew w7)).cell (i := s0) (by rw [WL.out]; exact hs1)
            obtain ⟨wp, gp⟩ := WR7.out.put s0 (wearZ L2 (s0 : Int)).toNat
            have WP := Lib.hid wp
            have GP := Lib.hid gp
            clear wp gp KP2
            generalize (wearZ L2 (s0 : Int)).toNat = rv at KP3 KW WP GP
            go_upto_region 12 with fail
            refine gate (fun y => y.cell? ⟨P, 28, none⟩ = some (.pointer (some ⟨t, 0, none⟩)) ∧ y.cell? ⟨bA, 1, none⟩ = some (.int .i64 (s0 : Int))) 11 [0, 1, 2, 3, 4, 5, 6, 7, 8] 3 (by kernel_rfl) (by kernel_rfl) (by kernel_rfl) rfl ?_ ⟨(phead_all PH7.out).2.2.1, BX7.out.cells 1 _ rfl⟩ ?_
            · intro d v c a w h
              cases d <;> exact h
            refine yields_step ?_ rfl rfl ?_ ?_
            rotate_left
            · intro y hS; go_simp; rfl
            refine yields_step ?_ rfl rfl ?_ ?_
            rotate_left
            · intro y hS; go_simp; rfl
            refine yields_step (.int .i64 (s0 : Int)) rfl rfl ?_ ?_
            · intro y hS; obtain ⟨z1, z2⟩ := hS; go_simp
            refine yields_step ?_ rfl rfl ?_ ?_
            rotate_left
            · intro y hS; go_simp; rfl
            refine yields_step ?_ rfl rfl ?_ ?_
            rotate_left
            · intro y hS; go_simp; rfl
            refine yields_step ?_ rfl rfl ?_ ?_
            rotate_left
            · intro y hS; go_simp; rfl
            refine yields_step (.pointer (some ⟨t, 0, none⟩)) rfl rfl ?_ ?_
            · intro y hS; obtain ⟨z1, z2⟩ := hS; go_simp
            refine yields_step ?_ rfl rfl ?_ ?_
            rotate_left
            · intro y hS; go_simp; rfl
            refine yields_step (.int .i64 (s0 : Int)) rfl rfl ?_ ?_
            · intro y hS; obtain ⟨z1, z2⟩ := hS; go_simp
            refine Gate.next (i := 9) (by kernel_rfl) rfl rfl (fun K hK => ?_)
            go_simp
            refine (KW.out _ (bdrew w7)).mono ?_; rintro e w' ⟨rfl, rfl⟩
            refine hK _ _ (fun _ => ⟨(phead_all PH7.out).2.2.1, BX7.out.cells 1 _ rfl⟩) ?_
            clear hK K
            refine Gate.next (i := 10) (by kernel_rfl) rfl rfl (fun K hK => ?_)
            go_simp
            refine hK _ _ (fun _ => ⟨(phead_all PH7.out).2.2.1, BX7.out.cells 1 _ rfl⟩) ?_
            clear hK K
            refine Gate.next (i := 11) (by kernel_rfl) rfl rfl (fun K hK => ?_)
            go_simp
            refine hK _ _ (fun h => absurd rfl h) ?_
            clear hK K
            refine Gate.done (by kernel_rfl) ?_
            have PR8 := Lib.hid (PR7.out.out WR7.out.off WR7.out.lo GP.out)
            have PH8 : Hid (PHead (w7.setCell ⟨bW, s0, none⟩ (.int .u32 (rv : Int))) P p pw D q E (some ⟨t, 0, none⟩) U) := PH7.out.of (heap_setCell_other _ _ _ _ (fun e => WR7.out.off (.inr e.symm)))
            generalize w7.setCell ⟨bW, s0, none⟩ (.int .u32 (rv : Int)) = w8 at WP PR8 PH8 ⊢
            clear cw fw
            go_wp2
            go_roundw
            case rel => exact ⟨i + 1, by omega, by go_num, F7, m2, L2, wl.set s0 rv, (PR8.out.below (bdrew w8)).more (by omega) (by omega), PH8.out.below (bdrew w8), HL2.out, KP3.out, by rw [List.length_set]; exact WL.out, WP.out.below (bdrew w8)⟩
            case measure => simp [intOf]; omega
          · have hvb : (v0 == 0) = false := by simpa using hv
            have KP3 : Hid (Keep (FlA L k2) la ns m2.S (rsOf L2) (gets wl)) := by have := KP2.out.1; rw [if_neg hv] at this; exact this
            clear KP2
            go_wp2
            go_roundw
            case rel => exact ⟨i + 1, by omega, by go_num, F7, m2, L2, wl, PR7.out.more (by omega) (by omega), PH7.out, HL2.out, KP3.out, WL.out, WR7.out⟩
            case measure => simp [intOf]; omega
      · have h1' : ¬ (i : Int) < (k2 : Int) := by omega
        have KD : Hid (Calls Tryz.prog 15 #[.pointer (some ⟨pw, 0, none⟩)] wr fun e w' => e = .returned (.bool m.s.off) ∧ wr = w') := down_any PR.out.pd.pw
        have W4 : Hid (Way w P p n ns la pw D q E t U G H1 H2 L0 (FlA L k2) bW (6 * i + 1) wr) := ⟨F, m, Lc, wl, PR.out.more (by omega) (by omega), PH.out, HL.out, KP.out, WL.out, WR.out⟩
        obtain ⟨off0, hoff⟩ : ∃ b, m.s.off = b := ⟨_, rfl⟩
        rw [hoff] at KD
        clear hoff
        have c26 := (phead_all PH.out).1
        go_wp2_with fail
        refine KD.out.mono ?_; rintro e w' ⟨rfl, rfl⟩
        go_upto_if 97 with fail
        go_cut [13] from 92 to 102 (fun s13 wd => s13 = .slice (some ⟨bW, 0, none⟩) ns ns ∧ Hid (Way w P p n ns la pw D q E t U G H1 H2 L0 (FlA L k2) bW (6 * i + 1) wd))
        case first =>
          cases off0
          · have c27 := (phead_all PH.out).2.1
            go_wp2_with fail
            refine (PR.out.flush (by omega)).mono ?_; rintro e w5 ⟨rfl, p5, h5, k5⟩
            have KP5 : Hid (Keep (FlA L k2) la ns (fl1 m).2.S (rsOf Lc) (gets wl)) := by
              rcases fl1_S (m := m) with ⟨_, e⟩ | ⟨_, e⟩
              · show Keep _ _ _ _ _ _; rw [e]; exact KP.out
              · show Keep _ _ _ _ _ _; rw [e]; exact KP.out.flush
            have W5 : Hid (Way w P p n ns la pw D q E t U G H1 H2 L0 (FlA L k2) bW (6 * i + 1) w5) := ⟨_, _, Lc, wl, p5, PH.out.of h5, HL.out, KP5.out, WL.out, WR.out.kp (k5.but P)⟩
            clear p5 h5 k5 c27
            go_wp2
            go_meet
            exact ⟨rfl, W5⟩
          · go_wp2
            go_meet
            exact ⟨rfl, W4⟩
        case rest =>
          obtain ⟨rfl, WD⟩ := hcut
          clear W4 KD PR PH HL KP WL WR c26
          obtain ⟨F, m, Lc, wl, pr, ph, hl, kp, hwl, wr_⟩ := WD.out
          have PR := Lib.hid pr
          have PH := Lib.hid ph
          have KP := Lib.hid kp
          have WL := Lib.hid hwl
          have WR := Lib.hid wr_
          clear pr ph hl kp hwl wr_ WD
          have hN1 : 6 * i + 1 ≤ 1000 := by omega
          generalize 6 * i + 1 = NN at PR hN1
          go_upto_region 15 with fail
          have c27 := (phead_all PH.out).2.1
          obtain ⟨hn4, hsec⟩ := PR.out.pd.secs
          have HM : Hid (∀ x ∈ looseOf n m.S, x.2 ≤ 1000000000) := fun x hx => by
            obtain ⟨m1, m2, m3⟩ := mem_loose.1 hx
            have := (hsec x.1 m1).1
            omega
          have hL4 := loose_len n m.S
          have hfl := HFS.out.len
          have KMC : Hid (∀ j, Mays (m.S j) ((crashed n m.S fs).S j).stands) := fun j => crash_mays m.S fs j
          have LMC : Hid (∀ j, ((crashed n m.S fs).S j).loose = []) := fun j => crashTo_loose _ _ _ _ _
          have HCR : Hid (crashed n m.S fs = ⟨⟨false, none, 0⟩, crashTo n m.S (fits n m.S fs) (fits n m.S fs).length, 0, 0⟩) := rfl
          have HFT : Hid (fitOf (looseOf n m.S) fs (min ll (looseOf n m.S).length) = fits n m.S fs) := by show _ = _; unfold fits; rw [hfl]
          have HK : Hid ((fits n m.S fs).length ≤ (looseOf n m.S).length) := by rw [← HFT.out, fitOf_len]; exact Nat.min_le_right _ _
          have HG : Hid (∀ i, i < (fits n m.S fs).length → Dw.Good (looseOf n m.S) (fits n m.S fs) i) := fun i _ => by rw [← HFT.out]; exact fitOf_good _ _ _ i
          clear hsec hfl
          generalize crashed n m.S fs = mc at KMC LMC HCR
          generalize fits n m.S fs = ft at HCR HFT HK HG
          have KL : Hid (∀ y, Below wc.heap.size wc y → Calls Tryz.prog 20 #[.pointer (some ⟨D, 0, none⟩)] y (ToldL y (looseOf n m.S))) := fun y hy => by
            obtain ⟨fx, a, b, gg, x⟩ := (PR.out.below hy).pd.dv
            exact loose_any x
          have KFt : Hid (∀ y lb lk cc, Below wc.heap.size wc y → Lo y (some ⟨lb, 0, none⟩) lk (looseOf n m.S) → Calls Tryz.prog 19 #[.slice (some ⟨lb, 0, none⟩) lk cc, .slice fa ll lc] y (Fitted y ft)) := fun y lb lk cc hy hlo => by
            have hlk := hlo.1
            subst hlk
            have := fit_any y (some ⟨lb, 0, none⟩) fa _ cc ll lc (looseOf n m.S) fs hlo (HFS.out.below (PR.out.below hy).bel) (by omega) HM.out hll9
            rwa [HFT.out] at this
          have KC : Hid (∀ y A' c' pw', Below wc.heap.size wc y → Pw y pw' ⟨false, none, 0⟩ → Fi y A' ft.length ft → Calls Tryz.prog 17 #[.pointer (some ⟨D, 0, none⟩), .pointer (some ⟨pw', 0, none⟩), .slice A' ft.length c'] y (Crashed y pw' n NN (crashTo n m.S ft ft.length))) := fun y A' c' pw' hy hp hff => by
            obtain ⟨fx, a, b, gg, x⟩ := (PR.out.below hy).pd.dv
            exact crash_ok x hp hff HK.out HG.out
          go_wp2_with fail
          go_region_held (fun x => x.cell? ⟨P, 27, none⟩ = some (.pointer (some ⟨D, 0, none⟩))) (first | go_keep | exact (phead_all (PH.out.below B11.out)).2.1 | exact (phead_all (PH.out.below B10.out)).2.1 | exact (phead_all (PH.out.below B9.out)).2.1 | exact (phead_all (PH.out.below B8.out)).2.1)
            (first
              | (go_at_call 18; (with_reducible refine (newpower_any _).mono ?_); rintro e w8 ⟨rfl, p8, b8, z8⟩; have B8 : Hid (Below wc.heap.size wc w8) := bthen (bdrew _) b8; have P8 : Hid (Pw w8 wc.heap.size ⟨false, none, 0⟩) := p8; clear p8 b8 z8)
              | (go_at_call 20; (with_reducible refine (KL.out _ B8.out).mono ?_); rintro e w9 ⟨lb, lk, lcc, rfl, lo9, hlb, b9⟩; have B9 := Lib.hid (bthen B8.out b9); have LO9 := Lib.hid lo9; have P9 := Lib.hid (P8.out.heap (b9.block _ P8.out.lt)); clear lo9 hlb b9)
              | (go_at_call 19; (with_reducible refine (KFt.out _ _ _ _ B9.out LO9.out).mono ?_); rintro e w10 ⟨A10, c10, rfl, f10, b10⟩; have B10 := Lib.hid (bthen B9.out b10); have F10 := Lib.hid f10; have P10 := Lib.hid (P9.out.heap (b10.block _ P9.out.lt)); clear f10 b10)
              | (go_at_call 17; (with_reducible refine (KC.out _ _ _ _ B10.out P10.out F10.out).mono ?_); rintro e w11 ⟨X, fx11, mm11, r11, rfl, hX, d11, b11⟩; have PB := Lib.hid (PR.out.born B10.out P10.out (Nat.le_refl _) d11 b11); have B11 := Lib.hid (bthen B10.out b11); have SZ10 : Hid (wc.heap.size ≤ w10.heap.size) := B10.out.size; clear hX d11 b11))
          all_goals
            clear c27 KL KFt KC LO9 P8 P9 P10 F10 B8 B9 B10 HM HFT HK HG
            rw [← HCR.out] at PB
            have WR11 : Hid (Wr w11 w.heap.size (fun b => Us (Fresh w10 w11) wc.heap.size G q none1 H2 b ∨ b = P) bW wl) := ⟨(WR.out.below B11.out).own, fun y => by
              have h1 := WR.out.lt
              have h2 := WR.out.off
              have h3 := SZ10.out
              rcases y with ((y | y) | y | y | y) | y
              · have := y.1; omega
              · omega
              · exact h2 (.inl (.inr (.inl y)))
              · exact y
              · exact h2 (.inl (.inr (.inr (.inr y))))
              · exact h2 (.inr y), WR.out.lo⟩
            have PH11 := Lib.hid (PH.out.below B11.out)
            generalize Fresh w10 w11 = F11 at PB WR11
            generalize wc.heap.size = pw2 at PB WR11 ⊢
            have HOM : Hid (mc.s.off = false ∧ mc.rd = 0) := by rw [HCR.out]; exact ⟨rfl, rfl⟩
            obtain ⟨L2, hL2⟩ : ∃ L2, opn la ns 0 mc = (L2, mc) := ⟨(opn la ns 0 mc).1, Prod.ext rfl (opn_still HOM.out.1 HOM.out.2 la ns 0).1⟩
            have HL2 : Hid (L2.length = ns) := by have := opn_len (la := la) ns 0 mc; rw [hL2] at this; exact this
            have HW2 : Hid (∀ i, i < ns → gets wl i ≤ (at0 L2 (i : Int)).r.toNat) := fun i hi => by
              have h1 := (opn_still HOM.out.1 HOM.out.2 la ns 0).2 i hi
              rw [hL2, Nat.zero_add] at h1
              dsimp only at h1
              have h2 : at0 L2 (i : Int) = ⟨0, wornAt la i mc⟩ := by
                unfold at0
                rw [Int.toNat_natCast, List.getD_eq_getElem?_getD, h1]
                rfl
              rw [h2]
              exact KP.out.worn (m := mc) KMC.out HOM.out.1 HOM.out.2 hi
            have HRD : Hid (∀ (m' : Vs) (z b : Int), Rotted mc.S m'.S → m'.s.off = false → m'.rd = 0 → hasZ L2 z → (readS la z b L2 m').1.2.2 = 0 → FlA L k2 z.toNat b (readS la z b L2 m').1.2.1 (readS la z b L2 m').1.1) := fun m' z b h ho hr hz he => KP.out.read HL2.out KMC.out LMC.out h ho hr z hz b he
            have HO2 := Lib.hid hL2
            clear hL2 B11 PR PH WR KP KMC SZ10 HCR
            obtain ⟨x0, x1, x2, x3, x4, x5, x6, x7, x8, x9, x10, x11, x12, x13⟩ := phead_map PH11.out
            go_wp2_with fail
            refine (PB.out.open_ HE.out HP.out HOM.out.1 (L2, mc) HO2.out).mono ?_; rintro e w12 ⟨T2, H12, rfl, p12, h12, k12⟩
            have PR12 := Lib.hid p12
            have PH12 := Lib.hid (PH11.out.of h12)
            have WR12 := Lib.hid (WR11.out.kp (k12.but P))
            clear x0 x1 x2 x3 x4 x5 x6 x7 x8 x9 x10 x11 x12 x13 p12 h12 k12 PB PH11 WR11 HO2
            have PR12' : Hid (Pr w P p n NN pw2 X q E (some ⟨T2, 0, none⟩) U F11 G H12 H2 mc m00 (some L2) (some L0) w12) := PR12.out
            clear PR12
            go_wp2
            go_loopw [20] (fun q20 wr => ∃ i : Nat, i ≤ ns ∧ q20 = .int .i64 (i : Int) ∧ Hid (Below w12.heap.size w12 wr)) (fun q20 _ => ns - (intOf q20).toNat)
            case atStart => exact ⟨0, Nat.zero_le _, rfl, Below.refl _ _⟩
            case round =>
              obtain ⟨i2, hi2, rfl, BI⟩ := hrel
              have c22 : wr.cell? ⟨P, 22, none⟩ = some (.int .i64 (ns : Int)) := by rw [← HP.out.h9]; exact ((PH12.out.below BI.out).cell 22).1
              by_cases h2 : i2 < ns
              · have h2' : (i2 : Int) < (ns : Int) := by omega
                have cw := ((WR12.out.below BI.out).cell (i := i2) (by rw [WL.out]; exact h2)).1
                have KW : Hid (∀ k, Calls Tryz.prog 14 #[.pointer (some ⟨T2, 0, none⟩), .int .i64 (i2 : Int)] (wr.drewN k) fun e w' => e = .returned (.int .u32 ((at0 L2 (i2 : Int)).r.toNat : Int)) ∧ wr.drewN k = w') := fun k => by
                  obtain ⟨t', g', e, _, _, hl⟩ := (PR12'.out.below (below_drewN BI.out k)).st1
                  injection e with e; injection e with e; subst e
                  exact wear_yes hl ⟨by omega, by rw [HL2.out]; exact h2'⟩
                have hle := HW2.out i2 h2
                have hnl : ¬ (((at0 L2 (i2 : Int)).r.toNat : Int)) < (gets wl i2 : Int) := by omega
                clear hle
                generalize (at0 L2 (i2 : Int)).r.toNat = r2 at KW hnl
                generalize gets wl i2 = g2 at cw hnl
                go_wp2_with fail
                go_quiet ((first
                  | (go_at_call 14; exact quiet (KW.out _))))
                have B4 : Hid (Below w12.heap.size w12 (wr.drewN nq)) := below_drewN BI.out nq
                generalize wr.drewN nq = w13 at B4 ⊢
                go_wp2
                go_roundw
                case rel => exact ⟨i2 + 1, by omega, by go_num, B4⟩
                case measure => simp [intOf]; omega
              · have h2' : ¬ (i2 : Int) < (ns : Int) := by omega
                have R0 : Hid (∃ F' m', Pr w P p n (NN + 0) pw2 X q E (some ⟨T2, 0, none⟩) U F' G H12 H2 m' m00 (some L2) (some L0) wr ∧ PHead wr P p pw D q E (some ⟨t, 0, none⟩) U ∧ Rotted mc.S m'.S ∧ m'.s.off = false ∧ m'.rd = 0) := ⟨F11, mc, PR12'.out.below BI.out, PH12.out.below BI.out, Rotted.refl _, HOM.out.1, HOM.out.2⟩
                clear PR12' PH12 WR12 BI WL HW2
                go_upto_block 4 with fail
                go_cut [21] from 155 to 183 (fun s21 wd => Hid (∃ F' m', Pr w P p n (NN + 12) pw2 X q E (some ⟨T2, 0, none⟩) U F' G H12 H2 m' m00 (some L2) (some L0) wd ∧ PHead wd P p pw D q E (some ⟨t, 0, none⟩) U ∧ Rotted mc.S m'.S ∧ m'.s.off = false ∧ m'.rd = 0))
                case first =>
                  go_wp2_with fail
                  go_loopw [21] (fun q21 wr => ∃ i : Nat, i ≤ 12 ∧ q21 = .int .i64 (i : Int) ∧ Hid (∃ F' m', Pr w P p n (NN + i) pw2 X q E (some ⟨T2, 0, none⟩) U F' G H12 H2 m' m00 (some L2) (some L0) wr ∧ PHead wr P p pw D q E (some ⟨t, 0, none⟩) U ∧ Rotted mc.S m'.S ∧ m'.s.off = false ∧ m'.rd = 0)) (fun q21 _ => 12 - (intOf q21).toNat)
                  case atStart => exact ⟨0, Nat.zero_le _, rfl, R0⟩
                  case round =>
                    obtain ⟨i3, hi3, rfl, RI⟩ := hrel
                    clear R0
                    obtain ⟨F', m', pr, ph, rot, ho, hr⟩ := RI.out
                    have PR := Lib.hid pr
                    have PH := Lib.hid ph
                    have RT := Lib.hid rot
                    have HO3 : Hid (m'.s.off = false ∧ m'.rd = 0) := ⟨ho, hr⟩
                    clear pr ph rot ho hr RI
                    have hcase : (i3 < rk ∧ i3 < 12) ∨ (rk ≤ i3) ∨ (i3 < rk ∧ 12 ≤ i3) := by omega
                    rcases hcase with ⟨h3, h4⟩ | hend
                    · have h3' : (i3 : Int) < (rk : Int) := by omega
                      have h4' : (i3 : Int) < 12 := by omega
                      obtain ⟨bb, off, rfl, hc, hok⟩ := HRA.out i3 h3
                      have htn := hok.wf.1.2.2.2
                      obtain ⟨zn, hzn⟩ : ∃ z, (RL i3).n = z := ⟨_, rfl⟩
                      obtain ⟨bt, hbt⟩ : ∃ z, (RL i3).bit = z := ⟨_, rfl⟩
                      obtain ⟨tn, htn2⟩ : ∃ z, (RL i3).turn = z := ⟨_, rfl⟩
                      have CS : Hid (∀ y, Below w.heap.size w y → y.cell? ⟨bb, off + i3 * 17 + 6, none⟩ = some (.int .i64 zn) ∧ y.cell? ⟨bb, off + i3 * 17 + 7, none⟩ = some (.int .i64 bt) ∧ y.cell? ⟨bb, off + i3 * 17 + 8, none⟩ = some (.int .u32 (tn : Int))) := fun y hy => by
                        have x6 := hc 6 (.int .i64 zn) (by rw [← hzn]; rfl)
                        have x7 := hc 7 (.int .i64 bt) (by rw [← hbt]; rfl)
                        have x8 := hc 8 (.int .u32 (tn : Int)) (by rw [← htn2]; rfl)
                        refine ⟨?_, ?_, ?_⟩
                        · rw [hy.cell (p := ⟨bb, _, none⟩) (World.block_lt_of_cell? w _ x6)]; exact x6
                        · rw [hy.cell (p := ⟨bb, _, none⟩) (World.block_lt_of_cell? w _ x7)]; exact x7
                        · rw [hy.cell (p := ⟨bb, _, none⟩) (World.block_lt_of_cell? w _ x8)]; exact x8
                      have htn3 : tn < 4294967296 := by omega
                      clear hc hok hzn hbt htn htn2
                      obtain ⟨z6, z7, z8⟩ := CS.out wr PR.out.bel
                      have KA : Hid (∀ y, Below wr.heap.size wr y → Calls Tryz.prog 23 #[.pointer (some ⟨P, 0, none⟩), .int .i64 zn] y fun e y' => e = .returned (.int .i64 (atF la ns zn)) ∧ Below y.heap.size y y') := fun y hy => at_any (PH.out.below hy) HP.out zn
                      have KR : Hid (∀ y, Below wr.heap.size wr y → Calls Tryz.prog 22 #[.pointer (some ⟨X, 0, none⟩), .int .i64 (atF la ns zn), .int .i64 bt, .int .u32 (tn : Int)] y fun e y' => (∃ ev, e = .returned (.int .i64 ev)) ∧ (∃ F2 m2, Pr w P p n (NN + (i3 + 1)) pw2 X q E (some ⟨T2, 0, none⟩) U F2 G H12 H2 m2 m00 (some L2) (some L0) y' ∧ Rotted mc.S m2.S ∧ m2.s.off = false ∧ m2.rd = 0) ∧ y'.heap[P]? = y.heap[P]?) := fun y hy => by
                        obtain ⟨q1, q2, q3⟩ := RT.out.step (n := n) LMC.out (atF la ns zn) bt tn
                        exact ((PR.out.below hy).rot (by omega) (atF la ns zn) bt tn htn3).mono fun e y' ⟨e1, e2, e3, _⟩ => ⟨⟨_, e1⟩, ⟨_, _, e2, q1, by rw [q2]; exact HO3.out.1, by rw [q3]; exact HO3.out.2⟩, e3⟩
                      generalize atF la ns zn = az at KA KR
                      go_wp2_with fail
                      go_region_held (fun y => y.cell? ⟨bb, off + i3 * 17 + 6, none⟩ = some (.int .i64 zn) ∧ y.cell? ⟨bb, off + i3 * 17 + 7, none⟩ = some (.int .i64 bt) ∧ y.cell? ⟨bb, off + i3 * 17 + 8, none⟩ = some (.int .u32 (tn : Int))) (first | go_keep | exact CS.out _ BW6.out | exact CS.out _ BW5.out)
                        (first
                          | (go_at_call 23; (with_reducible refine (KA.out _ (bdrew _)).mono ?_); rintro e w5 ⟨rfl, b5⟩; have B5 : Hid (Below wr.heap.size wr w5) := below_of_drew b5; have BW5 := Lib.hid (bthen PR.out.bel B5.out); clear b5)
                          | (go_at_call 22; (with_reducible refine (KR.out _ B5.out).mono ?_); rintro e w6 ⟨⟨ev, rfl⟩, ⟨F6, m6, p6, q1, q2, q3⟩, h6⟩; have PR6 := Lib.hid p6; have PH6 := Lib.hid ((PH.out.below B5.out).of h6); have RT6 := Lib.hid q1; have HO6 : Hid (m6.s.off = false ∧ m6.rd = 0) := ⟨q2, q3⟩; have BW6 := Lib.hid p6.bel; clear p6 h6 q1 q2 q3))
                      all_goals
                        clear z6 z7 z8
                        go_wp2
                        go_roundw
                        case rel => exact ⟨i3 + 1, by omega, by go_num, F6, m6, PR6.out, PH6.out, RT6.out, HO6.out⟩
                        case measure => simp [intOf]; omega
                    · have RE : Hid (∃ F' m', Pr w P p n (NN + 12) pw2 X q E (some ⟨T2, 0, none⟩) U F' G H12 H2 m' m00 (some L2) (some L0) wr ∧ PHead wr P p pw D q E (some ⟨t, 0, none⟩) U ∧ Rotted mc.S m'.S ∧ m'.s.off = false ∧ m'.rd = 0) := ⟨F', m', PR.out.more (by omega) (by omega), PH.out, RT.out, HO3.out⟩
                      rcases hend with hend | ⟨hend, hend2⟩
                      all_goals
                        go_wp2
                        go_meet
                        exact RE
                case rest =>
                  clear R0
                  obtain ⟨F', m', pr, ph, rot, ho, hr⟩ := hcut.out
                  have PR := Lib.hid pr
                  have PH := Lib.hid ph
                  have HRM : Hid (∀ (z b : Int), hasZ L2 z → (readS la z b L2 m').1.2.2 = 0 → FlA L k2 z.toNat b (readS la z b L2 m').1.2.1 (readS la z b L2 m').1.1) := fun z b hz he => HRD.out m' z b rot ho hr hz he
                  have HST : Hid (∀ (z b : Int), (readS la z b L2 m').2 = m' ∧ ((readS la z b L2 m').1.2.2 ≠ 0 → (readS la z b L2 m').1.1 = [])) := fun z b => readS_still ho hr
                  clear pr ph rot ho hr hcut HRD LMC HRA HOM
                  go_wp2
                  go_loopw [22] (fun q22 wr => ∃ i : Nat, i ≤ ns ∧ q22 = .int .i64 (i : Int) ∧ Hid (Pr w P p n (NN + 12) pw2 X q E (some ⟨T2, 0, none⟩) U F' G H12 H2 m' m00 (some L2) (some L0) wr ∧ PHead wr P p pw D q E (some ⟨t, 0, none⟩) U)) (fun q22 _ => ns - (intOf q22).toNat)
                  case atStart => exact ⟨0, Nat.zero_le _, rfl, PR.out, PH.out⟩
                  case round =>
                    obtain ⟨i4, hi4, rfl, RI⟩ := hrel
                    clear PR PH
                    have c22 : wr.cell? ⟨P, 22, none⟩ = some (.int .i64 (ns : Int)) := by rw [← HP.out.h9]; exact (RI.out.2.cell 22).1
                    by_cases h5 : i4 < ns
                    · have h5' : (i4 : Int) < (ns : Int) := by omega
                      have hz4 : hasZ L2 (i4 : Int) := ⟨by omega, by rw [HL2.out]; exact h5'⟩
                      have HZ4 := Lib.hid hz4
                      clear hz4
                      go_wp2
                      go_loopw [23] (fun q23 wr => ∃ i : Nat, i ≤ k2 ∧ q23 = .int .i64 (i : Int) ∧ Hid (Pr w P p n (NN + 12) pw2 X q E (some ⟨T2, 0, none⟩) U F' G H12 H2 m' m00 (some L2) (some L0) wr ∧ PHead wr P p pw D q E (some ⟨t, 0, none⟩) U)) (fun q23 _ => k2 - (intOf q23).toNat)
                      case atStart => exact ⟨0, Nat.zero_le _, rfl, RI⟩
                      case round =>
                        obtain ⟨i5, hi5, rfl, RJ⟩ := hrel
                        clear RI c22
                        by_cases h6 : i5 < k2
                        · have h6' : (i5 : Int) < (k2 : Int) := by omega
                          obtain ⟨bb, off, rfl, hc, hok⟩ := HA2.out i5 h6
                          obtain ⟨lb, hlb⟩ : ∃ z, (L i5).lba = z := ⟨_, rfl⟩
                          have CS : Hid (∀ y, Below w.heap.size w y → y.cell? ⟨bb, off + i5 * 17 + 2, none⟩ = some (.int .i64 lb)) := fun y hy => by
                            have x2 := hc 2 (.int .i64 lb) (by rw [← hlb]; rfl)
                            rw [hy.cell (p := ⟨bb, _, none⟩) (World.block_lt_of_cell? w _ x2)]; exact x2
                          clear hc hok hlb
                          obtain ⟨ys, gg, ev, mv, hr⟩ : ∃ ys gg ev mv, readS la (i4 : Int) lb L2 m' = ((ys, gg, ev), mv) := ⟨_, _, _, _, rfl⟩
                          have hst := HST.out (i4 : Int) lb
                          have hrm := HRM.out (i4 : Int) lb HZ4.out
                          rw [hr] at hst hrm
                          dsimp only at hst hrm
                          rw [Int.toNat_natCast] at hrm
                          obtain ⟨e1, e2⟩ := hst
                          subst e1
                          have HR := Lib.hid hr
                          have HN := Lib.hid e2
                          have HF := Lib.hid hrm
                          clear hr e2 hrm
                          have a2 := CS.out wr RJ.out.1.bel
                          go_wp2_with fail
                          refine (RJ.out.1.read HE.out HP.out HL2.out (i4 : Int) lb _ HR.out).mono ?_; rintro e w15 ⟨⟨A5, l5, c5, rfl, o5, _, _, _⟩, p5, h5, k5⟩
                          have PR15 := Lib.hid p5
                          have PH15 := Lib.hid (RJ.out.2.of h5)
                          have O5 : Hid (Oct w15 A5 l5 ys) := o5
                          clear o5 p5 h5 k5 a2 RJ
                          by_cases hv : ev = 0
                          · subst hv
                            have KFd : Hid (∀ y, Below w15.heap.size w15 y → Calls Tryz.prog 25 #[.slice (some ⟨bb, off, none⟩) k2 c2, .int .i64 (k2 : Int), .int .i64 (i4 : Int), .int .i64 lb, .int .u64 (gg : Int), .string (bstr ys)] y fun e y' => e = .returned (.bool true) ∧ Below y.heap.size y y') := fun y hy => by
                              obtain ⟨j, hj, e1, e2, e3, e4⟩ := HF.out rfl
                              exact filled_yes (HA2.out.below ((PR15.out.below hy).bel)) (Nat.le_trans hk20 (by decide)) hj e1 e2 e3 e4
                            have A2' : Hid (w15.cell? ⟨bb, off + i5 * 17 + 2, none⟩ = some (.int .i64 lb)) := CS.out w15 PR15.out.bel
                            go_upto_region 35 with fail
                            refine gateAll (fun x => x.cell? ⟨bb, off + i5 * 17 + 2, none⟩ = some (.int .i64 lb) ∧ Oct x A5 l5 ys) 50 [0, 1, 2, 3, 4] 22 rfl (by kernel_rfl) (by kernel_rfl) (by kernel_rfl) rfl ?_ ⟨A2'.out, O5.out.drew⟩ ?_
                            · intro d v c a w h
                              cases d <;> exact h
                            refine yields_at 211 (.int .i64 0) rfl rfl (by kernel_rfl) ?_ ?_
                            · intro x hS; go_simp
                            refine yields_at 212 (.bool true) rfl rfl (by kernel_rfl) ?_ ?_
                            · intro x hS; go_simp
                            refine yields_at 213 (.bool true) rfl rfl (by kernel_rfl) ?_ ?_
                            · intro x hS; go_simp
                            refine yields_at 214 ?_ rfl rfl (by kernel_rfl) ?_ ?_
                            rotate_left
                            · intro x hS; go_simp; rfl
                            refine yields_at 215 ?_ rfl rfl (by kernel_rfl) ?_ ?_
                            rotate_left
                            · intro x hS; go_simp; rfl
                            show Gate _ _ _ _ _ _ _ _ _ _
                            try go_frame
                            refine @Gate.takesAll _ _ _ _ _ _ ?_ ?_ ?_ _ ?_ [5, 6, 7, 8, 9] 17 _ _ ?_ ?_
                            · kernel_rfl
                            · rfl
                            · intro d v c a w h; cases d <;> exact h
                            · exact ⟨A2'.out, O5.out.drew⟩
                            · kernel_rfl
                            refine yields_at 216 (.int .i64 (k2 : Int)) rfl rfl (by kernel_rfl) ?_ ?_
                            · intro x hS; go_simp
                            refine yields_at 217 ?_ rfl rfl (by kernel_rfl) ?_ ?_
                            rotate_left
                            · intro x hS; go_simp; rfl
                            refine yields_at 218 ?_ rfl rfl (by kernel_rfl) ?_ ?_
                            rotate_left
                            · intro x hS; go_simp; rfl
                            refine yields_at 219 ?_ rfl rfl (by kernel_rfl) ?_ ?_
                            rotate_left
                            · intro x hS; go_simp; rfl
                            refine yields_at 220 ?_ rfl rfl (by kernel_rfl) ?_ ?_
                            rotate_left
                            · intro x hS; go_simp; rfl
                            show Gate _ _ _ _ _ _ _ _ _ _
                            try go_frame
                            refine @Gate.takesAll _ _ _ _ _ _ ?_ ?_ ?_ _ ?_ [10, 11, 12, 13, 14] 12 _ _ ?_ ?_
                            · kernel_rfl
                            · rfl
                            · intro d v c a w h; cases d <;> exact h
                            · exact ⟨A2'.out, O5.out.drew⟩
                            · kernel_rfl
                            refine yields_at 221 ?_ rfl rfl (by kernel_rfl) ?_ ?_
                            rotate_left
                            · intro x hS; go_simp; rfl
                            refine yields_at 222 (.int .i64 lb) rfl rfl (by kernel_rfl) ?_ ?_
                            · intro x hS; obtain ⟨z1, z2⟩ := hS; go_simp
                            refine yields_at 223 ?_ rfl rfl (by kernel_rfl) ?_ ?_
                            rotate_left
                            · intro x hS; go_simp; rfl
                            refine yields_at 224 ?_ rfl rfl (by kernel_rfl) ?_ ?_
                            rotate_left
                            · intro x hS; go_simp; rfl
                            refine yields_at 225 (.string (bstr ys)) rfl rfl (by kernel_rfl) ?_ ?_
                            · intro x hS; have cv := hS.2.conv Dm.bt Tryz.underlying9 c5; go_simp
                            show Gate _ _ _ _ _ _ _ _ _ _
                            try go_frame
                            refine gate_on (i := 15) (by kernel_rfl) rfl (by kernel_rfl) (fun K hK => ?_)
                            go_simp
                            refine (KFd.out _ (bdrew w15)).mono ?_; rintro e w16 ⟨rfl, b6⟩
                            have B16 : Hid (Below w15.heap.size w15 w16) := below_of_drew b6
                            have A16 : Hid (w16.cell? ⟨bb, off + i5 * 17 + 2, none⟩ = some (.int .i64 lb)) := CS.out _ (bthen PR15.out.bel B16.out)
                            have O16 : Hid (Oct w16 A5 l5 ys) := O5.out.below B16.out
                            clear b6
                            refine hK _ _ (fun _ => ⟨A16.out, O16.out⟩) ?_
                            clear hK K
                            show Gate _ _ _ _ _ _ _ _ _ _
                            try go_frame
                            refine @Gate.takesAll _ _ _ _ _ _ ?_ ?_ ?_ _ ?_ [16, 17, 18, 19, 20] 6 _ _ ?_ ?_
                            · kernel_rfl
                            · rfl
                            · intro d v c a w h; cases d <;> exact h
                            · exact ⟨A16.out, O16.out⟩
                            · kernel_rfl
                            refine yields_at 227 (.bool false) rfl rfl (by kernel_rfl) ?_ ?_
                            · intro x hS; go_simp
                            refine yields_at 228 (.bool false) rfl rfl (by kernel_rfl) ?_ ?_
                            · intro x hS; go_simp
                            refine yields_at 229 (.bool false) rfl rfl (by kernel_rfl) ?_ ?_
                            · intro x hS; go_simp
                            refine yields_at 230 ?_ rfl rfl (by kernel_rfl) ?_ ?_
                            rotate_left
                            · intro x hS; go_simp; rfl
                            refine yields_at 231 (.bool false) rfl rfl (by kernel_rfl) ?_ ?_
                            · intro x hS; go_simp
                            show Gate _ _ _ _ _ _ _ _ _ _
                            try go_frame
                            refine @Gate.takesAll _ _ _ _ _ _ ?_ ?_ ?_ _ ?_ [21, 22, 23, 24, 25, 26] 0 _ _ ?_ ?_
                            · kernel_rfl
                            · rfl
                            · intro d v c a w h; cases d <;> exact h
                            · exact ⟨A16.out, O16.out⟩
                            · kernel_rfl
                            refine yields_at 232 (.bool false) rfl rfl (by kernel_rfl) ?_ ?_
                            · intro x hS; go_simp
                            refine yields_out 233 rfl rfl (by kernel_rfl) ?_
                            refine yields_out 234 rfl rfl (by kernel_rfl) ?_
                            refine yields_out 235 rfl rfl (by kernel_rfl) ?_
                            refine yields_at 236 (.bool false) rfl rfl (by kernel_rfl) ?_ ?_
                            · intro x hS; go_simp
                            refine yields_at 237 (.bool false) rfl rfl (by kernel_rfl) ?_ ?_
                            · intro x hS; go_simp
                            refine Gate.done (by kernel_rfl) ?_
                            try go_frame
                            go_wp2
                            go_roundw
                            case rel => exact ⟨i5 + 1, by omega, by go_num, PR15.out.below B16.out, PH15.out.below B16.out⟩
                            case measure => simp [intOf]; omega
                          · have hvb : (ev == 0) = false := by simpa using hv
                            have hvn : (ev != 0) = true := by simpa using hv
                            have hl5 : l5 = 0 := by
                              have := O5.out.len
                              rw [HN.out hv] at this
                              exact this.symm
                            subst hl5
                            go_wp2_with fail
                            go_big_quiet (fail)
                            have B16 : Hid (Below w15.heap.size w15 (w15.drewN nq)) := below_drewN (Below.refl _ _) nq
                            generalize w15.drewN nq = w16 at B16 ⊢
                            go_wp2
                            go_roundw
                            case rel => exact ⟨i5 + 1, by omega, by go_num, PR15.out.below B16.out, PH15.out.below B16.out⟩
                            case measure => simp [intOf]; omega
                        · have h6' : ¬ (i5 : Int) < (k2 : Int) := by omega
                          go_wp2
                          go_roundw
                          case rel => exact ⟨i4 + 1, by omega, by go_num, RJ.out⟩
                          case measure => simp [intOf]; omega
                    · have h5' : ¬ (i4 : Int) < (ns : Int) := by omega
                      go_wp2_with fail
                      refine (awake_any _ (HE.out.below RI.out.1.bel)).mono ?_; rintro e w20 ⟨rfl, b20⟩
                      have B20 := Lib.hid (bthen RI.out.1.bel b20)
                      clear b20
                      go_wp2
                      go_ret
                      exact ⟨rfl, B20.out⟩
theorem keeps_law (W : World) (a0 : Int) (w0 : (Lit.int .u16 a0).wf = true) (D : Option Addr) (n c : Nat) (L : Nat → ActV) (hl : n ≤ c) (hm : c ≤ maxLen) (h : Acts W D n L) (a2 : Int) (w2 : (Lit.int .u8 a2).wf = true) (fa : Option Addr) (fl fc : Nat) (fs : List Int) (hfl : fl ≤ fc) (hfc : fc ≤ maxLen) (hfs : Fi W fa fl fs) (D2 : Option Addr) (n2 c2 : Nat) (L2 : Nat → ActV) (hl2 : n2 ≤ c2) (hm2 : c2 ≤ maxLen) (h2 : Acts W D2 n2 L2) (he : EnvH W) :
    Calls Tryz.prog 4 #[.int .u16 a0, .slice D n c, .int .u8 a2, .slice fa fl fc, .slice D2 n2 c2] W fun e w' => e = .returned (.bool true) ∧ Below W.heap.size W w' := by
  simp [Lit.wf, IntKind.min, IntKind.max, IntKind.signed, IntKind.bits] at w0 w2
  obtain ⟨x, rfl⟩ := Int.eq_ofNat_of_zero_le w0.1
  obtain ⟨z, rfl⟩ := Int.eq_ofNat_of_zero_le w2.1
  exact keeps_walk x (by omega) h hl hm z (by omega) fa fl fc fs hfs (Nat.le_trans hfl hfc) D2 n2 c2 L2 h2 (Nat.le_trans hl2 hm2) he
end
end Go.Proofs.YtapklelkcicjlaaGreatDoor.Pd.Sl
