/-
  The walk of the statement on a log behind a crash. No conditions.
-/
import Derived.Test.YtikbbikcacoobaaGreatDoorIvSdDo
import Derived.BigQuiet
import Derived.Deep.RegionHeld
import Derived.Deep.DrawnRows
import Derived.Deep.CutRange
import Derived.Deep.CutBlock
namespace Go.Proofs.YtikbbikcacoobaaGreatDoor.Pd.Iv
open Go.RowKit Oc Dm W Dw Sr Gt
set_option linter.unusedVariables false
set_option maxRecDepth 100000
attribute [local go_sem ↓] Go.wp_at_zero Go.wp_at_succ
theorem fuse_ok {s : PS} {z : Int} (ho : s.off = false) (h0 : 0 ≤ z) (h1 : z ≤ 1048576) : PS.fuseE s z = 0 := by
  unfold PS.fuseE
  rw [if_neg (by rw [ho]; decide), if_neg (by omega)]
theorem below_al (w : World) (o : Obj) : Below w.heap.size w ((w.alloc o).drew) := (balloc w o).drew
/-- a record in a new box -/
theorem rec_box {w y : World} {cs old : Array Value} (hn : y.heap[w.heap.size]? = some (.cells old 31 (0, 0))) (hb : Below w.heap.size w y) : Hid (Below w.heap.size w (y.setRow w.heap.size cs) ∧ (y.setRow w.heap.size cs).heap[w.heap.size]? = some (.cells cs 31 (0, 0))) :=
  ⟨hb.trans (Below.mono (B := w.heap.size) ⟨rfl, rfl, rfl, by simp, fun k hk => setRow_other y w.heap.size k _ (by omega)⟩ (Nat.le_refl _)), setRow_heap y w.heap.size _ cs _ _ hn⟩
/-- where the log, and the law's own row, stand on the way -/
def Way (w : World) (P : Nat) (p : Pn.Pl) (n pw D q E t : Nat) (U : Option Addr) (la lg f0 i : Nat) (v : Value) (na d ff : Nat) (wr : World) : Prop :=
  ∃ F m g all, Sd w P p n i pw D q E t U F m g wr ∧ Keeps la lg f0 m.S g all d ∧ g.f = ff ∧ g.ep ≤ most ∧ all.length = na ∧ Row wr w.heap.size (fun b => Zs F pw t b ∨ b = P) v all
theorem Way.fin {w wr : World} {P n pw D q E t la lg f0 i na d ff : Nat} {p : Pn.Pl} {U : Option Addr} {v : Value} (h : Way w P p n pw D q E t U la lg f0 i v na d ff wr) (hp : Pln p la lg n) (hf : f0 ≤ 65535) (hna : na ≤ 60) (fs : List Int) :
    ∃ F m g all gone l L3, Sd w P p n i pw D q E t U F m g wr ∧ g.ep ≤ most ∧ all.length = na ∧ Row wr w.heap.size (fun b => Zs F pw t b ∨ b = P) v all ∧ rdl la lg g.ep lg ff 0 (crashed n m.S fs) = (L3, crashed n m.S fs) ∧ L3 = (all.drop gone).take l ∧ L3.length = l ∧ ff = f0 + gone ∧ gone ≤ na ∧ l ≤ na - gone ∧ d ≤ gone + l ∧ ff ≤ most := by
  obtain ⟨F, m, g, all, sd, kp, hgf, hgep, hal, row⟩ := h
  obtain ⟨l, hR, l1, l2, l3⟩ := kp.crash hp.hl fs
  have hlo := kp.lo
  have hle := kp.le
  have hlen := kp.len
  rw [hal] at l1 l2 hlen
  subst hgf
  exact ⟨F, m, g, all, g.f - f0, l, _, sd, hgep, hal, row, hR, rfl, by rw [List.length_take, List.length_drop, hal]; omega, by omega, by omega, l2, l3, by unfold most; omega⟩
section
variable {w : World} {k c : Nat} {A : Option Addr} {L : Nat → ActV}
set_option maxHeartbeats 40000000 in
theorem keeps_walk (x f : Nat) (hx : x ≤ 65535) (hf : f ≤ 65535) (ha : Acts w A k L) (hk : k ≤ maxLen) (fu : Nat) (hfu : fu ≤ 255) (fa : Option Addr) (ll lc : Nat) (fs : List Int) (hfs : Fi w fa ll fs) (hll : ll ≤ maxLen) (he : Env w) :
    Calls Tryz.prog 4 #[.int .u16 (x : Int), .int .u16 (f : Int), .slice A k c, .int .u8 (fu : Int), .slice fa ll lc] w fun e w' => e = .returned (.bool true) ∧ Below w.heap.size w w' := by
  obtain ⟨xm, hxm⟩ : ∃ f : Nat, (x : Int) % 12 = (f : Int) := ⟨x % 12, by omega⟩
  have hx2 : xm ≤ 255 := by omega
  obtain ⟨p, la, lg, n, hP, hB⟩ := begin_some xm hx2 f hf w he
  have HB := Lib.hid hB
  have HP := Lib.hid hP
  have HE := Lib.hid he
  have HA := Lib.hid ha
  have HFS := Lib.hid hfs
  have hk9 : (k : Int) ≤ 9223372036854775807 := by unfold maxLen at hk; omega
  have hll9 : ll ≤ 9223372036854775807 := by unfold maxLen at hll; omega
  clear hB hP he ha hx2 hfs
  go_enter Tryz.func4, Tryz.ntmps4
  go_wp2_with fail
  refine HB.out.mono ?_; rintro e w1 ⟨P, rfl, st1⟩
  obtain ⟨pw, D, q, E, T0, U, F1, G1, H1, H2, r, hh, kk⟩ := st1
  obtain ⟨t, rfl, sd⟩ := Sd.of r hh
  have SD1 := Lib.hid sd
  clear r hh kk sd HB hxm
  have c26 := SD1.out.cells.1
  go_wp2_with fail
  refine (SD1.out.fuse (fu : Int)).mono ?_; rintro e w2 ⟨rfl, F2, sd2, k2⟩
  rw [fuse_ok (s := m00.s) rfl (by omega) (by omega)]
  have W2 : Hid (Way w P p n pw D q E t U la lg f 0 (.slice none 0 0) 0 0 f w2) := ⟨F2, _, ⟨f, f, 0⟩, [], sd2, (keeps_start HP.out.hl).same rfl, rfl, Nat.zero_le _, rfl, ⟨OwnS.nil _ _ _ _, (fun b hb => by cases hb)⟩⟩
  clear sd2 k2 c26 SD1
  go_upto_block 0 with fail
  go_cut [13, 14, 15, 16] from 47 to 149 (fun s13 s14 s15 s16 wr => ∃ (i na ca d ff : Nat) (Aa : Option Addr), i ≤ 60 ∧ s13 = .slice Aa na ca ∧ s14 = .int .i64 (d : Int) ∧ s15 = .int .u64 (ff : Int) ∧ s16 = .int .i64 (i : Int) ∧ na ≤ i ∧ na ≤ ca ∧ ca ≤ maxLen ∧ Hid (Way w P p n pw D q E t U la lg f i (.slice Aa na ca) na d ff wr))
  case first =>
    go_wp2_with fail
    go_loopw [13, 14, 15, 16] (fun s13 s14 s15 s16 wr => ∃ (i na ca d ff : Nat) (Aa : Option Addr), i ≤ 60 ∧ s13 = .slice Aa na ca ∧ s14 = .int .i64 (d : Int) ∧ s15 = .int .u64 (ff : Int) ∧ s16 = .int .i64 (i : Int) ∧ na ≤ i ∧ na ≤ ca ∧ ca ≤ maxLen ∧ Hid (Way w P p n pw D q E t U la lg f i (.slice Aa na ca) na d ff wr)) (fun _ _ _ s16 _ => 60 - (intOf s16).toNat)
    case atStart => exact ⟨0, 0, 0, 0, f, none, Nat.zero_le _, rfl, rfl, rfl, rfl, Nat.le_refl _, Nat.le_refl _, by decide, W2⟩
    case round =>
      obtain ⟨i, na, ca, d, ff, Aa, hi, rfl, rfl, rfl, rfl, hna, hca, hca2, WI⟩ := hrel
      clear W2
      obtain ⟨F, m, g, all, sd, kp, hgf, hgep, hal, row⟩ := WI.out
      have SD := Lib.hid sd
      have KP := Lib.hid kp
      have EP := Lib.hid hgep
      have AL := Lib.hid hal
      have RW := Lib.hid row
      have BE := Lib.hid sd.bel
      have GF := Lib.hid hgf
      clear sd kp hgf hgep hal row WI
      have hcase : (i < k ∧ i < 60) ∨ (k ≤ i) ∨ (i < k ∧ 60 ≤ i) := by omega
      rcases hcase with ⟨h1, h2⟩ | hend
      · have h1' : (i : Int) < (k : Int) := by omega
        have h2' : (i : Int) < 60 := by omega
        obtain ⟨b, off, rfl, hld, hok⟩ := act_load HA.out h1
        have hld2 := hld wr BE.out
        have hwf := hok.wf
        clear hld hok
        generalize L i = y at hld2 hwf
        obtain ⟨kind, zn, xt, gn, ma, u, v', ffa, ffl, ffc, ffs, xx⟩ := y
        have LD : Hid ((Instr.loadAt 33 (.pointer (some ⟨b, off + i * 13, none⟩))).run Tryz.prog wr = .ok (.agg #[.int .i64 kind, .int .i64 zn, .int .i64 xt, .int .u64 (gn : Int), .int .u8 (ma.toNat : Int), .int .u64 (u : Int), .int .u64 (v' : Int), .slice ffa ffl ffc, .int .u64 (xx.q : Int), .int .u64 (xx.h : Int), .int .i64 xx.x, .int .u64 (xx.g : Int), .int .u8 (xx.m.toNat : Int)]) wr) := hld2
        have hgn : gn < 18446744073709551616 := hwf.1.1
        have HZN : Hid (-9223372036854775808 ≤ zn ∧ zn ≤ 9223372036854775807) := hwf.2.2.2
        clear hld2 hwf
        obtain ⟨bA, hbA⟩ : ∃ bA, bA = wr.heap.size := ⟨_, rfl⟩
        have HBA := Lib.hid hbA
        clear hbA
        go_upto_region 10 with (first | ((with_reducible apply L_ld); exact rfl; exact LD.out) | ((with_reducible apply W.L_storeRow (N := 13) act_info); exact rfl; exact rfl; exact heap_alloc_new _ _; exact rfl; exact rfl; (simp [Value.oneCell']); intro w4 h4 g4; have H4 := Lib.hid h4; have B4 : Hid (Below wr.heap.size wr w4) := (balloc _ _).grown g4 (by simp) (fun k e => by injection e with e; omega); clear h4 g4))
        have H4' : Hid (w4.heap[bA]? = some (.cells #[.int .i64 kind, .int .i64 zn, .int .i64 xt, .int .u64 (gn : Int), .int .u8 (ma.toNat : Int), .int .u64 (u : Int), .int .u64 (v' : Int), .slice ffa ffl ffc, .int .u64 (xx.q : Int), .int .u64 (xx.h : Int), .int .i64 xx.x, .int .u64 (xx.g : Int), .int .u8 (xx.m.toNat : Int)] 33 (0, 0))) := by show _ = _; rw [HBA.out]; exact H4.out
        rw [← HBA.out]
        have SD4 := Lib.hid (SD.out.below B4.out)
        have RW4 := Lib.hid (RW.out.below B4.out)
        have BO4 : Hid (Bo w4 (Zs F pw t) bA #[.int .i64 kind, .int .i64 zn, .int .i64 xt, .int .u64 (gn : Int), .int .u8 (ma.toNat : Int), .int .u64 (u : Int), .int .u64 (v' : Int), .slice ffa ffl ffc, .int .u64 (xx.q : Int), .int .u64 (xx.h : Int), .int .i64 xx.x, .int .u64 (xx.g : Int), .int .u8 (xx.m.toNat : Int)] 33) := ⟨H4'.out, fun z => by have := SD.out.bound bA (.inl z); have := HBA.out; omega⟩
        clear H4 H4' RW SD B4 LD HBA BE
        go_frame
        go_cut [18] from 47 to 149 (fun s18 wc => ∃ bR, s18 = .pointer (some ⟨bR, 0, none⟩) ∧ Hid (bR = w4.heap.size ∧ Below w4.heap.size w4 wc ∧ wc.heap[bR]? = some (.cells #[.int .u64 (g.nx : Int), .int .u64 (g.ep : Int), .int .i64 xt, .int .u64 (gn : Int), .int .u8 (ma.toNat : Int)] 31 (0, 0))))
        case first =>
          have KS : Hid (∀ y, Below w4.heap.size w4 y → y.cell? ⟨P, 28, none⟩ = some (.pointer (some ⟨t, 0, none⟩)) ∧ y.cell? ⟨bA, 2, none⟩ = some (.int .i64 xt) ∧ y.cell? ⟨bA, 3, none⟩ = some (.int .u64 (gn : Int)) ∧ y.cell? ⟨bA, 4, none⟩ = some (.int .u8 (ma.toNat : Int))) := fun y hy => ⟨(SD4.out.below hy).cells.2.2, (BO4.out.below hy).cell 2 rfl, (BO4.out.below hy).cell 3 rfl, (BO4.out.below hy).cell 4 rfl⟩
          have KN : Hid (∀ y, Below w4.heap.size w4 y → Calls Tryz.prog 11 #[.pointer (some ⟨t, 0, none⟩)] y fun e y' => e = .returned (.int .u64 (g.nx : Int)) ∧ y = y') := fun y hy => (SD4.out.below hy).next
          have KE : Hid (∀ y, Below w4.heap.size w4 y → Calls Tryz.prog 12 #[.pointer (some ⟨t, 0, none⟩)] y fun e y' => e = .returned (.int .u64 (g.ep : Int)) ∧ y = y') := fun y hy => (SD4.out.below hy).epoch
          refine gate (fun y => y.cell? ⟨P, 28, none⟩ = some (.pointer (some ⟨t, 0, none⟩)) ∧ y.cell? ⟨bA, 2, none⟩ = some (.int .i64 xt) ∧ y.cell? ⟨bA, 3, none⟩ = some (.int .u64 (gn : Int)) ∧ y.cell? ⟨bA, 4, none⟩ = some (.int .u8 (ma.toNat : Int))) 18 [0, 1, 2, 3, 5, 6, 7, 8, 10, 11, 12, 13, 14, 15] 5 (by kernel_rfl) (by kernel_rfl) (by kernel_rfl) rfl ?_ (KS.out _ (bdrew w4)) ?_
          · intro d v c a w h
            cases d <;> exact h
          refine yields_step ?_ rfl rfl ?_ ?_
          rotate_left
          · intro y hS; go_simp; rfl
          refine yields_step ?_ rfl rfl ?_ ?_
          rotate_left
          · intro y hS; go_simp; rfl
          refine yields_step ?_ rfl rfl ?_ ?_
          rotate_left
          · intro y hS; go_simp; rfl
          refine yields_step (.pointer (some ⟨t, 0, none⟩)) rfl rfl ?_ ?_
          · intro y hS; obtain ⟨s0, s1, s2, s3⟩ := hS; go_simp
          refine yields_step ?_ rfl rfl ?_ ?_
          rotate_left
          · intro y hS; go_simp; rfl
          refine yields_step ?_ rfl rfl ?_ ?_
          rotate_left
          · intro y hS; go_simp; rfl
          refine yields_step ?_ rfl rfl ?_ ?_
          rotate_left
          · intro y hS; go_simp; rfl
          refine yields_step (.pointer (some ⟨t, 0, none⟩)) rfl rfl ?_ ?_
          · intro y hS; obtain ⟨s0, s1, s2, s3⟩ := hS; go_simp
          refine yields_step ?_ rfl rfl ?_ ?_
          rotate_left
          · intro y hS; go_simp; rfl
          refine yields_step (.int .i64 xt) rfl rfl ?_ ?_
          · intro y hS; obtain ⟨s0, s1, s2, s3⟩ := hS; go_simp
          refine yields_step ?_ rfl rfl ?_ ?_
          rotate_left
          · intro y hS; go_simp; rfl
          refine yields_step (.int .u64 (gn : Int)) rfl rfl ?_ ?_
          · intro y hS; obtain ⟨s0, s1, s2, s3⟩ := hS; go_simp
          refine yields_step ?_ rfl rfl ?_ ?_
          rotate_left
          · intro y hS; go_simp; rfl
          refine yields_step (.int .u8 (ma.toNat : Int)) rfl rfl ?_ ?_
          · intro y hS; obtain ⟨s0, s1, s2, s3⟩ := hS; go_simp
          refine Gate.fork (i := 4) (j := 17) (by kernel_rfl) rfl rfl rfl rfl (fun K hK => ?_) (fun K hK => ?_)
          · go_simp
            refine (KN.out _ (bdrew w4)).mono ?_; rintro e w' ⟨rfl, rfl⟩
            refine hK _ _ (fun _ => KS.out _ (bdrew w4)) ?_
            clear hK K
            refine Gate.fork (i := 9) (j := 17) (by kernel_rfl) rfl rfl rfl rfl (fun K hK => ?_) (fun K hK => ?_)
            · go_simp
              refine (KE.out _ (bdrew w4)).mono ?_; rintro e w' ⟨rfl, rfl⟩
              refine hK _ _ (fun _ => KS.out _ (bdrew w4)) ?_
              clear hK K
              refine Gate.takes (P := Tryz.prog) (t := 18) (by kernel_rfl) (fun d v c a w h => by cases d <;> exact h) (KS.out _ (bdrew w4)) [16] 2 _ _ (by kernel_rfl) ?_
              refine yields_step (.agg #[.int .u64 (g.nx : Int), .int .u64 (g.ep : Int), .int .i64 xt, .int .u64 (gn : Int), .int .u8 (ma.toNat : Int)]) rfl rfl ?_ ?_
              · intro y hS; go_simp; first | done | rfl
              refine Gate.next (i := 17) (by kernel_rfl) rfl rfl (fun K hK => ?_)
              go_simp
              refine hK _ _ (fun _ => KS.out _ ((below_al w4 _))) ?_
              clear hK K
              refine Gate.next (i := 18) (by kernel_rfl) rfl rfl (fun K hK => ?_)
              refine wp_store_row 31 _ _ rfl w4.heap.size #[.int .u64 (g.nx : Int), .int .u64 (g.ep : Int), .int .i64 xt, .int .u64 (gn : Int), .int .u8 (ma.toNat : Int)] (by go_simp) (by go_simp) _ _ (heap_alloc_new w4 (.cells #[.int .u64 0, .int .u64 0, .int .i64 0, .int .u64 0, .int .u8 0] 31)) W.info_rc rfl (by simp [Value.oneCell']) ?_
              refine hK _ _ (fun h => absurd rfl h) ?_
              clear hK K
              refine Gate.done (by kernel_rfl) ?_
              go_wp2_with fail
              go_meet
              exact ⟨_, rfl, rfl, rec_box (heap_alloc_new w4 (.cells #[.int .u64 0, .int .u64 0, .int .i64 0, .int .u64 0, .int .u8 0] 31)) (below_al w4 _)⟩
            · go_simp
              refine hK _ _ (fun _ => KS.out _ ((below_al w4 _))) ?_
              clear hK K
              refine Gate.next (i := 9) (by kernel_rfl) rfl rfl (fun K hK => ?_)
              go_simp
              refine (KE.out _ (below_al w4 _)).mono ?_; rintro e w' ⟨rfl, rfl⟩
              refine hK _ _ (fun _ => KS.out _ (below_al w4 _)) ?_
              clear hK K
              refine Gate.next (i := 16) (by kernel_rfl) rfl rfl (fun K hK => ?_)
              go_simp
              refine hK _ _ (fun _ => KS.out _ (below_al w4 _)) ?_
              clear hK K
              refine Gate.next (i := 18) (by kernel_rfl) rfl rfl (fun K hK => ?_)
              refine wp_store_row 31 _ _ rfl w4.heap.size #[.int .u64 (g.nx : Int), .int .u64 (g.ep : Int), .int .i64 xt, .int .u64 (gn : Int), .int .u8 (ma.toNat : Int)] (by go_simp) (by go_simp) _ _ (heap_alloc_new w4 (.cells #[.int .u64 0, .int .u64 0, .int .i64 0, .int .u64 0, .int .u8 0] 31)) W.info_rc rfl (by simp [Value.oneCell']) ?_
              refine hK _ _ (fun h => absurd rfl h) ?_
              clear hK K
              refine Gate.done (by kernel_rfl) ?_
              go_wp2_with fail
              go_meet
              exact ⟨_, rfl, rfl, rec_box (heap_alloc_new w4 (.cells #[.int .u64 0, .int .u64 0, .int .i64 0, .int .u64 0, .int .u8 0] 31)) (below_al w4 _)⟩
          · go_simp
            refine hK _ _ (fun _ => KS.out _ ((below_al w4 _))) ?_
            clear hK K
            refine Gate.next (i := 4) (by kernel_rfl) rfl rfl (fun K hK => ?_)
            go_simp
            refine (KN.out _ (below_al w4 _)).mono ?_; rintro e w' ⟨rfl, rfl⟩
            refine hK _ _ (fun _ => KS.out _ (below_al w4 _)) ?_
            clear hK K
            refine Gate.next (i := 9) (by kernel_rfl) rfl rfl (fun K hK => ?_)
            go_simp
            refine (KE.out _ (below_al w4 _)).mono ?_; rintro e w' ⟨rfl, rfl⟩
            refine hK _ _ (fun _ => KS.out _ (below_al w4 _)) ?_
            clear hK K
            refine Gate.next (i := 16) (by kernel_rfl) rfl rfl (fun K hK => ?_)
            go_simp
            refine hK _ _ (fun _ => KS.out _ (below_al w4 _)) ?_
            clear hK K
            refine Gate.next (i := 18) (by kernel_rfl) rfl rfl (fun K hK => ?_)
            refine wp_store_row 31 _ _ rfl w4.heap.size #[.int .u64 (g.nx : Int), .int .u64 (g.ep : Int), .int .i64 xt, .int .u64 (gn : Int), .int .u8 (ma.toNat : Int)] (by go_simp) (by go_simp) _ _ (heap_alloc_new w4 (.cells #[.int .u64 0, .int .u64 0, .int .i64 0, .int .u64 0, .int .u8 0] 31)) W.info_rc rfl (by simp [Value.oneCell']) ?_
            refine hK _ _ (fun h => absurd rfl h) ?_
            clear hK K
            refine Gate.done (by kernel_rfl) ?_
            go_wp2_with fail
            go_meet
            exact ⟨_, rfl, rfl, rec_box (heap_alloc_new w4 (.cells #[.int .u64 0, .int .u64 0, .int .i64 0, .int .u64 0, .int .u8 0] 31)) (below_al w4 _)⟩
        case rest =>
          obtain ⟨bR, rfl, hbR⟩ := hcut
          have RBX := Lib.hid hbR.2.2
          have EBR := Lib.hid hbR.1
          have B5 := Lib.hid hbR.2.1
          clear hbR
          have SD5 := Lib.hid (SD4.out.below B5.out)
          have RW5 := Lib.hid (RW4.out.below B5.out)
          have BO5 := Lib.hid (BO4.out.below B5.out)
          have BR5 : Hid (Bo wc (Zs F pw t) bR #[.int .u64 (g.nx : Int), .int .u64 (g.ep : Int), .int .i64 xt, .int .u64 (gn : Int), .int .u8 (ma.toNat : Int)] 31) := ⟨RBX.out, fun z => by have := SD4.out.bound bR (.inl z); have := EBR.out; omega⟩
          clear SD4 RW4 BO4 RBX EBR B5
          have GK : Hid (GOk 70000 lg g) := KP.out.gok (by rw [AL.out]; omega) (by decide) EP.out
          have a0 := BO5.out.cell 0 rfl
          have a1 := BO5.out.cell 1 rfl
          have a2 := BO5.out.cell 2 rfl
          have a3 := BO5.out.cell 3 rfl
          have a4 := BO5.out.cell 4 rfl
          have c27 := SD5.out.cells.2.1
          have c28 := SD5.out.cells.2.2
          have hkind : (kind = 0 ∨ kind = 4 ∨ kind = 5 ∨ kind = 6 ∨ kind = 7) ∨ kind = 1 ∨ kind = 2 ∨ kind = 3 ∨ (¬ kind = 0 ∧ ¬ kind = 4 ∧ ¬ kind = 5 ∧ ¬ kind = 6 ∧ ¬ kind = 7 ∧ ¬ kind = 1 ∧ ¬ kind = 2 ∧ ¬ kind = 3) := by omega
          rcases hkind with hk | rfl | rfl | rfl | ⟨n0, n4, n5, n6, n7, n1, n2, n3⟩
          · obtain ⟨v0, g2, m2, hr⟩ : ∃ v0 g2 m2, app la lg ⟨g.nx, g.ep, xt, gn, ma⟩ g m = (v0, g2, m2) := ⟨_, _, _, rfl⟩
            have KP2 : Hid (Keeps la lg f m2.S g2 (if v0 = 0 then all ++ [⟨g.nx, g.ep, xt, gn, ma⟩] else all) d) := by have := KP.out.app ⟨g.nx, g.ep, xt, gn, ma⟩ rfl rfl; rw [hr] at this; exact this
            have EP2 : Hid (g2.ep ≤ most) := by have e := app_ep (la := la) (lg := lg) (g := g) (m := m) ⟨g.nx, g.ep, xt, gn, ma⟩; rw [hr] at e; show g2.ep ≤ most; rw [show g2.ep = g.ep from e]; exact EP.out
            have GF2 : Hid (g2.f = ff) := by have e := app_f (la := la) (lg := lg) (g := g) (m := m) ⟨g.nx, g.ep, xt, gn, ma⟩; rw [hr] at e; exact (show g2.f = g.f from e).trans GF.out
            have HR := Lib.hid hr
            have HL6 : Hid (all.length + 1 ≤ 1000000) := by rw [AL.out]; show na + 1 ≤ 1000000; omega
            clear hr
            have KA : Hid (∀ y, Below wc.heap.size wc y → Calls Tryz.prog 13 #[.pointer (some ⟨t, 0, none⟩), .int .i64 xt, .int .u64 (gn : Int), .int .u8 (ma.toNat : Int)] y fun e y' => e = .returned (.int .i64 v0) ∧ ∃ F', Sd w P p n (i + 1) pw D q E t U F' m2 g2 y' ∧ Kp wc (Zs F pw t) y' (Zs F' pw t)) := fun y hy => ((SD5.out.below hy).append HE.out HP.out GK.out (by omega) xt gn ma (v0, g2, m2) HR.out).mono fun e y' ⟨e1, F', e2, e3⟩ => ⟨e1, F', e2, (Kp.of_below hy _).trans e3⟩
            rcases hk with rfl | rfl | rfl | rfl | rfl
            all_goals
              go_wp2_with fail
              go_region_held (fun y => y.cell? ⟨P, 28, none⟩ = some (.pointer (some ⟨t, 0, none⟩)) ∧ y.cell? ⟨bA, 2, none⟩ = some (.int .i64 xt) ∧ y.cell? ⟨bA, 3, none⟩ = some (.int .u64 (gn : Int)) ∧ y.cell? ⟨bA, 4, none⟩ = some (.int .u8 (ma.toNat : Int))) (first | go_keep | exact ⟨SD6.out.cells.2.2, BO6.out.cell 2 rfl, BO6.out.cell 3 rfl, BO6.out.cell 4 rfl⟩)
                (first
                  | (go_at_call 13; (with_reducible refine (KA.out _ (bdrew _)).mono ?_); rintro e w6 ⟨rfl, F6, s6, k6⟩; have SD6 := Lib.hid s6; have RW6 := Lib.hid (RW5.out.kp (k6.but P)); have BR6 := Lib.hid (BR5.out.kp k6); have BO6 := Lib.hid (BO5.out.kp k6); clear s6 k6))
              all_goals
                clear a0 a1 a2 a3 a4 c27 c28 KA SD5 RW5 BR5 BO5
                by_cases hv : v0 = 0
                · subst hv
                  have KP3 : Hid (Keeps la lg f m2.S g2 (all ++ [⟨g.nx, g.ep, xt, gn, ma⟩]) d) := by have := KP2.out; rw [if_pos rfl] at this; exact this
                  have HZ6 : Hid (∀ b, Zs F6 pw t b ∨ b = P → b < w6.heap.size) := SD6.out.bound
                  have HB6 : Hid (w.heap.size ≤ w6.heap.size) := SD6.out.bel.size
                  clear KP2 HR
                  go_wp2_with (first
                    | ((with_reducible apply W.L_loadRc); exact rfl; exact BR6.out.hb; exact rfl)
                    | (at_builtin; refine L_appendRow rfl _ _ rfl rfl RW6.out HZ6.out HB6.out _ rfl ⟨g.nx, g.ep, xt, gn, ma⟩ rfl HL6.out ?_; intro v7 w7 r7 g7; have RW7 := Lib.hid r7; have G7 := Lib.hid g7; obtain ⟨A7, c7, e7, h7a, h7b⟩ := r7.own.form (n := na + 1) (by rw [List.length_map, List.length_append, AL.out]; rfl); subst e7; clear r7 g7))
                  have SD7 := Lib.hid (SD6.out.row RW6.out G7.out)
                  go_roundw
                  case rel => exact ⟨i + 1, na + 1, c7, d, ff, A7, by omega, rfl, rfl, rfl, by go_num, by omega, h7a, h7b, F6, m2, g2, all ++ [⟨g.nx, g.ep, xt, gn, ma⟩], SD7.out, KP3.out, GF2.out, EP2.out, by rw [List.length_append, AL.out]; rfl, RW7.out⟩
                  case measure => simp [intOf]; omega
                · have hvb : (v0 == 0) = false := by simpa using hv
                  have KP3 : Hid (Keeps la lg f m2.S g2 all d) := by have := KP2.out; rw [if_neg hv] at this; exact this
                  clear KP2 HR
                  go_wp2
                  go_roundw
                  case rel => exact ⟨i + 1, na, ca, d, ff, Aa, by omega, rfl, rfl, rfl, by go_num, by omega, hca, hca2, F6, m2, g2, all, SD6.out, KP3.out, GF2.out, EP2.out, AL.out, RW6.out⟩
                  case measure => simp [intOf]; omega
          · obtain ⟨tt, htt, htb⟩ := wrap_nat ((g.f : Int) + IntKind.u64.wrap zn)
            have HTT := Lib.hid htt
            have HTB := Lib.hid htb
            clear htt htb
            have KF : Hid (∀ y, Below wc.heap.size wc y → Calls Tryz.prog 15 #[.pointer (some ⟨t, 0, none⟩)] y fun e y' => e = .returned (.int .u64 (g.f : Int)) ∧ y = y') := fun y hy => (SD5.out.below hy).first
            obtain ⟨b0, hb0⟩ : ∃ b0, b0 = cutB tt g := ⟨_, rfl⟩
            have HB0 := Lib.hid hb0
            clear hb0
            have KC : Hid (∀ y, Below wc.heap.size wc y → Calls Tryz.prog 14 #[.pointer (some ⟨t, 0, none⟩), .int .u64 (IntKind.u64.wrap ((g.f : Int) + IntKind.u64.wrap zn))] y fun e y' => e = .returned (.bool b0) ∧ ∃ F', Sd w P p n i pw D q E t U F' m (cutG tt g) y' ∧ Kp wc (Zs F pw t) y' (Zs F' pw t)) := fun y hy => by
              rw [HTT.out, HB0.out]
              exact ((SD5.out.below hy).cut tt HTB.out).mono fun e y' ⟨e1, F', e2, e3⟩ => ⟨e1, F', e2, (Kp.of_below hy _).trans e3⟩
            go_wp2_with fail
            go_region_held (fun y => y.cell? ⟨P, 28, none⟩ = some (.pointer (some ⟨t, 0, none⟩)) ∧ y.cell? ⟨bA, 1, none⟩ = some (.int .i64 zn)) (first | go_keep | exact ⟨SD6.out.cells.2.2, BO6.out.cell 1 rfl⟩)
              (first
                | (go_at_call 15; (with_reducible refine (KF.out _ (bdrew _)).mono ?_); rintro e w' ⟨rfl, rfl⟩)
                | (go_at_call 14; (with_reducible refine (KC.out _ (bdrew _)).mono ?_); rintro e w6 ⟨rfl, F6, s6, k6⟩; have SD6 := Lib.hid s6; have RW6 := Lib.hid (RW5.out.kp (k6.but P)); have BO6 := Lib.hid (BO5.out.kp k6); clear s6 k6))
            all_goals
              clear a0 a1 a2 a3 a4 c27 c28 KF KC SD5 RW5 BR5 BO5
              have KP2 := Lib.hid (KP.out.cut tt)
              have EP2 : Hid ((cutG tt g).ep ≤ most) := by show _ ≤ _; rw [cutG_ep]; exact EP.out
              cases b0
              · have GF2 : Hid ((cutG tt g).f = ff) := by show _ = _; rw [cutG_no HB0.out.symm]; exact GF.out
                go_wp2
                go_roundw
                case rel => exact ⟨i + 1, na, ca, d, ff, Aa, by omega, rfl, rfl, rfl, by go_num, by omega, hca, hca2, F6, m, _, all, SD6.out.more (Nat.le_succ _) (by omega), KP2.out, GF2.out, EP2.out, AL.out, RW6.out⟩
                case measure => simp [intOf]; omega
              · have c28 := SD6.out.cells.2.2
                go_wp2_with fail
                refine SD6.out.first.mono ?_; rintro e w' ⟨rfl, rfl⟩
                go_wp2
                go_roundw
                case rel => exact ⟨i + 1, na, ca, d, _, Aa, by omega, rfl, rfl, rfl, by go_num, by omega, hca, hca2, F6, m, _, all, SD6.out.more (Nat.le_succ _) (by omega), KP2.out, rfl, EP2.out, AL.out, RW6.out⟩
                case measure => simp [intOf]; omega
          · obtain ⟨tt, htt, htb⟩ := wrap_nat ((g.ep : Int) + IntKind.u64.wrap (bits .and .i64 zn 3))
            have HTT := Lib.hid htt
            clear htt htb
            have KE : Hid (∀ y, Below wc.heap.size wc y → Calls Tryz.prog 12 #[.pointer (some ⟨t, 0, none⟩)] y fun e y' => e = .returned (.int .u64 (g.ep : Int)) ∧ y = y') := fun y hy => (SD5.out.below hy).epoch
            have KB : Hid (∀ y, Below wc.heap.size wc y → Calls Tryz.prog 16 #[.pointer (some ⟨t, 0, none⟩), .int .u64 (IntKind.u64.wrap ((g.ep : Int) + IntKind.u64.wrap (bits .and .i64 zn 3)))] y fun e y' => ∃ b, e = .returned (.bool b) ∧ ∃ F', Sd w P p n i pw D q E t U F' m (begG tt g) y' ∧ Kp wc (Zs F pw t) y' (Zs F' pw t)) := fun y hy => by
              rw [HTT.out]
              exact ((SD5.out.below hy).beg tt).mono fun e y' ⟨e1, F', e2, e3⟩ => ⟨_, e1, F', e2, (Kp.of_below hy _).trans e3⟩
            go_wp2_with fail
            go_region_held (fun y => y.cell? ⟨P, 28, none⟩ = some (.pointer (some ⟨t, 0, none⟩)) ∧ y.cell? ⟨bA, 1, none⟩ = some (.int .i64 zn)) (first | go_keep | exact ⟨SD6.out.cells.2.2, BO6.out.cell 1 rfl⟩)
              (first
                | (go_at_call 12; (with_reducible refine (KE.out _ (bdrew _)).mono ?_); rintro e w' ⟨rfl, rfl⟩)
                | (go_at_call 16; (with_reducible refine (KB.out _ (bdrew _)).mono ?_); rintro e w6 ⟨b0, rfl, F6, s6, k6⟩; have SD6 := Lib.hid s6; have RW6 := Lib.hid (RW5.out.kp (k6.but P)); have BO6 := Lib.hid (BO5.out.kp k6); clear s6 k6))
            all_goals
              clear a0 a1 a2 a3 a4 c27 c28 KE KB SD5 RW5 BR5 BO5
              have KP2 := Lib.hid (KP.out.beg tt)
              have EP2 : Hid ((begG tt g).ep ≤ most) := begG_ep tt EP.out
              have GF2 : Hid ((begG tt g).f = ff) := (begG_f tt).trans GF.out
              go_wp2
              go_roundw
              case rel => exact ⟨i + 1, na, ca, d, ff, Aa, by omega, rfl, rfl, rfl, by go_num, by omega, hca, hca2, F6, m, _, all, SD6.out.more (Nat.le_succ _) (by omega), KP2.out, GF2.out, EP2.out, AL.out, RW6.out⟩
              case measure => simp [intOf]; omega
          · have KP2 := Lib.hid KP.out.flush_any
            obtain ⟨v0, hv0⟩ : ∃ v0, v0 = (fl1 m).1 := ⟨_, rfl⟩
            obtain ⟨m2, hm2⟩ : ∃ m2, m2 = (fl1 m).2 := ⟨_, rfl⟩
            rw [← hv0, ← hm2] at KP2
            have KL : Hid (Calls Tryz.prog 17 #[.pointer (some ⟨D, 0, none⟩)] wc fun e y' => e = .returned (.int .i64 v0) ∧ ∃ F', Sd w P p n (i + 1) pw D q E t U F' m2 g y' ∧ Kp wc (Zs F pw t) y' (Zs F' pw t)) := by
              have := SD5.out.flush (by omega)
              rw [← hv0, ← hm2] at this
              exact this
            clear hv0 hm2
            go_wp2_with fail
            refine KL.out.mono ?_; rintro e w6 ⟨rfl, F6, s6, k6⟩
            have SD6 := Lib.hid s6
            have RW6 := Lib.hid (RW5.out.kp (k6.but P))
            clear s6 k6 a0 a1 a2 a3 a4 c27 c28 KL SD5 RW5 BR5 BO5
            by_cases hv : v0 = 0
            · subst hv
              have KP3 : Hid (Keeps la lg f m2.S g all na) := by have := KP2.out; rw [if_pos rfl, AL.out] at this; exact this
              clear KP2
              go_wp2
              go_roundw
              case rel => exact ⟨i + 1, na, ca, na, ff, Aa, by omega, rfl, rfl, rfl, by go_num, by omega, hca, hca2, F6, m2, g, all, SD6.out, KP3.out, GF.out, EP.out, AL.out, RW6.out⟩
              case measure => simp [intOf]; omega
            · have hvb : (v0 == 0) = false := by simpa using hv
              have KP3 : Hid (Keeps la lg f m2.S g all d) := by have := KP2.out; rw [if_neg hv] at this; exact this
              clear KP2
              go_wp2
              go_roundw
              case rel => exact ⟨i + 1, na, ca, d, ff, Aa, by omega, rfl, rfl, rfl, by go_num, by omega, hca, hca2, F6, m2, g, all, SD6.out, KP3.out, GF.out, EP.out, AL.out, RW6.out⟩
              case measure => simp [intOf]; omega
          · clear a1 a2 a3 a4 c27 c28
            go_wp2
            go_roundw
            case rel => exact ⟨i + 1, na, ca, d, ff, Aa, by omega, rfl, rfl, rfl, by go_num, by omega, hca, hca2, F, m, g, all, SD5.out.more (Nat.le_succ _) (by omega), KP.out, GF.out, EP.out, AL.out, RW5.out⟩
            case measure => simp [intOf]; omega
      · rcases hend with hend | ⟨hend, hend2⟩
        all_goals
          go_wp2
          go_meet
          exact ⟨i, na, ca, d, ff, Aa, hi, rfl, rfl, rfl, rfl, hna, hca, hca2, F, m, g, all, SD.out, KP.out, GF.out, EP.out, AL.out, RW.out⟩
  case rest =>
    obtain ⟨i, na, ca, d, ff, Aa, hi, rfl, rfl, rfl, rfl, hna, hca, hca2, WI⟩ := hcut
    clear W2
    obtain ⟨F, m, g, all, gone, l, L3, sd, ep, al, rw_, ho, h3, hn3, n1, n2, n3, n4, n5⟩ := Way.fin WI.out HP.out hf (show na ≤ 60 by omega) fs
    have SD := Lib.hid sd
    have EP := Lib.hid ep
    have AL := Lib.hid al
    have RW := Lib.hid rw_
    have HO3 := Lib.hid ho
    have HL3 := Lib.hid h3
    have HN3 := Lib.hid hn3
    clear sd ep al rw_ ho h3 hn3 WI
    have hG : IntKind.i64.wrap (IntKind.u64.wrap ((ff : Int) - (f : Int))) = (gone : Int) := by
      rw [IntWalk.u64_in _ ⟨by omega, by omega⟩, IntWalk.i64_in _ ⟨by omega, by omega⟩]
      omega
    have t1 : ¬ (gone : Int) < 0 := by omega
    have t2 : ¬ (na : Int) < (gone : Int) := by omega
    have NUM : Hid (ff = f + gone ∧ gone ≤ na ∧ l ≤ na - gone ∧ d ≤ gone + l ∧ na ≤ 60 ∧ na ≤ ca ∧ ca ≤ maxLen ∧ ff ≤ most) := ⟨n1, n2, n3, n4, by omega, hca, hca2, n5⟩
    clear n1 n2 n3 n4 n5 hna hca hca2
    go_upto_region 30 with fail
    have c27 := SD.out.cells.2.1
    obtain ⟨hn4, hsec⟩ := SD.out.pd.secs
    have hN7 := SD.out.pd.hN
    have HM : Hid (∀ x ∈ looseOf n m.S, x.2 ≤ 1000000000) := fun x hx => by
      obtain ⟨m1, m2, m3⟩ := mem_loose.1 hx
      have := (hsec x.1 m1).1
      omega
    have hL4 := loose_len n m.S
    have hfl := HFS.out.len
    have HCR : Hid (crashed n m.S fs = ⟨⟨false, none, 0⟩, crashTo n m.S (fits n m.S fs) (fits n m.S fs).length, 0, 0⟩) := rfl
    have HFT : Hid (fitOf (looseOf n m.S) fs (min ll (looseOf n m.S).length) = fits n m.S fs) := by show _ = _; unfold fits; rw [hfl]
    have HK : Hid ((fits n m.S fs).length ≤ (looseOf n m.S).length) := by rw [← HFT.out, fitOf_len]; exact Nat.min_le_right _ _
    have HG : Hid (∀ i, i < (fits n m.S fs).length → Dw.Good (looseOf n m.S) (fits n m.S fs) i) := fun i _ => by rw [← HFT.out]; exact fitOf_good _ _ _ i
    clear hsec hfl
    generalize crashed n m.S fs = mc at HO3 HCR
    generalize fits n m.S fs = ft at HCR HFT HK HG
    have KL : Hid (∀ y, Below wc.heap.size wc y → Calls Tryz.prog 21 #[.pointer (some ⟨D, 0, none⟩)] y (ToldL y (looseOf n m.S))) := fun y hy => by
      obtain ⟨fx, a, b, gg, x⟩ := (SD.out.below hy).pd.dv
      exact loose_any x
    have KF : Hid (∀ y lb lk cc, Below wc.heap.size wc y → Lo y (some ⟨lb, 0, none⟩) lk (looseOf n m.S) → Calls Tryz.prog 20 #[.slice (some ⟨lb, 0, none⟩) lk cc, .slice fa ll lc] y (Fitted y ft)) := fun y lb lk cc hy hlo => by
      have hlk := hlo.1
      subst hlk
      have := fit_any y (some ⟨lb, 0, none⟩) fa _ cc ll lc (looseOf n m.S) fs hlo (HFS.out.below (SD.out.below hy).bel) (by omega) HM.out hll9
      rwa [HFT.out] at this
    have KC : Hid (∀ y A' c' pw', Below wc.heap.size wc y → Pw y pw' ⟨false, none, 0⟩ → Fi y A' ft.length ft → Calls Tryz.prog 18 #[.pointer (some ⟨D, 0, none⟩), .pointer (some ⟨pw', 0, none⟩), .slice A' ft.length c'] y (Crashed y pw' n i (crashTo n m.S ft ft.length))) := fun y A' c' pw' hy hp hff => by
      obtain ⟨fx, a, b, gg, x⟩ := (SD.out.below hy).pd.dv
      exact crash_ok x hp hff HK.out HG.out
    go_wp2_with fail
    go_region_held (fun x => x.cell? ⟨P, 27, none⟩ = some (.pointer (some ⟨D, 0, none⟩))) (first | go_keep | exact (SD.out.below B11.out).cells.2.1 | exact (SD.out.below B10.out).cells.2.1 | exact (SD.out.below B9.out).cells.2.1 | exact (SD.out.below B8.out).cells.2.1)
      (first
        | (go_at_call 19; (with_reducible refine (newpower_any _).mono ?_); rintro e w8 ⟨rfl, p8, b8, z8⟩; have B8 : Hid (Below wc.heap.size wc w8) := bthen (bdrew _) b8; have P8 : Hid (Pw w8 wc.heap.size ⟨false, none, 0⟩) := p8; clear p8 b8 z8)
        | (go_at_call 21; (with_reducible refine (KL.out _ B8.out).mono ?_); rintro e w9 ⟨lb, lk, lcc, rfl, lo9, hlb, b9⟩; have B9 := Lib.hid (bthen B8.out b9); have LO9 := Lib.hid lo9; have P9 := Lib.hid (P8.out.heap (b9.block _ P8.out.lt)); clear lo9 hlb b9)
        | (go_at_call 20; (with_reducible refine (KF.out _ _ _ _ B9.out LO9.out).mono ?_); rintro e w10 ⟨A10, c10, rfl, f10, b10⟩; have B10 := Lib.hid (bthen B9.out b10); have F10 := Lib.hid f10; have P10 := Lib.hid (P9.out.heap (b10.block _ P9.out.lt)); clear f10 b10)
        | (go_at_call 18; (with_reducible refine (KC.out _ _ _ _ B10.out P10.out F10.out).mono ?_); rintro e w11 ⟨X, fx11, mm11, r11, rfl, hX, d11, b11⟩; have B11 := Lib.hid (bthen B10.out b11); have D11 := Lib.hid d11; have P11 := Lib.hid (P10.out.heap (b11.block _ P10.out.lt)); clear hX d11 b11))
    all_goals
      clear c27 KL KF KC
      have PD11 : Hid (PD w11 (Fresh w10 w11) X wc.heap.size n i mc) := by
        rw [HCR.out]
        exact ⟨P11.out, ⟨fx11, mm11, r11, _, D11.out⟩, fun y => by have := y.1; have := P10.out.lt; omega, Nat.zero_le _, hN7⟩
      have BW : Hid (w.heap.size ≤ wc.heap.size ∧ wc.heap.size ≤ w10.heap.size) := ⟨SD.out.bel.size, B10.out.size⟩
      have HE11 : Hid (∀ k, Fresh w10 w11 k → 0 < k) := fun k y => by
        obtain ⟨tt, fr, hh⟩ := HE.out
        have := lt_of_heap hh
        have := y.1
        have := BW.out
        omega
      have SD11 := Lib.hid (SD.out.below B11.out)
      have KE : Hid (∀ y, Below w11.heap.size w11 y → Calls Tryz.prog 12 #[.pointer (some ⟨t, 0, none⟩)] y fun e y' => e = .returned (.int .u64 (g.ep : Int)) ∧ y = y') := fun y hy => (SD11.out.below hy).epoch
      have KO : Hid (∀ y, Below w11.heap.size w11 y → Calls Tryz.prog 22 #[.pointer (some ⟨X, 0, none⟩), (.agg #[.int .i64 p.a0, .int .i64 p.a1, .int .i64 p.a2, .int .i64 p.a3, .int .i64 p.a4, .int .i64 p.a5, .int .i64 p.a6, .int .i64 p.a7, .int .i64 p.a8, .int .i64 p.a9, .int .i64 p.a10, .int .i64 p.a11, .int .i64 p.a12]), .int .u64 (ff : Int), .int .u64 (g.ep : Int)] y fun e y' => ∃ T A3 c3, e = .returned (.tuple #[.pointer (some ⟨T, 0, none⟩), .slice A3 l c3, .int .i64 0]) ∧ LgAt y' 101 T X p ⟨ff, ff + l, g.ep⟩ ∧ Rs y' A3 l L3 ∧ Below wc.heap.size wc y') := fun y hy =>
        (Iv.open_yes (PD11.out.below hy) (HE.out.below (SD11.out.below hy).bel) HE11.out HP.out (by rw [HCR.out]) HP.out.h12.symm NUM.out.2.2.2.2.2.2.2 EP.out (L3, mc) HO3.out).mono fun e y' ⟨A3, c3, e1, e2, e3, _, e5⟩ => by
          dsimp only at e1 e2 e3
          rw [HN3.out] at e1 e2
          refine ⟨_, A3, c3, e1, e2, rs_own (by rw [HN3.out] at e3; exact e3) HN3.out, ?_⟩
          have b1 := bthen B11.out hy
          exact b1.trans (e5.below b1.size (fun b hb z => by have := z.1; have := BW.out; omega))
      obtain ⟨x0, x1, x2, x3, x4, x5, x6, x7, x8, x9, x10, x11, x12, x13, x14⟩ := SD11.out.map
      go_wp2_with fail
      go_region_held (fun y => y.cell? ⟨P, 0, none⟩ = some (.int .i64 p.a0) ∧ y.cell? ⟨P, 1, none⟩ = some (.int .i64 p.a1) ∧ y.cell? ⟨P, 2, none⟩ = some (.int .i64 p.a2) ∧ y.cell? ⟨P, 3, none⟩ = some (.int .i64 p.a3) ∧ y.cell? ⟨P, 4, none⟩ = some (.int .i64 p.a4) ∧ y.cell? ⟨P, 5, none⟩ = some (.int .i64 p.a5) ∧ y.cell? ⟨P, 6, none⟩ = some (.int .i64 p.a6) ∧ y.cell? ⟨P, 7, none⟩ = some (.int .i64 p.a7) ∧ y.cell? ⟨P, 8, none⟩ = some (.int .i64 p.a8) ∧ y.cell? ⟨P, 9, none⟩ = some (.int .i64 p.a9) ∧ y.cell? ⟨P, 10, none⟩ = some (.int .i64 p.a10) ∧ y.cell? ⟨P, 11, none⟩ = some (.int .i64 p.a11) ∧ y.cell? ⟨P, 12, none⟩ = some (.int .i64 p.a12) ∧ y.cell? ⟨P, 27, none⟩ = some (.pointer (some ⟨D, 0, none⟩)) ∧ y.cell? ⟨P, 28, none⟩ = some (.pointer (some ⟨t, 0, none⟩))) (first | go_keep | exact (SD.out.below B12.out).map)
        (first
          | (go_at_call 12; (with_reducible refine (KE.out _ (bdrew _)).mono ?_); rintro e w' ⟨rfl, rfl⟩)
          | (go_at_call 22; (with_reducible refine (KO.out _ (bdrew _)).mono ?_); rintro e w12 ⟨T, A3, c3, rfl, l12, r12, b12⟩; have LG12 := Lib.hid l12; have RS12 := Lib.hid r12; have B12 := Lib.hid b12; clear l12 r12 b12))
      all_goals
        clear x0 x1 x2 x3 x4 x5 x6 x7 x8 x9 x10 x11 x12 x13 x14 KE KO SD11 PD11 HE11
        have SD12 := Lib.hid (SD.out.below B12.out)
        have RW12 := Lib.hid (RW.out.below B12.out)
        clear SD RW
        obtain ⟨n1, n2, n3, n4, n5, n6, n7, n8⟩ := NUM.out
        unfold maxLen at n7
        have u1 : ¬ wrap64 ((na : Int) - (gone : Int)) < (l : Int) := by unfold wrap64; omega
        have u2 : ¬ (l : Int) < wrap64 ((d : Int) - (gone : Int)) := by unfold wrap64; omega
        clear n1 n2 n3 n4 n5 n6 n7 n8
        go_upto_region 34 with fail
        clear u1 u2
        obtain ⟨n1, n2, n3, n4, n5, n6, n7, n8⟩ := NUM.out
        unfold maxLen at n7
        have g60 : (gone : Int) ≤ 60 := by omega
        have l60 : (l : Int) ≤ 60 := by omega
        have hsl : gone + l ≤ ca := by omega
        have hffb : (ff : Int) ≤ 100000 := by omega
        have HGC : Hid (gone = ca → l = 0) := fun e => by omega
        have RSB : Hid (∀ b : Option Addr, l = 0 → Rs w12 b l L3) := fun b e => ⟨HN3.out, fun h => by omega⟩
        have RSA : Hid (Rs w12 (Option.map (fun x => x.add (gone * 5)) Aa) l L3) := by
          by_cases hl0 : l = 0
          · exact RSB.out _ hl0
          · have rs := rs_own RW12.out.own AL.out
            obtain ⟨b, off, e, _⟩ := rs.2 (by omega)
            subst e
            have := rs.cut (k := gone) l (by omega)
            rw [← HL3.out] at this
            rw [Option.map_some, Go.WideShapes.add_plain]
            exact this
        have hl6 : l ≤ 1000000 := by omega
        have HL6 := Lib.hid hl6
        clear n1 n2 n3 n4 n5 n6 n7 n8 hl6
        by_cases hgc : gone = ca
        · have RSC := Lib.hid (RSB.out Aa (HGC.out hgc))
          clear RSA RSB HGC
          go_wp2_with fail
          refine (rsame_any RS12.out RSC.out HL6.out).mono ?_; rintro e w13 ⟨rfl, b13⟩
          have B13 := Lib.hid b13
          clear b13
          go_wp2_with fail
          refine (next_any (LG12.out.below B13.out)).mono ?_; rintro e w' ⟨rfl, rfl⟩
          have BW2 := Lib.hid (SD12.out.below B13.out).bel
          go_wp2_with fail
          refine (awake_any _ (HE.out.below BW2.out)).mono ?_; rintro e w14 ⟨rfl, b14⟩
          have B14 := Lib.hid (bthen BW2.out b14)
          clear b14
          go_wp2
          go_ret
          exact ⟨rfl, B14.out⟩
        · clear RSB HGC
          go_wp2_with fail
          refine (rsame_any RS12.out RSA.out HL6.out).mono ?_; rintro e w13 ⟨rfl, b13⟩
          have B13 := Lib.hid b13
          clear b13
          go_wp2_with fail
          refine (next_any (LG12.out.below B13.out)).mono ?_; rintro e w' ⟨rfl, rfl⟩
          have BW2 := Lib.hid (SD12.out.below B13.out).bel
          go_wp2_with fail
          refine (awake_any _ (HE.out.below BW2.out)).mono ?_; rintro e w14 ⟨rfl, b14⟩
          have B14 := Lib.hid (bthen BW2.out b14)
          clear b14
          go_wp2
          go_ret
          exact ⟨rfl, B14.out⟩
theorem keeps_law (W : World) (a0 : Int) (w0 : (Lit.int .u16 a0).wf = true) (a1 : Int) (w1 : (Lit.int .u16 a1).wf = true) (D : Option Addr) (n c : Nat) (L : Nat → ActV) (hl : n ≤ c) (hm : c ≤ maxLen) (h : Acts W D n L) (a3 : Int) (w3 : (Lit.int .u8 a3).wf = true) (fa : Option Addr) (fl fc : Nat) (fs : List Int) (hfl : fl ≤ fc) (hfc : fc ≤ maxLen) (hfs : Fi W fa fl fs) (he : Env W) :
    Calls Tryz.prog 4 #[.int .u16 a0, .int .u16 a1, .slice D n c, .int .u8 a3, .slice fa fl fc] W fun e w' => e = .returned (.bool true) ∧ Below W.heap.size W w' := by
  simp [Lit.wf, IntKind.min, IntKind.max, IntKind.signed, IntKind.bits] at w0 w1 w3
  obtain ⟨x, rfl⟩ := Int.eq_ofNat_of_zero_le w0.1
  obtain ⟨y, rfl⟩ := Int.eq_ofNat_of_zero_le w1.1
  obtain ⟨z, rfl⟩ := Int.eq_ofNat_of_zero_le w3.1
  exact keeps_walk x y (by omega) (by omega) h (Nat.le_trans hl hm) z (by omega) fa fl fc fs hfs (Nat.le_trans hfl hfc) he
end
end Go.Proofs.YtikbbikcacoobaaGreatDoor.Pd.Iv
