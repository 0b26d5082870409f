/-
  Elder texts, one behind the other: SlFree, SlFillGo, SlFill, SlFillF, SlFillY. No conditions.
-/
import Derived.Test.YtapklelkcicjlaaGreatDoorKSa
/-! Free. No conditions. -/
namespace Go.Proofs.YtapklelkcicjlaaGreatDoor.Pd.Sl
set_option maxRecDepth 100000
open Go.RowKit Oc Dm W Dw Sr Gt W.Hd
set_option linter.unusedVariables false
set_option maxRecDepth 100000
attribute [local go_sem ↓] Go.wp_at_zero Go.wp_at_succ
section
variable {w w' : World} {F : Nat → Prop} {D q n N t g la ns : Nat} {m : Vs} {p : Pn.Pl} {L : List Slt}
/-- nothing turned -/
theorem fj_same (h : PD w F D q n N m) (hs : SlAt w t g D p L) {N' : Nat} (hN : N ≤ N') (hb : N' ≤ 1000000) (hw : Below w.heap.size w w') : PD w' (Ext F w w') D q n N' m ∧ SlAt w' t g D p L ∧ Chg (fun b => Al F q b ∨ b = g) w w' :=
  ⟨((h.below hw).more hN hb).wide (fun _ x => .inl x) (ext_bound (fun k x => h.bound k (.inl x)) hw.size) (fun x => x.elim h.np (fun y => by have := h.pw.lt; omega)), hs.below hw, Chg.of_below hw⟩
theorem out_new (h : PD w F D q n N m) (hs : SlAt w t g D p L) {b : Nat} (hb : w.heap.size ≤ b) : Out F q g b := ⟨fun x => by have := h.bound b x; omega, fun e => by have := hs.lt.2; omega⟩
def FreeI (w1 : World) (F : Nat → Prop) (D q n N t g : Nat) (p : Pn.Pl) (L : List Slt) (m : Vs) (a : Int × Vs) (c : Int × Vs) : Nat → World → Prop
  | 0, y => FJ w1 F D q n N m t g p L y
  | 1, y => a.1 = 0 ∧ FJ w1 F D q n (N + 1) a.2 t g p L y
  | 2, y => a.1 = 0 ∧ c.1 = 0 ∧ FJ w1 F D q n (N + 2) c.2 t g p L y
  | _ + 3, _ => False
theorem FreeI.fj {w1 : World} {a c : Int × Vs} {k : Nat} {y : World} (h : FreeI w1 F D q n N t g p L m a c k y) : ∃ N' m', FJ w1 F D q n N' m' t g p L y :=
  match k, h with
  | 0, h => ⟨_, _, h⟩
  | 1, h => ⟨_, _, h.2⟩
  | 2, h => ⟨_, _, h.2.2⟩
/-- the functions of a free, one behind the other -/
theorem free_go {w3 : World} {bh bp bs i c : Nat} {s : Slt} {hx : Hd} {T : TypeId} {a R : Int × Vs} (h : PD w3 F D q n N m) (hs : SlAt w3 t g D p L) (h1 : ¬ Al F q t) (h2 : ¬ Al F q g) (he : EBl w3 F q g) (hp : Pln p la ns n) (hi : i < ns) (hN : N + 2 ≤ 1000000)
    (hx0 : hx = hd0 s.r) (x1 : w3.heap[bh]? = some (.cells #[.bool hx.u, .int .i64 hx.l, .int .u64 (hx.g : Int), .int .u32 (hx.s.toNat : Int), .int .u32 (hx.r.toNat : Int)] 32 (0, 0))) (x2 : PBox w3 bp D p) (x3 : w3.heap[bs]? = some (.cells #[.int .i64 (i : Int)] 3 (0, 0))) (o1 : Out F q g bh) (o2 : Out F q g bp) (o3 : Out F q g bs)
    (ha : wr1 m (la + 2 * i) (sect (hd0 s.r)) = a) (hR : R = if a.1 ≠ 0 then (a.1, a.2) else fl1 a.2) :
    Calls Tryz.prog 62 #[.slice (some ⟨w3.heap.size, 0, none⟩) 2 c] (w3.alloc (.cells #[.func (.func 112) #[] #[.pointer (some ⟨bh, 0, none⟩), .pointer (some ⟨bp, 0, none⟩), .pointer (some ⟨bs, 0, none⟩)], .func (.func 16) #[.pointer (some ⟨D, 0, none⟩)] #[]] T)) fun e w' => ∃ v, e = .returned (.int .i64 v) ∧ v = R.1 ∧ PD w' (Ext F w3 w') D q n (N + 2) R.2 ∧ SlAt w' t g D p L ∧ Chg (fun b => Al F q b ∨ b = g) w3 w' := by
  subst hx0
  have hnew := heap_alloc_new w3 (.cells #[.func (.func 112) #[] #[.pointer (some ⟨bh, 0, none⟩), .pointer (some ⟨bp, 0, none⟩), .pointer (some ⟨bs, 0, none⟩)], .func (.func 16) #[.pointer (some ⟨D, 0, none⟩)] #[]] T)
  have hb := balloc w3 (.cells #[.func (.func 112) #[] #[.pointer (some ⟨bh, 0, none⟩), .pointer (some ⟨bp, 0, none⟩), .pointer (some ⟨bs, 0, none⟩)], .func (.func 16) #[.pointer (some ⟨D, 0, none⟩)] #[]] T)
  have o4 := out_new h hs (Nat.le_refl _)
  generalize w3.alloc (.cells #[.func (.func 112) #[] #[.pointer (some ⟨bh, 0, none⟩), .pointer (some ⟨bp, 0, none⟩), .pointer (some ⟨bs, 0, none⟩)], .func (.func 16) #[.pointer (some ⟨D, 0, none⟩)] #[]] T) = w1 at hnew hb ⊢
  have J := FJ.start (h.below hb) (hs.below hb) h1 h2
  have hB : HB w1 F q g bh bp bs D p i (hd0 s.r) := ⟨kept_below x1 hb, kept_below x2 hb, kept_below x3 hb, o1, o2, o3⟩
  have hE := he.below hb
  refine first2 (h1 := bh) (p1 := bp) (s1 := bs) (D := D) (FreeI w1 F D q n N t g p L m a (fl1 a.2)) (fun v y => v = R.1 ∧ PD y (Ext F w3 y) D q n (N + 2) R.2 ∧ SlAt y t g D p L ∧ Chg (fun b => Al F q b ∨ b = g) w3 y) ?_ ?_ ?_ ?_ J
  · intro k y hI
    obtain ⟨N', m', J'⟩ := hI.fj
    have hy := J'.at_ hnew o4
    exact ⟨by rw [cell_of_row _ _ _ _ _ _ hy]; rfl, by rw [cell_of_row _ _ _ _ _ _ hy]; rfl⟩
  · intro y hI
    refine (layH1 hI hB hp hi (may0 s.r) hE (by omega)).mono fun e y' ⟨e1, e2⟩ => ⟨_, e1, ?_, ?_⟩
    · rw [ha] at e2 ⊢
      exact fun v0 => ⟨v0, e2⟩
    · rw [ha] at e2 ⊢
      intro v0
      rw [hR, if_pos v0]
      have e3 := e2.more (N' := N + 2) (by omega) hN
      obtain ⟨f1, f2, f3⟩ := e3.end_ hb h.bound
      exact ⟨rfl, f1, f2, f3⟩
  · rintro y ⟨a0, hI⟩
    refine (flush1 hI (by omega)).mono fun e y' ⟨e1, e2⟩ => ⟨_, e1, fun v0 => ⟨a0, v0, e2⟩, fun v0 => ?_⟩
    rw [hR, if_neg (fun x => x a0)]
    obtain ⟨f1, f2, f3⟩ := e2.end_ hb h.bound
    exact ⟨rfl, f1, f2, f3⟩
  · rintro y ⟨a0, c0, hI⟩
    rw [hR, if_neg (fun x => x a0)]
    obtain ⟨f1, f2, f3⟩ := hI.end_ hb h.bound
    exact ⟨c0.symm, f1, f2, f3⟩
set_option maxHeartbeats 8000000 in
theorem free_yes (h : PD w F D q n N m) (hs : SlAt w t g D p L) (h1 : ¬ Al F q t) (h2 : ¬ Al F q g) (he : EBl w F q g) (hp : Pln p la ns n) (hL : L.length = ns) (hN : N + 2 ≤ 1000000) (z : Int) (hz : hasZ L z) (R : Int × Vs) (hR : free la z L m = R) :
    Calls Tryz.prog 32 #[.pointer (some ⟨t, 0, none⟩), .int .i64 z] w fun e w' => e = .returned (.int .i64 R.1) ∧ PD w' (Ext F w w') D q n (N + 2) R.2 ∧ SlAt w' t g D p L ∧ Chg (fun b => Al F q b ∨ b = g) w w' := by
  have H := Lib.hid h
  have HS := Lib.hid hs
  have H1 := Lib.hid h1
  have H2 := Lib.hid h2
  have HE := Lib.hid he
  have HP := Lib.hid hp
  have HL := Lib.hid hL
  have HZ := Lib.hid hz
  obtain ⟨c0, ⟨c, c14, hc1, hc2⟩, fr⟩ := hs.cells
  obtain ⟨i, rfl, hi, hg⟩ := has_get hz
  obtain ⟨d0, d1, fg⟩ := hs.at_ hg
  obtain ⟨s, hs0⟩ : ∃ s, at0 L (i : Int) = s := ⟨_, rfl⟩
  rw [hs0] at hg d0 d1
  have hii : (i : Int) < (L.length : Int) := by omega
  have HI : Hid (i < ns) := by show _ < _; omega
  obtain ⟨a, ha⟩ : ∃ a, wr1 m (la + 2 * i) (sect (hd0 s.r)) = a := ⟨_, rfl⟩
  have HR : Hid (R = if a.1 ≠ 0 then (a.1, a.2) else fl1 a.2) := by
    show _ = _
    rw [← hR, ← ha, ← hs0]
    unfold free
    rw [if_neg (fun x => x hz)]
    rfl
  have HA := Lib.hid ha
  have HG := Lib.hid hg
  have SC : Hid (∀ y : World, SlAt y t g D p L → y.heap[t]? = w.heap[t]? → SlAt y t g D p L ∧ y.cell? ⟨t, 0, none⟩ = some (.pointer (some ⟨D, 0, none⟩)) ∧ y.cell? ⟨t, 14, none⟩ = some (.slice (some ⟨g, 0, none⟩) L.length c) ∧ y.cell? ⟨g, i * 2 + 1, none⟩ = some (.int .u32 (s.r.toNat : Int))) := fun y e2 e1 =>
    ⟨e2, (World.cell?_of_block (a := ⟨t, 0, none⟩) e1).trans c0, (World.cell?_of_block (a := ⟨t, 14, none⟩) e1).trans c14, (e2.at_ HG.out).2.1⟩
  have SB : Hid (∀ y : World, Below w.heap.size w y → SlAt y t g D p L ∧ y.heap[t]? = w.heap[t]?) := fun y hy => ⟨HS.out.below hy, hy.block t HS.out.lt.1⟩
  clear h hs h1 h2 he hp hL hz hg hR hs0 ha
  clear c0 c14 fr d0 d1 fg
  go_enter Tryz.func32, Tryz.ntmps32
  go_wp2_with fail
  refine (find_yes HS.out HZ.out).mono ?_; rintro e w' ⟨rfl, rfl⟩
  go_upto_region 4 with fail
  refine gate (fun y => SlAt y t g D p L ∧ y.heap[t]? = w.heap[t]?) 23 [0, 1, 2, 3, 4, 5, 6, 7, 8, 9, 10, 11, 12, 15, 16, 17, 18, 19, 20] 5 (by kernel_rfl) (by kernel_rfl) (by kernel_rfl) rfl ?_ (SB.out _ (bdrew _)) ?_
  · intro d v c a w h
    cases d <;> exact h
  iterate 3
    refine yields_step ?_ rfl rfl ?_ ?_
    rotate_left
    · intro x ⟨z0, z1⟩; obtain ⟨_, y0, y1, y2⟩ := SC.out x z0 z1; go_simp; rfl
  refine yields_step (.agg #[.pointer (some ⟨D, 0, none⟩), .int .i64 p.a0, .int .i64 p.a1, .int .i64 p.a2, .int .i64 p.a3, .int .i64 p.a4, .int .i64 p.a5, .int .i64 p.a6, .int .i64 p.a7, .int .i64 p.a8, .int .i64 p.a9, .int .i64 p.a10, .int .i64 p.a11, .int .i64 p.a12]) rfl rfl ?_ ?_
  · intro x ⟨z0, z1⟩; exact exec_ld rfl (by go_simp) (SC.out x z0 z1).1.place
  iterate 15
    refine yields_step ?_ rfl rfl ?_ ?_
    rotate_left
    · intro x ⟨z0, z1⟩; obtain ⟨_, y0, y1, y2⟩ := SC.out x z0 z1; go_simp; rfl
  refine Gate.next (i := 13) (by kernel_rfl) rfl rfl (fun K hK => ?_)
  go_simp
  refine (W.Hd.free_any _ _).mono ?_; rintro e w2 ⟨rfl, b2⟩
  have B2 : Hid (Below w.heap.size w w2) := below_of_drew b2
  refine hK _ _ (fun _ => SB.out _ B2.out) ?_
  clear hK K b2
  refine Gate.next (i := 14) (by kernel_rfl) rfl rfl (fun K hK => ?_)
  go_simp
  refine (layHead_any D p i (hd0 s.r) _).mono ?_; rintro e w3 ⟨bh, bp, bs, rfl, g1, g2, g3, x1, x2, x3, b3⟩
  have S2 := B2.out.size
  have B3 : Hid (Below w.heap.size w w3) := bthen B2.out b3
  have X1 := Lib.hid x1
  have X2 := Lib.hid x2
  have X3 := Lib.hid x3
  have GG : Hid (w.heap.size ≤ bh ∧ w.heap.size ≤ bp ∧ w.heap.size ≤ bs) := ⟨by omega, by omega, by omega⟩
  refine hK _ _ (fun _ => SB.out _ B3.out) ?_
  clear hK K b3 x1 x2 x3 g1 g2 g3 S2 B2
  refine Gate.next (i := 21) (by kernel_rfl) rfl rfl (fun K hK => ?_)
  go_simp
  refine hK _ _ (fun _ => SB.out _ (bthen B3.out (balloc _ _))) ?_
  clear hK K
  refine Gate.next (i := 22) (by kernel_rfl) rfl rfl (fun K hK => ?_)
  go_simp
  refine (free_go (H.out.below B3.out) (HS.out.below B3.out) H1.out H2.out (HE.out.below B3.out) HP.out HI.out hN rfl X1.out X2.out X3.out (out_new H.out HS.out GG.out.1) (out_new H.out HS.out GG.out.2.1) (out_new H.out HS.out GG.out.2.2) HA.out HR.out).mono ?_; rintro e w5 ⟨v, rfl, hv, p5, s5, c5⟩
  have P5 := Lib.hid p5
  have S5 := Lib.hid s5
  have C5 := Lib.hid c5
  have V5 := Lib.hid hv
  refine hK _ _ (fun _ => ⟨S5.out, (C5.out.block t (Nat.lt_of_lt_of_le HS.out.lt.1 B3.out.size) (fun x => x.elim H1.out (fun e => HS.out.ne e.symm))).trans (SB.out _ B3.out).2⟩) ?_
  clear hK K p5 s5 c5 hv
  refine Gate.next (i := 23) (by kernel_rfl) rfl rfl (fun K hK => ?_)
  go_simp
  refine hK _ _ (fun h => absurd rfl h) ?_
  clear hK K
  refine Gate.done (by kernel_rfl) ?_
  go_wp2
  go_ret
  have VV := V5.out
  subst VV
  exact ⟨rfl, H.out.from_ B3.out.size C5.out.size P5.out, S5.out, (Chg.of_below (F := fun b => Al F q b ∨ b = g) B3.out).trans C5.out (fun _ _ x => x)⟩
/-- Free, of any number -/
theorem free_all (h : PD w F D q n N m) (hs : SlAt w t g D p L) (h1 : ¬ Al F q t) (h2 : ¬ Al F q g) (he : EBl w F q g) (hp : Pln p la ns n) (hL : L.length = ns) (hN : N + 2 ≤ 1000000) (z : Int) (R : Int × Vs) (hR : free la z L m = R) :
    Calls Tryz.prog 32 #[.pointer (some ⟨t, 0, none⟩), .int .i64 z] w fun e w' => e = .returned (.int .i64 R.1) ∧ PD w' (Ext F w w') D q n (N + 2) R.2 ∧ SlAt w' t g D p L ∧ Chg (fun b => Al F q b ∨ b = g) w w' := by
  by_cases hz : hasZ L z
  · exact free_yes h hs h1 h2 he hp hL hN z hz R hR
  · have HR : Hid (R = (3, m)) := by show _ = _; rw [← hR]; unfold free; rw [if_pos hz]
    have H := Lib.hid h
    have HS := Lib.hid hs
    have HZ := Lib.hid hz
    clear h hs h1 h2 he hp hL hz hR
    go_enter Tryz.func32, Tryz.ntmps32
    go_wp2_with fail
    refine (find_no HS.out HZ.out).mono ?_; rintro e w' ⟨rfl, rfl⟩
    go_wp2
    go_ret
    rw [HR.out]
    exact ⟨rfl, fj_same H.out HS.out (by omega) hN (Below.refl _ _)⟩
end
end Go.Proofs.YtapklelkcicjlaaGreatDoor.Pd.Sl

/-! Fill. No conditions. -/
namespace Go.Proofs.YtapklelkcicjlaaGreatDoor.Pd.Sl
set_option maxRecDepth 100000
open Go.RowKit Oc Dm W Dw Sr Gt W.Hd
set_option linter.unusedVariables false
set_option maxRecDepth 100000
attribute [local go_sem ↓] Go.wp_at_zero Go.wp_at_succ
section
variable {w w' : World} {F : Nat → Prop} {D q n N t g la ns : Nat} {m : Vs} {p : Pn.Pl} {L : List Slt}
def FillI (w1 : World) (F : Nat → Prop) (D q n N t g : Nat) (p : Pn.Pl) (L L' : List Slt) (m : Vs) (a c d e f : Int × Vs) : Nat → World → Prop
  | 0, y => FJ w1 F D q n N m t g p L y
  | 1, y => a.1 = 0 ∧ FJ w1 F D q n (N + 1) a.2 t g p L y
  | 2, y => a.1 = 0 ∧ FJ w1 F D q n (N + 1) a.2 t g p L' y
  | 3, y => a.1 = 0 ∧ c.1 = 0 ∧ FJ w1 F D q n (N + 2) c.2 t g p L' y
  | 4, y => a.1 = 0 ∧ c.1 = 0 ∧ d.1 = 0 ∧ FJ w1 F D q n (N + 3) d.2 t g p L' y
  | 5, y => a.1 = 0 ∧ c.1 = 0 ∧ d.1 = 0 ∧ e.1 = 0 ∧ FJ w1 F D q n (N + 4) e.2 t g p L' y
  | 6, y => a.1 = 0 ∧ c.1 = 0 ∧ d.1 = 0 ∧ e.1 = 0 ∧ f.1 = 0 ∧ FJ w1 F D q n (N + 5) f.2 t g p L' y
  | _ + 7, _ => False
theorem FillI.fj {w1 : World} {a c d e f : Int × Vs} {L' : List Slt} {k : Nat} {y : World} (h : FillI w1 F D q n N t g p L L' m a c d e f k y) : ∃ N' m' L2, FJ w1 F D q n N' m' t g p L2 y :=
  match k, h with
  | 0, h => ⟨_, _, _, h⟩
  | 1, h => ⟨_, _, _, h.2⟩
  | 2, h => ⟨_, _, _, h.2⟩
  | 3, h => ⟨_, _, _, h.2.2⟩
  | 4, h => ⟨_, _, _, h.2.2.2⟩
  | 5, h => ⟨_, _, _, h.2.2.2.2⟩
  | 6, h => ⟨_, _, _, h.2.2.2.2.2⟩
theorem set_same {L : List Slt} {i : Nat} {s : Slt} (h : L[i]? = some s) : L.set i s = L := by
  obtain ⟨h1, h2⟩ := List.getElem?_eq_some_iff.1 h
  rw [← h2]
  exact List.set_getElem_self h1
/-- the functions of a fill, one behind the other -/
theorem fill_go {w3 : World} {bh bp bs bN b5 b6 dp ds dd eh ep es i cap cd gn : Nat} {A : Option Addr} {b : Int} {xs : List UInt8} {s : Slt} {r : UInt32} {hx hy : Hd} {T : TypeId} {X : Int × UInt32 × Vs} (h : PD w3 F D q n N m) (hs : SlAt w3 t g D p L) (h1 : ¬ Al F q t) (h2 : ¬ Al F q g) (he : EBl w3 F q g) (hp : Pln p la ns n) (hi : i < ns) (hN : N + 5 ≤ 1000000) (hsi : L[i]? = some s) (hr : r = s.r + 1) (hok : okB b gn)
    (hx0 : hx = hd0 r) (x1 : w3.heap[bh]? = some (.cells #[.bool hx.u, .int .i64 hx.l, .int .u64 (hx.g : Int), .int .u32 (hx.s.toNat : Int), .int .u32 (hx.r.toNat : Int)] 32 (0, 0))) (x2 : PBox w3 bp D p) (x3 : w3.heap[bs]? = some (.cells #[.int .i64 (i : Int)] 3 (0, 0))) (o1 : w.heap.size ≤ bh ∧ w.heap.size ≤ bp ∧ w.heap.size ≤ bs)
    (y1 : w3.heap[bN]? = some (.cells #[.int .u32 (r.toNat : Int)] 30 (0, 0))) (y2 : w3.heap[b5]? = some (.cells #[.pointer (some ⟨t, 0, none⟩)] 48 (0, 0))) (y3 : w3.heap[b6]? = some (.cells #[.int .i64 (i : Int)] 3 (0, 0))) (o2 : w.heap.size ≤ bN ∧ w.heap.size ≤ b5 ∧ w.heap.size ≤ b6)
    (z1 : PBox w3 dp D p) (z2 : w3.heap[ds]? = some (.cells #[.int .i64 (i : Int)] 3 (0, 0))) (z3 : w3.heap[dd]? = some (.cells #[.slice A 64 cd] 57 (0, 0))) (z4 : Oct w3 A 64 xs) (o3 : w.heap.size ≤ dp ∧ w.heap.size ≤ ds ∧ w.heap.size ≤ dd) (o4 : ∀ b off, A = some ⟨b, off, none⟩ → Out F q g b)
    (hy0 : hy = hd1 b gn xs r) (u1 : w3.heap[eh]? = some (.cells #[.bool hy.u, .int .i64 hy.l, .int .u64 (hy.g : Int), .int .u32 (hy.s.toNat : Int), .int .u32 (hy.r.toNat : Int)] 32 (0, 0))) (u2 : PBox w3 ep D p) (u3 : w3.heap[es]? = some (.cells #[.int .i64 (i : Int)] 3 (0, 0))) (o5 : w.heap.size ≤ eh ∧ w.heap.size ≤ ep ∧ w.heap.size ≤ es) (o6 : w.heap.size ≤ w3.heap.size) (o7 : ∀ k, w.heap.size ≤ k → Out F q g k)
    (hX : fillS la i b gn xs s.r m = X) :
    Calls Tryz.prog 62 #[.slice (some ⟨w3.heap.size, 0, none⟩) 6 cap] (w3.alloc (.cells #[.func (.func 112) #[] #[.pointer (some ⟨bh, 0, none⟩), .pointer (some ⟨bp, 0, none⟩), .pointer (some ⟨bs, 0, none⟩)], .func (.func 61) #[] #[.pointer (some ⟨bN, 0, none⟩), .pointer (some ⟨b5, 0, none⟩), .pointer (some ⟨b6, 0, none⟩)], .func (.func 16) #[.pointer (some ⟨D, 0, none⟩)] #[], .func (.func 114) #[] #[.pointer (some ⟨dp, 0, none⟩), .pointer (some ⟨ds, 0, none⟩), .pointer (some ⟨dd, 0, none⟩)], .func (.func 16) #[.pointer (some ⟨D, 0, none⟩)] #[], .func (.func 112) #[] #[.pointer (some ⟨eh, 0, none⟩), .pointer (some ⟨ep, 0, none⟩), .pointer (some ⟨es, 0, none⟩)]] T)) fun e w' => ∃ v, e = .returned (.int .i64 v) ∧ v = X.1 ∧ PD w' (Ext F w3 w') D q n (N + 5) X.2.2 ∧ SlAt w' t g D p (L.set i ⟨s.f, X.2.1⟩) ∧ Chg (fun b => Al F q b ∨ b = g) w3 w' := by
  subst hx0 hy0
  have hnew := heap_alloc_new w3 (.cells #[.func (.func 112) #[] #[.pointer (some ⟨bh, 0, none⟩), .pointer (some ⟨bp, 0, none⟩), .pointer (some ⟨bs, 0, none⟩)], .func (.func 61) #[] #[.pointer (some ⟨bN, 0, none⟩), .pointer (some ⟨b5, 0, none⟩), .pointer (some ⟨b6, 0, none⟩)], .func (.func 16) #[.pointer (some ⟨D, 0, none⟩)] #[], .func (.func 114) #[] #[.pointer (some ⟨dp, 0, none⟩), .pointer (some ⟨ds, 0, none⟩), .pointer (some ⟨dd, 0, none⟩)], .func (.func 16) #[.pointer (some ⟨D, 0, none⟩)] #[], .func (.func 112) #[] #[.pointer (some ⟨eh, 0, none⟩), .pointer (some ⟨ep, 0, none⟩), .pointer (some ⟨es, 0, none⟩)]] T)
  have hb := balloc w3 (.cells #[.func (.func 112) #[] #[.pointer (some ⟨bh, 0, none⟩), .pointer (some ⟨bp, 0, none⟩), .pointer (some ⟨bs, 0, none⟩)], .func (.func 61) #[] #[.pointer (some ⟨bN, 0, none⟩), .pointer (some ⟨b5, 0, none⟩), .pointer (some ⟨b6, 0, none⟩)], .func (.func 16) #[.pointer (some ⟨D, 0, none⟩)] #[], .func (.func 114) #[] #[.pointer (some ⟨dp, 0, none⟩), .pointer (some ⟨ds, 0, none⟩), .pointer (some ⟨dd, 0, none⟩)], .func (.func 16) #[.pointer (some ⟨D, 0, none⟩)] #[], .func (.func 112) #[] #[.pointer (some ⟨eh, 0, none⟩), .pointer (some ⟨ep, 0, none⟩), .pointer (some ⟨es, 0, none⟩)]] T)
  have oN := o7 _ o6
  generalize w3.alloc (.cells #[.func (.func 112) #[] #[.pointer (some ⟨bh, 0, none⟩), .pointer (some ⟨bp, 0, none⟩), .pointer (some ⟨bs, 0, none⟩)], .func (.func 61) #[] #[.pointer (some ⟨bN, 0, none⟩), .pointer (some ⟨b5, 0, none⟩), .pointer (some ⟨b6, 0, none⟩)], .func (.func 16) #[.pointer (some ⟨D, 0, none⟩)] #[], .func (.func 114) #[] #[.pointer (some ⟨dp, 0, none⟩), .pointer (some ⟨ds, 0, none⟩), .pointer (some ⟨dd, 0, none⟩)], .func (.func 16) #[.pointer (some ⟨D, 0, none⟩)] #[], .func (.func 112) #[] #[.pointer (some ⟨eh, 0, none⟩), .pointer (some ⟨ep, 0, none⟩), .pointer (some ⟨es, 0, none⟩)]] T) = w1 at hnew hb ⊢
  have J := FJ.start (h.below hb) (hs.below hb) h1 h2
  have hB : HB w1 F q g bh bp bs D p i (hd0 r) := ⟨kept_below x1 hb, kept_below x2 hb, kept_below x3 hb, o7 _ o1.1, o7 _ o1.2.1, o7 _ o1.2.2⟩
  have hB2 : HB w1 F q g eh ep es D p i (hd1 b gn xs r) := ⟨kept_below u1 hb, kept_below u2 hb, kept_below u3 hb, o7 _ o5.1, o7 _ o5.2.1, o7 _ o5.2.2⟩
  have hD : DB w1 F q g dp ds dd D p i A cd xs := ⟨kept_below z1 hb, kept_below z2 hb, kept_below z3 hb, z4.below hb, o4, o7 _ o3.1, o7 _ o3.2.1, o7 _ o3.2.2⟩
  have hE := he.below hb
  obtain ⟨a, ha⟩ : ∃ a, wr1 m (la + 2 * i) (sect (hd0 r)) = a := ⟨_, rfl⟩
  obtain ⟨c, hc⟩ : ∃ c, fl1 a.2 = c := ⟨_, rfl⟩
  obtain ⟨d, hd⟩ : ∃ d, wr1 c.2 (la + 2 * i + 1) xs = d := ⟨_, rfl⟩
  obtain ⟨e, hee⟩ : ∃ e, fl1 d.2 = e := ⟨_, rfl⟩
  obtain ⟨f, hf⟩ : ∃ f, wr1 e.2 (la + 2 * i) (sect (hd1 b gn xs r)) = f := ⟨_, rfl⟩
  have eX : X = if a.1 ≠ 0 then (a.1, s.r, a.2) else if c.1 ≠ 0 then (c.1, r, c.2) else if d.1 ≠ 0 then (d.1, r, d.2) else if e.1 ≠ 0 then (e.1, r, e.2) else (f.1, r, f.2) := by
    rw [← hX]
    unfold fillS
    dsimp only
    rw [← hr, ha, hc, hd, hee, hf]
  clear hX
  refine first6 (h1 := bh) (p1 := bp) (s1 := bs) (n2 := bN) (t2 := b5) (s2 := b6) (D := D) (p4 := dp) (s4 := ds) (d4 := dd) (h6 := eh) (p6 := ep) (s6 := es) (FillI w1 F D q n N t g p L (L.set i ⟨s.f, r⟩) m a c d e f) (fun v y => v = X.1 ∧ PD y (Ext F w3 y) D q n (N + 5) X.2.2 ∧ SlAt y t g D p (L.set i ⟨s.f, X.2.1⟩) ∧ Chg (fun b => Al F q b ∨ b = g) w3 y) ?_ ?_ ?_ ?_ ?_ ?_ ?_ ?_ J
  · intro k y hI
    obtain ⟨N', m', L2, J'⟩ := hI.fj
    have hy := J'.at_ hnew oN
    exact ⟨by rw [cell_of_row _ _ _ _ _ _ hy]; rfl, by rw [cell_of_row _ _ _ _ _ _ hy]; rfl, by rw [cell_of_row _ _ _ _ _ _ hy]; rfl, by rw [cell_of_row _ _ _ _ _ _ hy]; rfl, by rw [cell_of_row _ _ _ _ _ _ hy]; rfl, by rw [cell_of_row _ _ _ _ _ _ hy]; rfl⟩
  · intro y hI
    refine (layH1 hI hB hp hi (may0 r) hE (by omega)).mono fun e y' ⟨e1, e2⟩ => ⟨_, e1, ?_, ?_⟩
    · rw [ha] at e2 ⊢
      exact fun v0 => ⟨v0, e2⟩
    · rw [ha] at e2 ⊢
      intro v0
      rw [eX, if_pos v0, set_same hsi]
      obtain ⟨f1, f2, f3⟩ := (e2.more (N' := N + 5) (by omega) hN).end_ hb h.bound
      exact ⟨rfl, f1, f2, f3⟩
  · rintro y ⟨a0, hI⟩
    refine (wears1 (r := r) hI (kept_below y1 hb) (kept_below y2 hb) (kept_below y3 hb) (o7 _ o2.1) (o7 _ o2.2.1) (o7 _ o2.2.2) hsi).mono fun e y' ⟨e1, e2⟩ => ⟨_, e1, fun _ => ⟨a0, e2⟩, fun x => absurd rfl x⟩
  · rintro y ⟨a0, hI⟩
    refine (flush1 hI (by omega)).mono fun e y' ⟨e1, e2⟩ => ⟨_, e1, ?_, ?_⟩
    · rw [hc] at e2 ⊢
      exact fun v0 => ⟨a0, v0, e2⟩
    · rw [hc] at e2 ⊢
      intro v0
      rw [eX, if_neg (fun x => x a0), if_pos v0]
      obtain ⟨f1, f2, f3⟩ := (e2.more (N' := N + 5) (by omega) hN).end_ hb h.bound
      exact ⟨rfl, f1, f2, f3⟩
  · rintro y ⟨a0, c0, hI⟩
    refine (layD1 hI hD hp hi (by omega)).mono fun e y' ⟨e1, e2⟩ => ⟨_, e1, ?_, ?_⟩
    · rw [hd] at e2 ⊢
      exact fun v0 => ⟨a0, c0, v0, e2⟩
    · rw [hd] at e2 ⊢
      intro v0
      rw [eX, if_neg (fun x => x a0), if_neg (fun x => x c0), if_pos v0]
      obtain ⟨f1, f2, f3⟩ := (e2.more (N' := N + 5) (by omega) hN).end_ hb h.bound
      exact ⟨rfl, f1, f2, f3⟩
  · rintro y ⟨a0, c0, d0, hI⟩
    refine (flush1 hI (by omega)).mono fun e y' ⟨e1, e2⟩ => ⟨_, e1, ?_, ?_⟩
    · rw [hee] at e2 ⊢
      exact fun v0 => ⟨a0, c0, d0, v0, e2⟩
    · rw [hee] at e2 ⊢
      intro v0
      rw [eX, if_neg (fun x => x a0), if_neg (fun x => x c0), if_neg (fun x => x d0), if_pos v0]
      obtain ⟨f1, f2, f3⟩ := (e2.more (N' := N + 5) (by omega) hN).end_ hb h.bound
      exact ⟨rfl, f1, f2, f3⟩
  · rintro y ⟨a0, c0, d0, ee0, hI⟩
    refine (layH1 hI hB2 hp hi (may1_iff.2 hok) hE (by omega)).mono fun e y' ⟨e1, e2⟩ => ⟨_, e1, ?_, ?_⟩
    · rw [hf] at e2 ⊢
      exact fun v0 => ⟨a0, c0, d0, ee0, v0, e2⟩
    · rw [hf] at e2 ⊢
      intro v0
      rw [eX, if_neg (fun x => x a0), if_neg (fun x => x c0), if_neg (fun x => x d0), if_neg (fun x => x ee0)]
      obtain ⟨f1, f2, f3⟩ := (e2.more (N' := N + 5) (by omega) hN).end_ hb h.bound
      exact ⟨rfl, f1, f2, f3⟩
  · rintro y ⟨a0, c0, d0, ee0, f0, hI⟩
    rw [eX, if_neg (fun x => x a0), if_neg (fun x => x c0), if_neg (fun x => x d0), if_neg (fun x => x ee0)]
    obtain ⟨f1, f2, f3⟩ := hI.end_ hb h.bound
    exact ⟨f0.symm, f1, f2, f3⟩
end
end Go.Proofs.YtapklelkcicjlaaGreatDoor.Pd.Sl

/-! Fill. No conditions. -/
namespace Go.Proofs.YtapklelkcicjlaaGreatDoor.Pd.Sl
set_option maxRecDepth 100000
open Go.RowKit Oc Dm W Dw Sr Gt W.Hd
set_option linter.unusedVariables false
set_option maxRecDepth 100000
attribute [local go_sem ↓] Go.wp_at_zero Go.wp_at_succ
section
variable {w w' : World} {F : Nat → Prop} {D q n N t g la ns : Nat} {m : Vs} {p : Pn.Pl} {L : List Slt}
theorem may_su {b : Int} {gn : Nat} {su r : UInt32} : MayBe ⟨true, b, gn, su, r⟩ ↔ okB b gn := by
  unfold MayBe
  simp
set_option maxHeartbeats 4000000 in
theorem fill_no (h : PD w F D q n N m) (hs : SlAt w t g D p L) (h1 : ¬ Al F q t) (h2 : ¬ Al F q g) (he : EBl w F q g) (hp : Pln p la ns n) (hL : L.length = ns) (hN : N + 5 ≤ 1000000) (z b : Int) (gn : Nat) (A : Option Addr) (l c : Nat) (xs : List UInt8) (hl : l ≤ 1000000) (ho : Oct w A l xs) (hA : ∀ b off, 0 < l → A = some ⟨b, off, none⟩ → Out F q g b) (R : Int × List Slt × Vs) (hR : fill la z b gn xs L m = R) (hz : ¬ hasZ L z) :
    Calls Tryz.prog 12 #[.pointer (some ⟨t, 0, none⟩), .int .i64 z, .int .i64 b, .int .u64 (gn : Int), .slice A l c] w fun e w' => e = .returned (.int .i64 R.1) ∧ PD w' (Ext F w w') D q n (N + 5) R.2.2 ∧ SlAt w' t g D p R.2.1 ∧ Chg (fun b => Al F q b ∨ b = g) w w' := by
  have HR : Hid (R = (3, L, m)) := by show _ = _; rw [← hR]; unfold fill; rw [if_pos hz]
  have H := Lib.hid h
  have HS := Lib.hid hs
  have HZ := Lib.hid hz
  clear h hs h1 h2 he hp hL hz hR ho hA hl
  go_enter Tryz.func12, Tryz.ntmps12
  go_wp2_with fail
  refine (find_no (HS.out.below (bthen (balloc _ _) (balloc _ _))) HZ.out).mono ?_; rintro e w' ⟨rfl, rfl⟩
  go_wp2
  go_ret
  rw [HR.out]
  exact ⟨rfl, fj_same H.out HS.out (by omega) hN (bthen (balloc _ _) (balloc _ _))⟩
set_option maxHeartbeats 8000000 in
theorem fill_arg (h : PD w F D q n N m) (hs : SlAt w t g D p L) (h1 : ¬ Al F q t) (h2 : ¬ Al F q g) (he : EBl w F q g) (hp : Pln p la ns n) (hL : L.length = ns) (hN : N + 5 ≤ 1000000) (z b : Int) (gn : Nat) (A : Option Addr) (l c : Nat) (xs : List UInt8) (hl : l ≤ 1000000) (ho : Oct w A l xs) (hA : ∀ b off, 0 < l → A = some ⟨b, off, none⟩ → Out F q g b) (R : Int × List Slt × Vs) (hR : fill la z b gn xs L m = R) (hz : hasZ L z) (hok : ¬ okB b gn) :
    Calls Tryz.prog 12 #[.pointer (some ⟨t, 0, none⟩), .int .i64 z, .int .i64 b, .int .u64 (gn : Int), .slice A l c] w fun e w' => e = .returned (.int .i64 R.1) ∧ PD w' (Ext F w w') D q n (N + 5) R.2.2 ∧ SlAt w' t g D p R.2.1 ∧ Chg (fun b => Al F q b ∨ b = g) w w' := by
  have H := Lib.hid h
  have HS := Lib.hid hs
  have H1 := Lib.hid h1
  have H2 := Lib.hid h2
  have HE := Lib.hid he
  have HP := Lib.hid hp
  have HL := Lib.hid hL
  have HZ := Lib.hid hz
  have HO := Lib.hid ho
  have HAA := Lib.hid hA
  have HLL := Lib.hid hl
  obtain ⟨c0, ⟨cc, c14, hc1, hc2⟩, fr⟩ := hs.cells
  obtain ⟨i, rfl, hi, hg⟩ := has_get hz
  obtain ⟨d0, d1, fg⟩ := hs.at_ hg
  obtain ⟨s, hs0⟩ : ∃ s, at0 L (i : Int) = s := ⟨_, rfl⟩
  rw [hs0] at hg d0 d1
  have hii : (i : Int) < (L.length : Int) := by omega
  have HI : Hid (i < ns) := by show _ < _; omega
  obtain ⟨su, hsu⟩ : ∃ su : UInt32, sum xs = su.toNat := ⟨UInt32.ofNat (sum xs), by
    have := sum_lt xs
    rw [UInt32.toNat_ofNat_of_lt' (by show _ < 4294967296; exact this)]⟩
  have HSU := Lib.hid hsu
  obtain ⟨r, hr⟩ : ∃ r, s.r + 1 = r := ⟨_, rfl⟩
  have HRR := Lib.hid hr
  have HW : Hid (IntKind.u32.wrap ((s.r.toNat : Int) + 1) = (r.toNat : Int)) := by rw [← hr]; exact u32_succ s.r
  have HR : Hid (R = (1, L, m)) := by show _ = _; rw [← hR]; unfold fill; rw [if_neg (fun x => x hz), if_pos (fun x => hok x.2)]
  have HK := Lib.hid hok
  have HG := Lib.hid hg
  have SC : Hid (∀ y : World, SlAt y t g D p L → y.heap[t]? = w.heap[t]? → SlAt y t g D p L ∧ y.cell? ⟨t, 0, none⟩ = some (.pointer (some ⟨D, 0, none⟩)) ∧ y.cell? ⟨t, 14, none⟩ = some (.slice (some ⟨g, 0, none⟩) L.length cc) ∧ y.cell? ⟨g, i * 2 + 1, none⟩ = some (.int .u32 (s.r.toNat : Int))) := fun y e2 e1 =>
    ⟨e2, (World.cell?_of_block (a := ⟨t, 0, none⟩) e1).trans c0, (World.cell?_of_block (a := ⟨t, 14, none⟩) e1).trans c14, (e2.at_ HG.out).2.1⟩
  have SB : Hid (∀ y : World, Below w.heap.size w y → SlAt y t g D p L ∧ y.heap[t]? = w.heap[t]?) := fun y hy => ⟨HS.out.below hy, hy.block t HS.out.lt.1⟩
  clear h hs h1 h2 he hp hL hz hg hR hs0 hsu hr ho hA hl hok
  clear c0 c14 fr d0 d1 fg
  go_enter Tryz.func12, Tryz.ntmps12
  go_wp2_with fail
  refine (find_yes (HS.out.below (bthen (balloc _ _) (balloc _ _))) HZ.out).mono ?_; rintro e w' ⟨rfl, rfl⟩
  go_upto_region 4 with fail
  have B1 := Lib.hid (bthen (balloc w (.cells #[.pointer (some ⟨t, 0, none⟩)] 48)) (balloc _ (.cells #[.int .i64 (i : Int)] 3)))
  have X5 := Lib.hid (kept_below (heap_alloc_new w (.cells #[.pointer (some ⟨t, 0, none⟩)] 48)) (balloc _ (.cells #[.int .i64 (i : Int)] 3)))
  have X6 := Lib.hid (heap_at_next w (.cells #[.pointer (some ⟨t, 0, none⟩)] 48) (.cells #[.int .i64 (i : Int)] 3))
  generalize (w.alloc (.cells #[.pointer (some ⟨t, 0, none⟩)] 48)).alloc (.cells #[.int .i64 (i : Int)] 3) = w1 at B1 X5 X6 ⊢
  have XC : Hid (∀ y : World, y.heap[w.heap.size]? = some (.cells #[.pointer (some ⟨t, 0, none⟩)] 48 (0, 0)) → y.heap[w.heap.size + 1]? = some (.cells #[.int .i64 (i : Int)] 3 (0, 0)) → y.cell? ⟨w.heap.size, 0, none⟩ = some (.pointer (some ⟨t, 0, none⟩)) ∧ y.cell? ⟨w.heap.size + 1, 0, none⟩ = some (.int .i64 (i : Int))) := fun y e1 e2 => ⟨by rw [cell_of_row _ _ _ _ _ _ e1]; rfl, by rw [cell_of_row _ _ _ _ _ _ e2]; rfl⟩
  have SX : Hid (∀ y : World, Below w1.heap.size w1 y → (SlAt y t g D p L ∧ y.heap[t]? = w.heap[t]?) ∧ y.heap[w.heap.size]? = some (.cells #[.pointer (some ⟨t, 0, none⟩)] 48 (0, 0)) ∧ y.heap[w.heap.size + 1]? = some (.cells #[.int .i64 (i : Int)] 3 (0, 0))) := fun y hy => ⟨SB.out y (bthen B1.out hy), kept_below X5.out hy, kept_below X6.out hy⟩
  have hw := HW.out
  refine gate (fun y => (SlAt y t g D p L ∧ y.heap[t]? = w.heap[t]?) ∧ y.heap[w.heap.size]? = some (.cells #[.pointer (some ⟨t, 0, none⟩)] 48 (0, 0)) ∧ y.heap[w.heap.size + 1]? = some (.cells #[.int .i64 (i : Int)] 3 (0, 0))) 10 [0, 1, 2, 3, 4, 5, 6, 7, 8] 2 (by kernel_rfl) (by kernel_rfl) (by kernel_rfl) rfl ?_ (SX.out _ (bdrew _)) ?_
  · intro d v c a w h
    cases d <;> exact h
  iterate 9
    refine yields_step ?_ rfl rfl ?_ ?_
    rotate_left
    · intro x ⟨⟨z0, z1⟩, z2, z3⟩; obtain ⟨_, y0, y1, y2⟩ := SC.out x z0 z1; obtain ⟨k0, k1⟩ := XC.out x z2 z3; go_simp; rfl
  refine Gate.next (i := 9) (by kernel_rfl) rfl rfl (fun K hK => ?_)
  go_simp
  refine hK _ _ (fun _ => SX.out _ (balloc w1 (.cells #[.int .u32 0] 30)).drew) ?_
  clear hK K
  refine Gate.next (i := 10) (by kernel_rfl) rfl rfl (fun K hK => ?_)
  go_simp
  refine hK _ _ (fun h => absurd rfl h) ?_
  clear hK K hw
  refine Gate.done (by kernel_rfl) ?_
  have X7 : Hid ((w1.alloc (.cells #[.int .u32 (r.toNat : Int)] 30)).drew.heap[w1.heap.size]? = some (.cells #[.int .u32 (r.toNat : Int)] 30 (0, 0))) := heap_alloc_new w1 (.cells #[.int .u32 (r.toNat : Int)] 30)
  have B2 : Hid (Below w1.heap.size w1 (w1.alloc (.cells #[.int .u32 (r.toNat : Int)] 30)).drew) := (balloc w1 (.cells #[.int .u32 (r.toNat : Int)] 30)).drew
  generalize hbN : w1.heap.size = bN at X7 ⊢
  generalize (w1.alloc (.cells #[.int .u32 (r.toNat : Int)] 30)).drew = w2 at X7 B2 ⊢
  have GN : Hid (w.heap.size ≤ bN) := by have := B1.out.size; show _ ≤ _; omega
  have B3 : Hid (Below w.heap.size w w2) := bthen B1.out B2.out
  have X5' := Lib.hid (kept_below X5.out B2.out)
  have X6' := Lib.hid (kept_below X6.out B2.out)
  clear hbN X5 X6 SX B1 B2
  have x7 : w2.cell? ⟨bN, 0, none⟩ = some (.int .u32 (r.toNat : Int)) := by rw [cell_of_row _ _ _ _ _ _ X7.out]; rfl
  go_wp2_with fail
  refine (W.Hd.of_any A l c xs b (gn : Int) (r.toNat : Int) su.toNat w2 HLL.out (HO.out.below B3.out) (HE.out.below B3.out).1.1 HSU.out).mono ?_; rintro e w3 ⟨rfl, b3⟩
  have B4 := Lib.hid (bthen B3.out b3)
  have X8 := Lib.hid (kept_below X5'.out b3)
  have X9 := Lib.hid (kept_below X6'.out b3)
  have X10 := Lib.hid (kept_below X7.out b3)
  clear b3 x7 B3 X5' X6' X7
  go_wp2_with (first
    | ((with_reducible apply L_storeRow (N := 5) info_hd); exact rfl; exact rfl; exact heap_alloc_new _ _; exact rfl; exact rfl; (simp [Value.oneCell']); intro w4 h4 g4; have H4 := Lib.hid h4; have B5 : Hid (Below w3.heap.size w3 w4) := (balloc w3 (.cells #[.bool false, .int .i64 0, .int .u64 0, .int .u32 0, .int .u32 0] 32)).grown g4 (by simp) (fun k e => by injection e with e; omega); clear h4 g4)
    | ((with_reducible apply L_loadHd); exact rfl; exact H4.out; exact rfl))
  refine (hdput_no ⟨true, b, gn, su, r⟩ _ (fun x => HK.out (may_su.1 x))).mono ?_; rintro e w5 ⟨rfl, b5⟩
  have B6 := Lib.hid (bthen (bthen B4.out B5.out) b5)
  clear b5
  go_wp2
  go_ret
  rw [HR.out]
  exact ⟨rfl, fj_same H.out HS.out (by omega) hN B6.out⟩
set_option maxHeartbeats 8000000 in
theorem fill_len (h : PD w F D q n N m) (hs : SlAt w t g D p L) (h1 : ¬ Al F q t) (h2 : ¬ Al F q g) (he : EBl w F q g) (hp : Pln p la ns n) (hL : L.length = ns) (hN : N + 5 ≤ 1000000) (z b : Int) (gn : Nat) (A : Option Addr) (l c : Nat) (xs : List UInt8) (hl : l ≤ 1000000) (ho : Oct w A l xs) (hA : ∀ b off, 0 < l → A = some ⟨b, off, none⟩ → Out F q g b) (R : Int × List Slt × Vs) (hR : fill la z b gn xs L m = R) (hz : hasZ L z) (hok : okB b gn) (h64 : ¬ l = 64) :
    Calls Tryz.prog 12 #[.pointer (some ⟨t, 0, none⟩), .int .i64 z, .int .i64 b, .int .u64 (gn : Int), .slice A l c] w fun e w' => e = .returned (.int .i64 R.1) ∧ PD w' (Ext F w w') D q n (N + 5) R.2.2 ∧ SlAt w' t g D p R.2.1 ∧ Chg (fun b => Al F q b ∨ b = g) w w' := by
  have H := Lib.hid h
  have HS := Lib.hid hs
  have H1 := Lib.hid h1
  have H2 := Lib.hid h2
  have HE := Lib.hid he
  have HP := Lib.hid hp
  have HL := Lib.hid hL
  have HZ := Lib.hid hz
  have HO := Lib.hid ho
  have HAA := Lib.hid hA
  have HLL := Lib.hid hl
  obtain ⟨c0, ⟨cc, c14, hc1, hc2⟩, fr⟩ := hs.cells
  obtain ⟨i, rfl, hi, hg⟩ := has_get hz
  obtain ⟨d0, d1, fg⟩ := hs.at_ hg
  obtain ⟨s, hs0⟩ : ∃ s, at0 L (i : Int) = s := ⟨_, rfl⟩
  rw [hs0] at hg d0 d1
  have hii : (i : Int) < (L.length : Int) := by omega
  have HI : Hid (i < ns) := by show _ < _; omega
  obtain ⟨su, hsu⟩ : ∃ su : UInt32, sum xs = su.toNat := ⟨UInt32.ofNat (sum xs), by
    have := sum_lt xs
    rw [UInt32.toNat_ofNat_of_lt' (by show _ < 4294967296; exact this)]⟩
  have HSU := Lib.hid hsu
  obtain ⟨r, hr⟩ : ∃ r, s.r + 1 = r := ⟨_, rfl⟩
  have HRR := Lib.hid hr
  have HW : Hid (IntKind.u32.wrap ((s.r.toNat : Int) + 1) = (r.toNat : Int)) := by rw [← hr]; exact u32_succ s.r
  have HR : Hid (R = (1, L, m)) := by show _ = _; rw [← hR]; unfold fill; rw [if_neg (fun x => x hz), if_pos (fun x => h64 (by rw [← ho.1]; exact x.1))]
  have HK := Lib.hid hok
  have H64 : Hid (((l : Int) != 64) = true) := by show _ = _; simp; omega
  have HG := Lib.hid hg
  have SC : Hid (∀ y : World, SlAt y t g D p L → y.heap[t]? = w.heap[t]? → SlAt y t g D p L ∧ y.cell? ⟨t, 0, none⟩ = some (.pointer (some ⟨D, 0, none⟩)) ∧ y.cell? ⟨t, 14, none⟩ = some (.slice (some ⟨g, 0, none⟩) L.length cc) ∧ y.cell? ⟨g, i * 2 + 1, none⟩ = some (.int .u32 (s.r.toNat : Int))) := fun y e2 e1 =>
    ⟨e2, (World.cell?_of_block (a := ⟨t, 0, none⟩) e1).trans c0, (World.cell?_of_block (a := ⟨t, 14, none⟩) e1).trans c14, (e2.at_ HG.out).2.1⟩
  have SB : Hid (∀ y : World, Below w.heap.size w y → SlAt y t g D p L ∧ y.heap[t]? = w.heap[t]?) := fun y hy => ⟨HS.out.below hy, hy.block t HS.out.lt.1⟩
  clear h hs h1 h2 he hp hL hz hg hR hs0 hsu hr ho hA hl hok h64
  clear c0 c14 fr d0 d1 fg
  go_enter Tryz.func12, Tryz.ntmps12
  go_wp2_with fail
  refine (find_yes (HS.out.below (bthen (balloc _ _) (balloc _ _))) HZ.out).mono ?_; rintro e w' ⟨rfl, rfl⟩
  go_upto_region 4 with fail
  have B1 := Lib.hid (bthen (balloc w (.cells #[.pointer (some ⟨t, 0, none⟩)] 48)) (balloc _ (.cells #[.int .i64 (i : Int)] 3)))
  have X5 := Lib.hid (kept_below (heap_alloc_new w (.cells #[.pointer (some ⟨t, 0, none⟩)] 48)) (balloc _ (.cells #[.int .i64 (i : Int)] 3)))
  have X6 := Lib.hid (heap_at_next w (.cells #[.pointer (some ⟨t, 0, none⟩)] 48) (.cells #[.int .i64 (i : Int)] 3))
  generalize (w.alloc (.cells #[.pointer (some ⟨t, 0, none⟩)] 48)).alloc (.cells #[.int .i64 (i : Int)] 3) = w1 at B1 X5 X6 ⊢
  have XC : Hid (∀ y : World, y.heap[w.heap.size]? = some (.cells #[.pointer (some ⟨t, 0, none⟩)] 48 (0, 0)) → y.heap[w.heap.size + 1]? = some (.cells #[.int .i64 (i : Int)] 3 (0, 0)) → y.cell? ⟨w.heap.size, 0, none⟩ = some (.pointer (some ⟨t, 0, none⟩)) ∧ y.cell? ⟨w.heap.size + 1, 0, none⟩ = some (.int .i64 (i : Int))) := fun y e1 e2 => ⟨by rw [cell_of_row _ _ _ _ _ _ e1]; rfl, by rw [cell_of_row _ _ _ _ _ _ e2]; rfl⟩
  have SX : Hid (∀ y : World, Below w1.heap.size w1 y → (SlAt y t g D p L ∧ y.heap[t]? = w.heap[t]?) ∧ y.heap[w.heap.size]? = some (.cells #[.pointer (some ⟨t, 0, none⟩)] 48 (0, 0)) ∧ y.heap[w.heap.size + 1]? = some (.cells #[.int .i64 (i : Int)] 3 (0, 0))) := fun y hy => ⟨SB.out y (bthen B1.out hy), kept_below X5.out hy, kept_below X6.out hy⟩
  have hw := HW.out
  refine gate (fun y => (SlAt y t g D p L ∧ y.heap[t]? = w.heap[t]?) ∧ y.heap[w.heap.size]? = some (.cells #[.pointer (some ⟨t, 0, none⟩)] 48 (0, 0)) ∧ y.heap[w.heap.size + 1]? = some (.cells #[.int .i64 (i : Int)] 3 (0, 0))) 10 [0, 1, 2, 3, 4, 5, 6, 7, 8] 2 (by kernel_rfl) (by kernel_rfl) (by kernel_rfl) rfl ?_ (SX.out _ (bdrew _)) ?_
  · intro d v c a w h
    cases d <;> exact h
  iterate 9
    refine yields_step ?_ rfl rfl ?_ ?_
    rotate_left
    · intro x ⟨⟨z0, z1⟩, z2, z3⟩; obtain ⟨_, y0, y1, y2⟩ := SC.out x z0 z1; obtain ⟨k0, k1⟩ := XC.out x z2 z3; go_simp; rfl
  refine Gate.next (i := 9) (by kernel_rfl) rfl rfl (fun K hK => ?_)
  go_simp
  refine hK _ _ (fun _ => SX.out _ (balloc w1 (.cells #[.int .u32 0] 30)).drew) ?_
  clear hK K
  refine Gate.next (i := 10) (by kernel_rfl) rfl rfl (fun K hK => ?_)
  go_simp
  refine hK _ _ (fun h => absurd rfl h) ?_
  clear hK K hw
  refine Gate.done (by kernel_rfl) ?_
  have X7 : Hid ((w1.alloc (.cells #[.int .u32 (r.toNat : Int)] 30)).drew.heap[w1.heap.size]? = some (.cells #[.int .u32 (r.toNat : Int)] 30 (0, 0))) := heap_alloc_new w1 (.cells #[.int .u32 (r.toNat : Int)] 30)
  have B2 : Hid (Below w1.heap.size w1 (w1.alloc (.cells #[.int .u32 (r.toNat : Int)] 30)).drew) := (balloc w1 (.cells #[.int .u32 (r.toNat : Int)] 30)).drew
  generalize hbN : w1.heap.size = bN at X7 ⊢
  generalize (w1.alloc (.cells #[.int .u32 (r.toNat : Int)] 30)).drew = w2 at X7 B2 ⊢
  have GN : Hid (w.heap.size ≤ bN) := by have := B1.out.size; show _ ≤ _; omega
  have B3 : Hid (Below w.heap.size w w2) := bthen B1.out B2.out
  have X5' := Lib.hid (kept_below X5.out B2.out)
  have X6' := Lib.hid (kept_below X6.out B2.out)
  clear hbN X5 X6 SX B1 B2
  have x7 : w2.cell? ⟨bN, 0, none⟩ = some (.int .u32 (r.toNat : Int)) := by rw [cell_of_row _ _ _ _ _ _ X7.out]; rfl
  go_wp2_with fail
  refine (W.Hd.of_any A l c xs b (gn : Int) (r.toNat : Int) su.toNat w2 HLL.out (HO.out.below B3.out) (HE.out.below B3.out).1.1 HSU.out).mono ?_; rintro e w3 ⟨rfl, b3⟩
  have B4 := Lib.hid (bthen B3.out b3)
  have X8 := Lib.hid (kept_below X5'.out b3)
  have X9 := Lib.hid (kept_below X6'.out b3)
  have X10 := Lib.hid (kept_below X7.out b3)
  clear b3 x7 B3 X5' X6' X7
  go_wp2_with (first
    | ((with_reducible apply L_storeRow (N := 5) info_hd); exact rfl; exact rfl; exact heap_alloc_new _ _; exact rfl; exact rfl; (simp [Value.oneCell']); intro w4 h4 g4; have H4 := Lib.hid h4; have B5 : Hid (Below w3.heap.size w3 w4) := (balloc w3 (.cells #[.bool false, .int .i64 0, .int .u64 0, .int .u32 0, .int .u32 0] 32)).grown g4 (by simp) (fun k e => by injection e with e; omega); clear h4 g4)
    | ((with_reducible apply L_loadHd); exact rfl; exact H4.out; exact rfl))
  refine (hdput_ok ⟨true, b, gn, su, r⟩ _ (may_su.2 HK.out) (HE.out.below (bthen B4.out B5.out)).1).mono ?_; rintro e w5 ⟨v5, rfl, o5, b5⟩
  obtain ⟨k5, c5, rfl, _, _, _⟩ := own_oct o5 (sect_length _)
  have B6 := Lib.hid (bthen (bthen B4.out B5.out) b5)
  have X12 := Lib.hid (kept_below X8.out (bthen B5.out b5))
  have X13 := Lib.hid (kept_below X9.out (bthen B5.out b5))
  have X14 := Lib.hid (kept_below X10.out (bthen B5.out b5))
  have X15 := Lib.hid (kept_below H4.out b5)
  have GH : Hid (w.heap.size ≤ w3.heap.size) := B4.out.size
  clear b5 o5 B4 B5 X8 X9 X10 H4
  have h64 := H64.out
  go_wp2
  go_ret
  rw [HR.out]
  exact ⟨rfl, fj_same H.out HS.out (by omega) hN B6.out⟩
set_option maxHeartbeats 8000000 in
theorem fill_bad (h : PD w F D q n N m) (hs : SlAt w t g D p L) (h1 : ¬ Al F q t) (h2 : ¬ Al F q g) (he : EBl w F q g) (hp : Pln p la ns n) (hL : L.length = ns) (hN : N + 5 ≤ 1000000) (z b : Int) (gn : Nat) (A : Option Addr) (l c : Nat) (xs : List UInt8) (hl : l ≤ 1000000) (ho : Oct w A l xs) (hA : ∀ b off, 0 < l → A = some ⟨b, off, none⟩ → Out F q g b) (R : Int × List Slt × Vs) (hR : fill la z b gn xs L m = R) (hz : hasZ L z) (hok : okB b gn) (h64 : l = 64) (hb : isBad (at0 L z) = true) :
    Calls Tryz.prog 12 #[.pointer (some ⟨t, 0, none⟩), .int .i64 z, .int .i64 b, .int .u64 (gn : Int), .slice A l c] w fun e w' => e = .returned (.int .i64 R.1) ∧ PD w' (Ext F w w') D q n (N + 5) R.2.2 ∧ SlAt w' t g D p R.2.1 ∧ Chg (fun b => Al F q b ∨ b = g) w w' := by
  have H := Lib.hid h
  have HS := Lib.hid hs
  have H1 := Lib.hid h1
  have H2 := Lib.hid h2
  have HE := Lib.hid he
  have HP := Lib.hid hp
  have HL := Lib.hid hL
  have HZ := Lib.hid hz
  have HO := Lib.hid ho
  have HAA := Lib.hid hA
  have HLL := Lib.hid hl
  obtain ⟨c0, ⟨cc, c14, hc1, hc2⟩, fr⟩ := hs.cells
  obtain ⟨i, rfl, hi, hg⟩ := has_get hz
  obtain ⟨d0, d1, fg⟩ := hs.at_ hg
  obtain ⟨s, hs0⟩ : ∃ s, at0 L (i : Int) = s := ⟨_, rfl⟩
  rw [hs0] at hg d0 d1
  have hii : (i : Int) < (L.length : Int) := by omega
  have HI : Hid (i < ns) := by show _ < _; omega
  obtain ⟨su, hsu⟩ : ∃ su : UInt32, sum xs = su.toNat := ⟨UInt32.ofNat (sum xs), by
    have := sum_lt xs
    rw [UInt32.toNat_ofNat_of_lt' (by show _ < 4294967296; exact this)]⟩
  have HSU := Lib.hid hsu
  obtain ⟨r, hr⟩ : ∃ r, s.r + 1 = r := ⟨_, rfl⟩
  have HRR := Lib.hid hr
  have HW : Hid (IntKind.u32.wrap ((s.r.toNat : Int) + 1) = (r.toNat : Int)) := by rw [← hr]; exact u32_succ s.r
  have HR : Hid (R = (6, L, m)) := by show _ = _; rw [← hR]; unfold fill; rw [if_neg (fun x => x hz), if_neg (fun x => x ⟨ho.1.trans h64, hok⟩), if_pos hb]
  have HK := Lib.hid hok
  have H64 : Hid (((l : Int) != 64) = false) := by show _ = _; rw [h64]; rfl
  have HL64 := Lib.hid h64
  have HB := Lib.hid hb
  have HG := Lib.hid hg
  have SC : Hid (∀ y : World, SlAt y t g D p L → y.heap[t]? = w.heap[t]? → SlAt y t g D p L ∧ y.cell? ⟨t, 0, none⟩ = some (.pointer (some ⟨D, 0, none⟩)) ∧ y.cell? ⟨t, 14, none⟩ = some (.slice (some ⟨g, 0, none⟩) L.length cc) ∧ y.cell? ⟨g, i * 2 + 1, none⟩ = some (.int .u32 (s.r.toNat : Int))) := fun y e2 e1 =>
    ⟨e2, (World.cell?_of_block (a := ⟨t, 0, none⟩) e1).trans c0, (World.cell?_of_block (a := ⟨t, 14, none⟩) e1).trans c14, (e2.at_ HG.out).2.1⟩
  have SB : Hid (∀ y : World, Below w.heap.size w y → SlAt y t g D p L ∧ y.heap[t]? = w.heap[t]?) := fun y hy => ⟨HS.out.below hy, hy.block t HS.out.lt.1⟩
  clear h hs h1 h2 he hp hL hz hg hR hs0 hsu hr ho hA hl hok hb h64
  clear c0 c14 fr d0 d1 fg
  go_enter Tryz.func12, Tryz.ntmps12
  go_wp2_with fail
  refine (find_yes (HS.out.below (bthen (balloc _ _) (balloc _ _))) HZ.out).mono ?_; rintro e w' ⟨rfl, rfl⟩
  go_upto_region 4 with fail
  have B1 := Lib.hid (bthen (balloc w (.cells #[.pointer (some ⟨t, 0, none⟩)] 48)) (balloc _ (.cells #[.int .i64 (i : Int)] 3)))
  have X5 := Lib.hid (kept_below (heap_alloc_new w (.cells #[.pointer (some ⟨t, 0, none⟩)] 48)) (balloc _ (.cells #[.int .i64 (i : Int)] 3)))
  have X6 := Lib.hid (heap_at_next w (.cells #[.pointer (some ⟨t, 0, none⟩)] 48) (.cells #[.int .i64 (i : Int)] 3))
  generalize (w.alloc (.cells #[.pointer (some ⟨t, 0, none⟩)] 48)).alloc (.cells #[.int .i64 (i : Int)] 3) = w1 at B1 X5 X6 ⊢
  have XC : Hid (∀ y : World, y.heap[w.heap.size]? = some (.cells #[.pointer (some ⟨t, 0, none⟩)] 48 (0, 0)) → y.heap[w.heap.size + 1]? = some (.cells #[.int .i64 (i : Int)] 3 (0, 0)) → y.cell? ⟨w.heap.size, 0, none⟩ = some (.pointer (some ⟨t, 0, none⟩)) ∧ y.cell? ⟨w.heap.size + 1, 0, none⟩ = some (.int .i64 (i : Int))) := fun y e1 e2 => ⟨by rw [cell_of_row _ _ _ _ _ _ e1]; rfl, by rw [cell_of_row _ _ _ _ _ _ e2]; rfl⟩
  have SX : Hid (∀ y : World, Below w1.heap.size w1 y → (SlAt y t g D p L ∧ y.heap[t]? = w.heap[t]?) ∧ y.heap[w.heap.size]? = some (.cells #[.pointer (some ⟨t, 0, none⟩)] 48 (0, 0)) ∧ y.heap[w.heap.size + 1]? = some (.cells #[.int .i64 (i : Int)] 3 (0, 0))) := fun y hy => ⟨SB.out y (bthen B1.out hy), kept_below X5.out hy, kept_below X6.out hy⟩
  have hw := HW.out
  refine gate (fun y => (SlAt y t g D p L ∧ y.heap[t]? = w.heap[t]?) ∧ y.heap[w.heap.size]? = some (.cells #[.pointer (some ⟨t, 0, none⟩)] 48 (0, 0)) ∧ y.heap[w.heap.size + 1]? = some (.cells #[.int .i64 (i : Int)] 3 (0, 0))) 10 [0, 1, 2, 3, 4, 5, 6, 7, 8] 2 (by kernel_rfl) (by kernel_rfl) (by kernel_rfl) rfl ?_ (SX.out _ (bdrew _)) ?_
  · intro d v c a w h
    cases d <;> exact h
  iterate 9
    refine yields_step ?_ rfl rfl ?_ ?_
    rotate_left
    · intro x ⟨⟨z0, z1⟩, z2, z3⟩; obtain ⟨_, y0, y1, y2⟩ := SC.out x z0 z1; obtain ⟨k0, k1⟩ := XC.out x z2 z3; go_simp; rfl
  refine Gate.next (i := 9) (by kernel_rfl) rfl rfl (fun K hK => ?_)
  go_simp
  refine hK _ _ (fun _ => SX.out _ (balloc w1 (.cells #[.int .u32 0] 30)).drew) ?_
  clear hK K
  refine Gate.next (i := 10) (by kernel_rfl) rfl rfl (fun K hK => ?_)
  go_simp
  refine hK _ _ (fun h => absurd rfl h) ?_
  clear hK K hw
  refine Gate.done (by kernel_rfl) ?_
  have X7 : Hid ((w1.alloc (.cells #[.int .u32 (r.toNat : Int)] 30)).drew.heap[w1.heap.size]? = some (.cells #[.int .u32 (r.toNat : Int)] 30 (0, 0))) := heap_alloc_new w1 (.cells #[.int .u32 (r.toNat : Int)] 30)
  have B2 : Hid (Below w1.heap.size w1 (w1.alloc (.cells #[.int .u32 (r.toNat : Int)] 30)).drew) := (balloc w1 (.cells #[.int .u32 (r.toNat : Int)] 30)).drew
  generalize hbN : w1.heap.size = bN at X7 ⊢
  generalize (w1.alloc (.cells #[.int .u32 (r.toNat : Int)] 30)).drew = w2 at X7 B2 ⊢
  have GN : Hid (w.heap.size ≤ bN) := by have := B1.out.size; show _ ≤ _; omega
  have B3 : Hid (Below w.heap.size w w2) := bthen B1.out B2.out
  have X5' := Lib.hid (kept_below X5.out B2.out)
  have X6' := Lib.hid (kept_below X6.out B2.out)
  clear hbN X5 X6 SX B1 B2
  have x7 : w2.cell? ⟨bN, 0, none⟩ = some (.int .u32 (r.toNat : Int)) := by rw [cell_of_row _ _ _ _ _ _ X7.out]; rfl
  go_wp2_with fail
  refine (W.Hd.of_any A l c xs b (gn : Int) (r.toNat : Int) su.toNat w2 HLL.out (HO.out.below B3.out) (HE.out.below B3.out).1.1 HSU.out).mono ?_; rintro e w3 ⟨rfl, b3⟩
  have B4 := Lib.hid (bthen B3.out b3)
  have X8 := Lib.hid (kept_below X5'.out b3)
  have X9 := Lib.hid (kept_below X6'.out b3)
  have X10 := Lib.hid (kept_below X7.out b3)
  clear b3 x7 B3 X5' X6' X7
  go_wp2_with (first
    | ((with_reducible apply L_storeRow (N := 5) info_hd); exact rfl; exact rfl; exact heap_alloc_new _ _; exact rfl; exact rfl; (simp [Value.oneCell']); intro w4 h4 g4; have H4 := Lib.hid h4; have B5 : Hid (Below w3.heap.size w3 w4) := (balloc w3 (.cells #[.bool false, .int .i64 0, .int .u64 0, .int .u32 0, .int .u32 0] 32)).grown g4 (by simp) (fun k e => by injection e with e; omega); clear h4 g4)
    | ((with_reducible apply L_loadHd); exact rfl; exact H4.out; exact rfl))
  refine (hdput_ok ⟨true, b, gn, su, r⟩ _ (may_su.2 HK.out) (HE.out.below (bthen B4.out B5.out)).1).mono ?_; rintro e w5 ⟨v5, rfl, o5, b5⟩
  obtain ⟨k5, c5, rfl, _, _, _⟩ := own_oct o5 (sect_length _)
  have B6 := Lib.hid (bthen (bthen B4.out B5.out) b5)
  have X12 := Lib.hid (kept_below X8.out (bthen B5.out b5))
  have X13 := Lib.hid (kept_below X9.out (bthen B5.out b5))
  have X14 := Lib.hid (kept_below X10.out (bthen B5.out b5))
  have X15 := Lib.hid (kept_below H4.out b5)
  have GH : Hid (w.heap.size ≤ w3.heap.size) := B4.out.size
  clear b5 o5 B4 B5 X8 X9 X10 H4
  have KB : Hid (∀ y, Below w.heap.size w y → Calls Tryz.prog 34 #[.pointer (some ⟨t, 0, none⟩), .int .i64 (i : Int)] y fun e y' => e = .returned (.bool true) ∧ y = y') := fun y hy => (bad_yes (HS.out.below hy) HZ.out).mono fun e y' ⟨e1, e2⟩ => ⟨by rw [e1, HB.out], e2⟩
  obtain ⟨x12, x13⟩ := XC.out _ X12.out X13.out
  have h64 := H64.out
  go_wp2_with fail
  refine (KB.out _ B6.out).mono ?_; rintro e w6 ⟨rfl, rfl⟩
  clear x12 x13 h64
  go_wp2
  go_ret
  rw [HR.out]
  exact ⟨rfl, fj_same H.out HS.out (by omega) hN B6.out⟩
end
end Go.Proofs.YtapklelkcicjlaaGreatDoor.Pd.Sl

/-! Fill. No conditions. -/
namespace Go.Proofs.YtapklelkcicjlaaGreatDoor.Pd.Sl
set_option maxRecDepth 100000
open Go.RowKit Oc Dm W Dw Sr Gt W.Hd
set_option linter.unusedVariables false
set_option maxRecDepth 100000
attribute [local go_sem ↓] Go.wp_at_zero Go.wp_at_succ
section
variable {w w' : World} {F : Nat → Prop} {D q n N t g la ns : Nat} {m : Vs} {p : Pn.Pl} {L : List Slt}
set_option maxHeartbeats 8000000 in
theorem fill_full (h : PD w F D q n N m) (hs : SlAt w t g D p L) (h1 : ¬ Al F q t) (h2 : ¬ Al F q g) (he : EBl w F q g) (hp : Pln p la ns n) (hL : L.length = ns) (hN : N + 5 ≤ 1000000) (z b : Int) (gn : Nat) (A : Option Addr) (l c : Nat) (xs : List UInt8) (hl : l ≤ 1000000) (ho : Oct w A l xs) (hA : ∀ b off, 0 < l → A = some ⟨b, off, none⟩ → Out F q g b) (R : Int × List Slt × Vs) (hR : fill la z b gn xs L m = R) (hz : hasZ L z) (hok : okB b gn) (h64 : l = 64) (hb : isBad (at0 L z) = false) (hf : (at0 L z).r.toNat = 4294967295) :
    Calls Tryz.prog 12 #[.pointer (some ⟨t, 0, none⟩), .int .i64 z, .int .i64 b, .int .u64 (gn : Int), .slice A l c] w fun e w' => e = .returned (.int .i64 R.1) ∧ PD w' (Ext F w w') D q n (N + 5) R.2.2 ∧ SlAt w' t g D p R.2.1 ∧ Chg (fun b => Al F q b ∨ b = g) w w' := by
  have H := Lib.hid h
  have HS := Lib.hid hs
  have H1 := Lib.hid h1
  have H2 := Lib.hid h2
  have HE := Lib.hid he
  have HP := Lib.hid hp
  have HL := Lib.hid hL
  have HZ := Lib.hid hz
  have HO := Lib.hid ho
  have HAA := Lib.hid hA
  have HLL := Lib.hid hl
  obtain ⟨c0, ⟨cc, c14, hc1, hc2⟩, fr⟩ := hs.cells
  obtain ⟨i, rfl, hi, hg⟩ := has_get hz
  obtain ⟨d0, d1, fg⟩ := hs.at_ hg
  obtain ⟨s, hs0⟩ : ∃ s, at0 L (i : Int) = s := ⟨_, rfl⟩
  rw [hs0] at hg d0 d1
  have hii : (i : Int) < (L.length : Int) := by omega
  have HI : Hid (i < ns) := by show _ < _; omega
  obtain ⟨su, hsu⟩ : ∃ su : UInt32, sum xs = su.toNat := ⟨UInt32.ofNat (sum xs), by
    have := sum_lt xs
    rw [UInt32.toNat_ofNat_of_lt' (by show _ < 4294967296; exact this)]⟩
  have HSU := Lib.hid hsu
  obtain ⟨r, hr⟩ : ∃ r, s.r + 1 = r := ⟨_, rfl⟩
  have HRR := Lib.hid hr
  have HW : Hid (IntKind.u32.wrap ((s.r.toNat : Int) + 1) = (r.toNat : Int)) := by rw [← hr]; exact u32_succ s.r
  have HR : Hid (R = (5, L, m)) := by show _ = _; rw [← hR]; unfold fill; rw [if_neg (fun x => x hz), if_neg (fun x => x ⟨ho.1.trans h64, hok⟩), if_neg (by rw [hb]; decide), if_pos hf]
  have HK := Lib.hid hok
  have H64 : Hid (((l : Int) != 64) = false) := by show _ = _; rw [h64]; rfl
  have HL64 := Lib.hid h64
  have HB := Lib.hid hb
  have HFU : Hid (((s.r.toNat : Int) == 4294967295) = true) := by show _ = _; rw [← hs0, hf]; rfl
  have HG := Lib.hid hg
  have SC : Hid (∀ y : World, SlAt y t g D p L → y.heap[t]? = w.heap[t]? → SlAt y t g D p L ∧ y.cell? ⟨t, 0, none⟩ = some (.pointer (some ⟨D, 0, none⟩)) ∧ y.cell? ⟨t, 14, none⟩ = some (.slice (some ⟨g, 0, none⟩) L.length cc) ∧ y.cell? ⟨g, i * 2 + 1, none⟩ = some (.int .u32 (s.r.toNat : Int))) := fun y e2 e1 =>
    ⟨e2, (World.cell?_of_block (a := ⟨t, 0, none⟩) e1).trans c0, (World.cell?_of_block (a := ⟨t, 14, none⟩) e1).trans c14, (e2.at_ HG.out).2.1⟩
  have SB : Hid (∀ y : World, Below w.heap.size w y → SlAt y t g D p L ∧ y.heap[t]? = w.heap[t]?) := fun y hy => ⟨HS.out.below hy, hy.block t HS.out.lt.1⟩
  clear h hs h1 h2 he hp hL hz hg hR hs0 hsu hr ho hA hl hok hb hf h64
  clear c0 c14 fr d0 d1 fg
  go_enter Tryz.func12, Tryz.ntmps12
  go_wp2_with fail
  refine (find_yes (HS.out.below (bthen (balloc _ _) (balloc _ _))) HZ.out).mono ?_; rintro e w' ⟨rfl, rfl⟩
  go_upto_region 4 with fail
  have B1 := Lib.hid (bthen (balloc w (.cells #[.pointer (some ⟨t, 0, none⟩)] 48)) (balloc _ (.cells #[.int .i64 (i : Int)] 3)))
  have X5 := Lib.hid (kept_below (heap_alloc_new w (.cells #[.pointer (some ⟨t, 0, none⟩)] 48)) (balloc _ (.cells #[.int .i64 (i : Int)] 3)))
  have X6 := Lib.hid (heap_at_next w (.cells #[.pointer (some ⟨t, 0, none⟩)] 48) (.cells #[.int .i64 (i : Int)] 3))
  generalize (w.alloc (.cells #[.pointer (some ⟨t, 0, none⟩)] 48)).alloc (.cells #[.int .i64 (i : Int)] 3) = w1 at B1 X5 X6 ⊢
  have XC : Hid (∀ y : World, y.heap[w.heap.size]? = some (.cells #[.pointer (some ⟨t, 0, none⟩)] 48 (0, 0)) → y.heap[w.heap.size + 1]? = some (.cells #[.int .i64 (i : Int)] 3 (0, 0)) → y.cell? ⟨w.heap.size, 0, none⟩ = some (.pointer (some ⟨t, 0, none⟩)) ∧ y.cell? ⟨w.heap.size + 1, 0, none⟩ = some (.int .i64 (i : Int))) := fun y e1 e2 => ⟨by rw [cell_of_row _ _ _ _ _ _ e1]; rfl, by rw [cell_of_row _ _ _ _ _ _ e2]; rfl⟩
  have SX : Hid (∀ y : World, Below w1.heap.size w1 y → (SlAt y t g D p L ∧ y.heap[t]? = w.heap[t]?) ∧ y.heap[w.heap.size]? = some (.cells #[.pointer (some ⟨t, 0, none⟩)] 48 (0, 0)) ∧ y.heap[w.heap.size + 1]? = some (.cells #[.int .i64 (i : Int)] 3 (0, 0))) := fun y hy => ⟨SB.out y (bthen B1.out hy), kept_below X5.out hy, kept_below X6.out hy⟩
  have hw := HW.out
  refine gate (fun y => (SlAt y t g D p L ∧ y.heap[t]? = w.heap[t]?) ∧ y.heap[w.heap.size]? = some (.cells #[.pointer (some ⟨t, 0, none⟩)] 48 (0, 0)) ∧ y.heap[w.heap.size + 1]? = some (.cells #[.int .i64 (i : Int)] 3 (0, 0))) 10 [0, 1, 2, 3, 4, 5, 6, 7, 8] 2 (by kernel_rfl) (by kernel_rfl) (by kernel_rfl) rfl ?_ (SX.out _ (bdrew _)) ?_
  · intro d v c a w h
    cases d <;> exact h
  iterate 9
    refine yields_step ?_ rfl rfl ?_ ?_
    rotate_left
    · intro x ⟨⟨z0, z1⟩, z2, z3⟩; obtain ⟨_, y0, y1, y2⟩ := SC.out x z0 z1; obtain ⟨k0, k1⟩ := XC.out x z2 z3; go_simp; rfl
  refine Gate.next (i := 9) (by kernel_rfl) rfl rfl (fun K hK => ?_)
  go_simp
  refine hK _ _ (fun _ => SX.out _ (balloc w1 (.cells #[.int .u32 0] 30)).drew) ?_
  clear hK K
  refine Gate.next (i := 10) (by kernel_rfl) rfl rfl (fun K hK => ?_)
  go_simp
  refine hK _ _ (fun h => absurd rfl h) ?_
  clear hK K hw
  refine Gate.done (by kernel_rfl) ?_
  have X7 : Hid ((w1.alloc (.cells #[.int .u32 (r.toNat : Int)] 30)).drew.heap[w1.heap.size]? = some (.cells #[.int .u32 (r.toNat : Int)] 30 (0, 0))) := heap_alloc_new w1 (.cells #[.int .u32 (r.toNat : Int)] 30)
  have B2 : Hid (Below w1.heap.size w1 (w1.alloc (.cells #[.int .u32 (r.toNat : Int)] 30)).drew) := (balloc w1 (.cells #[.int .u32 (r.toNat : Int)] 30)).drew
  generalize hbN : w1.heap.size = bN at X7 ⊢
  generalize (w1.alloc (.cells #[.int .u32 (r.toNat : Int)] 30)).drew = w2 at X7 B2 ⊢
  have GN : Hid (w.heap.size ≤ bN) := by have := B1.out.size; show _ ≤ _; omega
  have B3 : Hid (Below w.heap.size w w2) := bthen B1.out B2.out
  have X5' := Lib.hid (kept_below X5.out B2.out)
  have X6' := Lib.hid (kept_below X6.out B2.out)
  clear hbN X5 X6 SX B1 B2
  have x7 : w2.cell? ⟨bN, 0, none⟩ = some (.int .u32 (r.toNat : Int)) := by rw [cell_of_row _ _ _ _ _ _ X7.out]; rfl
  go_wp2_with fail
  refine (W.Hd.of_any A l c xs b (gn : Int) (r.toNat : Int) su.toNat w2 HLL.out (HO.out.below B3.out) (HE.out.below B3.out).1.1 HSU.out).mono ?_; rintro e w3 ⟨rfl, b3⟩
  have B4 := Lib.hid (bthen B3.out b3)
  have X8 := Lib.hid (kept_below X5'.out b3)
  have X9 := Lib.hid (kept_below X6'.out b3)
  have X10 := Lib.hid (kept_below X7.out b3)
  clear b3 x7 B3 X5' X6' X7
  go_wp2_with (first
    | ((with_reducible apply L_storeRow (N := 5) info_hd); exact rfl; exact rfl; exact heap_alloc_new _ _; exact rfl; exact rfl; (simp [Value.oneCell']); intro w4 h4 g4; have H4 := Lib.hid h4; have B5 : Hid (Below w3.heap.size w3 w4) := (balloc w3 (.cells #[.bool false, .int .i64 0, .int .u64 0, .int .u32 0, .int .u32 0] 32)).grown g4 (by simp) (fun k e => by injection e with e; omega); clear h4 g4)
    | ((with_reducible apply L_loadHd); exact rfl; exact H4.out; exact rfl))
  refine (hdput_ok ⟨true, b, gn, su, r⟩ _ (may_su.2 HK.out) (HE.out.below (bthen B4.out B5.out)).1).mono ?_; rintro e w5 ⟨v5, rfl, o5, b5⟩
  obtain ⟨k5, c5, rfl, _, _, _⟩ := own_oct o5 (sect_length _)
  have B6 := Lib.hid (bthen (bthen B4.out B5.out) b5)
  have X12 := Lib.hid (kept_below X8.out (bthen B5.out b5))
  have X13 := Lib.hid (kept_below X9.out (bthen B5.out b5))
  have X14 := Lib.hid (kept_below X10.out (bthen B5.out b5))
  have X15 := Lib.hid (kept_below H4.out b5)
  have GH : Hid (w.heap.size ≤ w3.heap.size) := B4.out.size
  clear b5 o5 B4 B5 X8 X9 X10 H4
  have KB : Hid (∀ y, Below w.heap.size w y → Calls Tryz.prog 34 #[.pointer (some ⟨t, 0, none⟩), .int .i64 (i : Int)] y fun e y' => e = .returned (.bool false) ∧ y = y') := fun y hy => (bad_yes (HS.out.below hy) HZ.out).mono fun e y' ⟨e1, e2⟩ => ⟨by rw [e1, HB.out], e2⟩
  obtain ⟨x12, x13⟩ := XC.out _ X12.out X13.out
  have h64 := H64.out
  go_wp2_with fail
  refine (KB.out _ B6.out).mono ?_; rintro e w6 ⟨rfl, rfl⟩
  obtain ⟨_, y0, y1, y2⟩ := SC.out _ (SB.out _ B6.out).1 (SB.out _ B6.out).2
  have hfu := HFU.out
  go_upto_region 11 with fail
  go_quiet (fail)
  go_wp2
  go_ret
  rw [HR.out]
  exact ⟨rfl, fj_same H.out HS.out (by omega) hN (below_drewN B6.out _)⟩
end
end Go.Proofs.YtapklelkcicjlaaGreatDoor.Pd.Sl

/-! Fill. No conditions. -/
namespace Go.Proofs.YtapklelkcicjlaaGreatDoor.Pd.Sl
set_option maxRecDepth 100000
open Go.RowKit Oc Dm W Dw Sr Gt W.Hd
set_option linter.unusedVariables false
set_option maxRecDepth 100000
attribute [local go_sem ↓] Go.wp_at_zero Go.wp_at_succ
section
variable {w w' : World} {F : Nat → Prop} {D q n N t g la ns : Nat} {m : Vs} {p : Pn.Pl} {L : List Slt}
/-- the store's place, where its block stands as it was -/
theorem SlAt.place_of {w y : World} {t g D : Nat} {p : Pn.Pl} {L : List Slt} (h : SlAt w t g D p L) (e : y.heap[t]? = w.heap[t]?) : (Instr.loadAt 84 (.pointer (some ⟨t, 0, none⟩))).run Tryz.prog y = .ok (.agg #[.pointer (some ⟨D, 0, none⟩), .int .i64 p.a0, .int .i64 p.a1, .int .i64 p.a2, .int .i64 p.a3, .int .i64 p.a4, .int .i64 p.a5, .int .i64 p.a6, .int .i64 p.a7, .int .i64 p.a8, .int .i64 p.a9, .int .i64 p.a10, .int .i64 p.a11, .int .i64 p.a12]) y := by
  obtain ⟨c, h1, _⟩ := h.row
  refine run_load_cells (cs := [.pointer (some ⟨D, 0, none⟩), .int .i64 p.a0, .int .i64 p.a1, .int .i64 p.a2, .int .i64 p.a3, .int .i64 p.a4, .int .i64 p.a5, .int .i64 p.a6, .int .i64 p.a7, .int .i64 p.a8, .int .i64 p.a9, .int .i64 p.a10, .int .i64 p.a11, .int .i64 p.a12]) Tryz.underlying84 rfl info_place rfl (fun j v hv => ?_)
  rw [Nat.zero_add, cell_of_row y t _ _ _ _ (e.trans h1)]
  have hj : j < 14 := by
    rcases Nat.lt_or_ge j 14 with h | h
    · exact h
    · rw [List.getElem?_eq_none (by simpa using h)] at hv; cases hv
  match j, hj, hv with
  | 0, _, hv => exact hv
  | 1, _, hv => exact hv
  | 2, _, hv => exact hv
  | 3, _, hv => exact hv
  | 4, _, hv => exact hv
  | 5, _, hv => exact hv
  | 6, _, hv => exact hv
  | 7, _, hv => exact hv
  | 8, _, hv => exact hv
  | 9, _, hv => exact hv
  | 10, _, hv => exact hv
  | 11, _, hv => exact hv
  | 12, _, hv => exact hv
  | 13, _, hv => exact hv
set_option maxHeartbeats 8000000 in
theorem fill_yes (h : PD w F D q n N m) (hs : SlAt w t g D p L) (h1 : ¬ Al F q t) (h2 : ¬ Al F q g) (he : EBl w F q g) (hp : Pln p la ns n) (hL : L.length = ns) (hN : N + 5 ≤ 1000000) (z b : Int) (gn : Nat) (A : Option Addr) (l c : Nat) (xs : List UInt8) (hl : l ≤ 1000000) (ho : Oct w A l xs) (hA : ∀ b off, 0 < l → A = some ⟨b, off, none⟩ → Out F q g b) (R : Int × List Slt × Vs) (hR : fill la z b gn xs L m = R) (hz : hasZ L z) (hok : okB b gn) (h64 : l = 64) (hb : isBad (at0 L z) = false) (hf : ¬ (at0 L z).r.toNat = 4294967295) :
    Calls Tryz.prog 12 #[.pointer (some ⟨t, 0, none⟩), .int .i64 z, .int .i64 b, .int .u64 (gn : Int), .slice A l c] w fun e w' => e = .returned (.int .i64 R.1) ∧ PD w' (Ext F w w') D q n (N + 5) R.2.2 ∧ SlAt w' t g D p R.2.1 ∧ Chg (fun b => Al F q b ∨ b = g) w w' := by
  have H := Lib.hid h
  have HS := Lib.hid hs
  have H1 := Lib.hid h1
  have H2 := Lib.hid h2
  have HE := Lib.hid he
  have HP := Lib.hid hp
  have HL := Lib.hid hL
  have HZ := Lib.hid hz
  have HO := Lib.hid ho
  have HAA := Lib.hid hA
  have HLL := Lib.hid hl
  obtain ⟨c0, ⟨cc, c14, hc1, hc2⟩, fr⟩ := hs.cells
  obtain ⟨i, rfl, hi, hg⟩ := has_get hz
  obtain ⟨d0, d1, fg⟩ := hs.at_ hg
  obtain ⟨s, hs0⟩ : ∃ s, at0 L (i : Int) = s := ⟨_, rfl⟩
  rw [hs0] at hg d0 d1
  have hii : (i : Int) < (L.length : Int) := by omega
  have HI : Hid (i < ns) := by show _ < _; omega
  obtain ⟨su, hsu⟩ : ∃ su : UInt32, sum xs = su.toNat := ⟨UInt32.ofNat (sum xs), by
    have := sum_lt xs
    rw [UInt32.toNat_ofNat_of_lt' (by show _ < 4294967296; exact this)]⟩
  have HSU := Lib.hid hsu
  obtain ⟨r, hr⟩ : ∃ r, s.r + 1 = r := ⟨_, rfl⟩
  have HRR := Lib.hid hr
  have HW : Hid (IntKind.u32.wrap ((s.r.toNat : Int) + 1) = (r.toNat : Int)) := by rw [← hr]; exact u32_succ s.r
  obtain ⟨X, hX⟩ : ∃ X, fillS la i b gn xs s.r m = X := ⟨_, rfl⟩
  have HX := Lib.hid hX
  have HR : Hid (R = (X.1, L.set i ⟨s.f, X.2.1⟩, X.2.2)) := by show _ = _; rw [← hR, ← hX, ← hs0]; unfold fill; rw [if_neg (fun x => x hz), if_neg (fun x => x ⟨ho.1.trans h64, hok⟩), if_neg (by rw [hb]; decide), if_neg hf]; rfl
  have HK := Lib.hid hok
  have H64 : Hid (((l : Int) != 64) = false) := by show _ = _; rw [h64]; rfl
  have HL64 := Lib.hid h64
  have HB := Lib.hid hb
  have HFU : Hid (((s.r.toNat : Int) == 4294967295) = false) := by show _ = _; rw [← hs0]; simp; omega
  have HG := Lib.hid hg
  have SC : Hid (∀ y : World, SlAt y t g D p L → y.heap[t]? = w.heap[t]? → SlAt y t g D p L ∧ y.cell? ⟨t, 0, none⟩ = some (.pointer (some ⟨D, 0, none⟩)) ∧ y.cell? ⟨t, 14, none⟩ = some (.slice (some ⟨g, 0, none⟩) L.length cc) ∧ y.cell? ⟨g, i * 2 + 1, none⟩ = some (.int .u32 (s.r.toNat : Int))) := fun y e2 e1 =>
    ⟨e2, (World.cell?_of_block (a := ⟨t, 0, none⟩) e1).trans c0, (World.cell?_of_block (a := ⟨t, 14, none⟩) e1).trans c14, (e2.at_ HG.out).2.1⟩
  have SB : Hid (∀ y : World, Below w.heap.size w y → SlAt y t g D p L ∧ y.heap[t]? = w.heap[t]?) := fun y hy => ⟨HS.out.below hy, hy.block t HS.out.lt.1⟩
  clear h hs h1 h2 he hp hL hz hg hR hs0 hsu hr ho hA hl hok hb hf hX h64
  clear c0 c14 fr d0 d1 fg
  go_enter Tryz.func12, Tryz.ntmps12
  go_wp2_with fail
  refine (find_yes (HS.out.below (bthen (balloc _ _) (balloc _ _))) HZ.out).mono ?_; rintro e w' ⟨rfl, rfl⟩
  go_upto_region 4 with fail
  have B1 := Lib.hid (bthen (balloc w (.cells #[.pointer (some ⟨t, 0, none⟩)] 48)) (balloc _ (.cells #[.int .i64 (i : Int)] 3)))
  have X5 := Lib.hid (kept_below (heap_alloc_new w (.cells #[.pointer (some ⟨t, 0, none⟩)] 48)) (balloc _ (.cells #[.int .i64 (i : Int)] 3)))
  have X6 := Lib.hid (heap_at_next w (.cells #[.pointer (some ⟨t, 0, none⟩)] 48) (.cells #[.int .i64 (i : Int)] 3))
  generalize (w.alloc (.cells #[.pointer (some ⟨t, 0, none⟩)] 48)).alloc (.cells #[.int .i64 (i : Int)] 3) = w1 at B1 X5 X6 ⊢
  have XC : Hid (∀ y : World, y.heap[w.heap.size]? = some (.cells #[.pointer (some ⟨t, 0, none⟩)] 48 (0, 0)) → y.heap[w.heap.size + 1]? = some (.cells #[.int .i64 (i : Int)] 3 (0, 0)) → y.cell? ⟨w.heap.size, 0, none⟩ = some (.pointer (some ⟨t, 0, none⟩)) ∧ y.cell? ⟨w.heap.size + 1, 0, none⟩ = some (.int .i64 (i : Int))) := fun y e1 e2 => ⟨by rw [cell_of_row _ _ _ _ _ _ e1]; rfl, by rw [cell_of_row _ _ _ _ _ _ e2]; rfl⟩
  have SX : Hid (∀ y : World, Below w1.heap.size w1 y → (SlAt y t g D p L ∧ y.heap[t]? = w.heap[t]?) ∧ y.heap[w.heap.size]? = some (.cells #[.pointer (some ⟨t, 0, none⟩)] 48 (0, 0)) ∧ y.heap[w.heap.size + 1]? = some (.cells #[.int .i64 (i : Int)] 3 (0, 0))) := fun y hy => ⟨SB.out y (bthen B1.out hy), kept_below X5.out hy, kept_below X6.out hy⟩
  have hw := HW.out
  refine gate (fun y => (SlAt y t g D p L ∧ y.heap[t]? = w.heap[t]?) ∧ y.heap[w.heap.size]? = some (.cells #[.pointer (some ⟨t, 0, none⟩)] 48 (0, 0)) ∧ y.heap[w.heap.size + 1]? = some (.cells #[.int .i64 (i : Int)] 3 (0, 0))) 10 [0, 1, 2, 3, 4, 5, 6, 7, 8] 2 (by kernel_rfl) (by kernel_rfl) (by kernel_rfl) rfl ?_ (SX.out _ (bdrew _)) ?_
  · intro d v c a w h
    cases d <;> exact h
  iterate 9
    refine yields_step ?_ rfl rfl ?_ ?_
    rotate_left
    · intro x ⟨⟨z0, z1⟩, z2, z3⟩; obtain ⟨_, y0, y1, y2⟩ := SC.out x z0 z1; obtain ⟨k0, k1⟩ := XC.out x z2 z3; go_simp; rfl
  refine Gate.next (i := 9) (by kernel_rfl) rfl rfl (fun K hK => ?_)
  go_simp
  refine hK _ _ (fun _ => SX.out _ (balloc w1 (.cells #[.int .u32 0] 30)).drew) ?_
  clear hK K
  refine Gate.next (i := 10) (by kernel_rfl) rfl rfl (fun K hK => ?_)
  go_simp
  refine hK _ _ (fun h => absurd rfl h) ?_
  clear hK K hw
  refine Gate.done (by kernel_rfl) ?_
  have X7 : Hid ((w1.alloc (.cells #[.int .u32 (r.toNat : Int)] 30)).drew.heap[w1.heap.size]? = some (.cells #[.int .u32 (r.toNat : Int)] 30 (0, 0))) := heap_alloc_new w1 (.cells #[.int .u32 (r.toNat : Int)] 30)
  have B2 : Hid (Below w1.heap.size w1 (w1.alloc (.cells #[.int .u32 (r.toNat : Int)] 30)).drew) := (balloc w1 (.cells #[.int .u32 (r.toNat : Int)] 30)).drew
  generalize hbN : w1.heap.size = bN at X7 ⊢
  generalize (w1.alloc (.cells #[.int .u32 (r.toNat : Int)] 30)).drew = w2 at X7 B2 ⊢
  have GN : Hid (w.heap.size ≤ bN) := by have := B1.out.size; show _ ≤ _; omega
  have B3 : Hid (Below w.heap.size w w2) := bthen B1.out B2.out
  have X5' := Lib.hid (kept_below X5.out B2.out)
  have X6' := Lib.hid (kept_below X6.out B2.out)
  clear hbN X5 X6 SX B1 B2
  have x7 : w2.cell? ⟨bN, 0, none⟩ = some (.int .u32 (r.toNat : Int)) := by rw [cell_of_row _ _ _ _ _ _ X7.out]; rfl
  go_wp2_with fail
  refine (W.Hd.of_any A l c xs b (gn : Int) (r.toNat : Int) su.toNat w2 HLL.out (HO.out.below B3.out) (HE.out.below B3.out).1.1 HSU.out).mono ?_; rintro e w3 ⟨rfl, b3⟩
  have B4 := Lib.hid (bthen B3.out b3)
  have X8 := Lib.hid (kept_below X5'.out b3)
  have X9 := Lib.hid (kept_below X6'.out b3)
  have X10 := Lib.hid (kept_below X7.out b3)
  clear b3 x7 B3 X5' X6' X7
  go_wp2_with (first
    | ((with_reducible apply L_storeRow (N := 5) info_hd); exact rfl; exact rfl; exact heap_alloc_new _ _; exact rfl; exact rfl; (simp [Value.oneCell']); intro w4 h4 g4; have H4 := Lib.hid h4; have B5 : Hid (Below w3.heap.size w3 w4) := (balloc w3 (.cells #[.bool false, .int .i64 0, .int .u64 0, .int .u32 0, .int .u32 0] 32)).grown g4 (by simp) (fun k e => by injection e with e; omega); clear h4 g4)
    | ((with_reducible apply L_loadHd); exact rfl; exact H4.out; exact rfl))
  refine (hdput_ok ⟨true, b, gn, su, r⟩ _ (may_su.2 HK.out) (HE.out.below (bthen B4.out B5.out)).1).mono ?_; rintro e w5 ⟨v5, rfl, o5, b5⟩
  obtain ⟨k5, c5, rfl, _, _, _⟩ := own_oct o5 (sect_length _)
  have B6 := Lib.hid (bthen (bthen B4.out B5.out) b5)
  have X12 := Lib.hid (kept_below X8.out (bthen B5.out b5))
  have X13 := Lib.hid (kept_below X9.out (bthen B5.out b5))
  have X14 := Lib.hid (kept_below X10.out (bthen B5.out b5))
  have X15 := Lib.hid (kept_below H4.out b5)
  have GH : Hid (w.heap.size ≤ w3.heap.size) := B4.out.size
  clear b5 o5 B4 B5 X8 X9 X10 H4
  have KB : Hid (∀ y, Below w.heap.size w y → Calls Tryz.prog 34 #[.pointer (some ⟨t, 0, none⟩), .int .i64 (i : Int)] y fun e y' => e = .returned (.bool false) ∧ y = y') := fun y hy => (bad_yes (HS.out.below hy) HZ.out).mono fun e y' ⟨e1, e2⟩ => ⟨by rw [e1, HB.out], e2⟩
  obtain ⟨x12, x13⟩ := XC.out _ X12.out X13.out
  have h64 := H64.out
  go_wp2_with fail
  refine (KB.out _ B6.out).mono ?_; rintro e w6 ⟨rfl, rfl⟩
  obtain ⟨_, y0, y1, y2⟩ := SC.out _ (SB.out _ B6.out).1 (SB.out _ B6.out).2
  have hfu := HFU.out
  go_upto_region 11 with fail
  go_quiet (fail)
  clear x12 x13 y0 y1 y2 hfu h64
  have TC : Hid (∀ y : World, y.heap[t]? = w.heap[t]? → y.cell? ⟨t, 0, none⟩ = some (.pointer (some ⟨D, 0, none⟩))) := fun y e => (World.cell?_of_block (a := ⟨t, 0, none⟩) e).trans HS.out.cells.1
  go_upto_region 14 with fail
  have B7 : Hid (Below w.heap.size w (w5.drewN nq)) := below_drewN B6.out _
  have Z5 : Hid ((w5.drewN nq).heap[w.heap.size]? = _) := X12.out
  have Z6 : Hid ((w5.drewN nq).heap[w.heap.size + 1]? = _) := X13.out
  have ZN : Hid ((w5.drewN nq).heap[bN]? = _) := X14.out
  have ZH : Hid ((w5.drewN nq).heap[w3.heap.size]? = _) := X15.out
  clear B6 X12 X13 X14 X15 KB
  generalize w5.drewN nq = w6 at B7 Z5 Z6 ZN ZH ⊢
  generalize w3.heap.size = bH at ZH GH ⊢
  have SY : Hid (∀ y : World, Below w6.heap.size w6 y → y.heap[t]? = w.heap[t]? ∧ y.heap[w.heap.size]? = some (.cells #[.pointer (some ⟨t, 0, none⟩)] 48 (0, 0)) ∧ y.heap[w.heap.size + 1]? = some (.cells #[.int .i64 (i : Int)] 3 (0, 0)) ∧ y.heap[bN]? = some (.cells #[.int .u32 (r.toNat : Int)] 30 (0, 0)) ∧ y.heap[bH]? = some (.cells #[.bool true, .int .i64 b, .int .u64 (gn : Int), .int .u32 (su.toNat : Int), .int .u32 (r.toNat : Int)] 32 (0, 0))) := fun y hy => ⟨(SB.out y (bthen B7.out hy)).2, kept_below Z5.out hy, kept_below Z6.out hy, kept_below ZN.out hy, kept_below ZH.out hy⟩
  refine gate (fun y => y.heap[t]? = w.heap[t]? ∧ y.heap[w.heap.size]? = some (.cells #[.pointer (some ⟨t, 0, none⟩)] 48 (0, 0)) ∧ y.heap[w.heap.size + 1]? = some (.cells #[.int .i64 (i : Int)] 3 (0, 0)) ∧ y.heap[bN]? = some (.cells #[.int .u32 (r.toNat : Int)] 30 (0, 0)) ∧ y.heap[bH]? = some (.cells #[.bool true, .int .i64 b, .int .u64 (gn : Int), .int .u32 (su.toNat : Int), .int .u32 (r.toNat : Int)] 32 (0, 0))) 37 [0, 1, 2, 3, 4, 5, 8, 9, 10, 11, 12, 13, 14, 15, 16, 17, 18, 19, 20, 22, 23, 24, 25, 26, 27, 28, 29, 30, 31, 32, 33] 7 (by kernel_rfl) (by kernel_rfl) (by kernel_rfl) rfl ?_ (SY.out _ (bdrew _)) ?_
  · intro d v c a w h
    cases d <;> exact h
  iterate 3
    refine yields_step ?_ rfl rfl ?_ ?_
    rotate_left
    · intro x ⟨z1, z2, z3, z4, z5⟩; have y0 := TC.out x z1; obtain ⟨k0, k1⟩ := XC.out x z2 z3; have k2 : x.cell? ⟨bN, 0, none⟩ = some (.int .u32 (r.toNat : Int)) := by { rw [cell_of_row _ _ _ _ _ _ z4]; rfl }; go_simp; rfl
  refine yields_step (.agg #[.pointer (some ⟨D, 0, none⟩), .int .i64 p.a0, .int .i64 p.a1, .int .i64 p.a2, .int .i64 p.a3, .int .i64 p.a4, .int .i64 p.a5, .int .i64 p.a6, .int .i64 p.a7, .int .i64 p.a8, .int .i64 p.a9, .int .i64 p.a10, .int .i64 p.a11, .int .i64 p.a12]) rfl rfl ?_ ?_
  · intro x ⟨z1, z2, z3, z4, z5⟩; exact exec_ld rfl (by go_simp) (HS.out.place_of z1)
  iterate 2
    refine yields_step ?_ rfl rfl ?_ ?_
    rotate_left
    · intro x ⟨z1, z2, z3, z4, z5⟩; have y0 := TC.out x z1; obtain ⟨k0, k1⟩ := XC.out x z2 z3; have k2 : x.cell? ⟨bN, 0, none⟩ = some (.int .u32 (r.toNat : Int)) := by { rw [cell_of_row _ _ _ _ _ _ z4]; rfl }; go_simp; rfl
  iterate 7
    refine yields_step ?_ rfl rfl ?_ ?_
    rotate_left
    · intro x ⟨z1, z2, z3, z4, z5⟩; have y0 := TC.out x z1; obtain ⟨k0, k1⟩ := XC.out x z2 z3; have k2 : x.cell? ⟨bN, 0, none⟩ = some (.int .u32 (r.toNat : Int)) := by { rw [cell_of_row _ _ _ _ _ _ z4]; rfl }; go_simp; rfl
  iterate 3
    refine yields_step ?_ rfl rfl ?_ ?_
    rotate_left
    · intro x ⟨z1, z2, z3, z4, z5⟩; have y0 := TC.out x z1; obtain ⟨k0, k1⟩ := XC.out x z2 z3; have k2 : x.cell? ⟨bN, 0, none⟩ = some (.int .u32 (r.toNat : Int)) := by { rw [cell_of_row _ _ _ _ _ _ z4]; rfl }; go_simp; rfl
  refine yields_step (.agg #[.pointer (some ⟨D, 0, none⟩), .int .i64 p.a0, .int .i64 p.a1, .int .i64 p.a2, .int .i64 p.a3, .int .i64 p.a4, .int .i64 p.a5, .int .i64 p.a6, .int .i64 p.a7, .int .i64 p.a8, .int .i64 p.a9, .int .i64 p.a10, .int .i64 p.a11, .int .i64 p.a12]) rfl rfl ?_ ?_
  · intro x ⟨z1, z2, z3, z4, z5⟩; exact exec_ld rfl (by go_simp) (HS.out.place_of z1)
  iterate 2
    refine yields_step ?_ rfl rfl ?_ ?_
    rotate_left
    · intro x ⟨z1, z2, z3, z4, z5⟩; have y0 := TC.out x z1; obtain ⟨k0, k1⟩ := XC.out x z2 z3; have k2 : x.cell? ⟨bN, 0, none⟩ = some (.int .u32 (r.toNat : Int)) := by { rw [cell_of_row _ _ _ _ _ _ z4]; rfl }; go_simp; rfl
  iterate 6
    refine yields_step ?_ rfl rfl ?_ ?_
    rotate_left
    · intro x ⟨z1, z2, z3, z4, z5⟩; have y0 := TC.out x z1; obtain ⟨k0, k1⟩ := XC.out x z2 z3; have k2 : x.cell? ⟨bN, 0, none⟩ = some (.int .u32 (r.toNat : Int)) := by { rw [cell_of_row _ _ _ _ _ _ z4]; rfl }; go_simp; rfl
  iterate 3
    refine yields_step ?_ rfl rfl ?_ ?_
    rotate_left
    · intro x ⟨z1, z2, z3, z4, z5⟩; have y0 := TC.out x z1; obtain ⟨k0, k1⟩ := XC.out x z2 z3; have k2 : x.cell? ⟨bN, 0, none⟩ = some (.int .u32 (r.toNat : Int)) := by { rw [cell_of_row _ _ _ _ _ _ z4]; rfl }; go_simp; rfl
  refine yields_step (.agg #[.pointer (some ⟨D, 0, none⟩), .int .i64 p.a0, .int .i64 p.a1, .int .i64 p.a2, .int .i64 p.a3, .int .i64 p.a4, .int .i64 p.a5, .int .i64 p.a6, .int .i64 p.a7, .int .i64 p.a8, .int .i64 p.a9, .int .i64 p.a10, .int .i64 p.a11, .int .i64 p.a12]) rfl rfl ?_ ?_
  · intro x ⟨z1, z2, z3, z4, z5⟩; exact exec_ld rfl (by go_simp) (HS.out.place_of z1)
  iterate 1
    refine yields_step ?_ rfl rfl ?_ ?_
    rotate_left
    · intro x ⟨z1, z2, z3, z4, z5⟩; have y0 := TC.out x z1; obtain ⟨k0, k1⟩ := XC.out x z2 z3; have k2 : x.cell? ⟨bN, 0, none⟩ = some (.int .u32 (r.toNat : Int)) := by { rw [cell_of_row _ _ _ _ _ _ z4]; rfl }; go_simp; rfl
  refine yields_step (.agg #[.bool true, .int .i64 b, .int .u64 (gn : Int), .int .u32 (su.toNat : Int), .int .u32 (r.toNat : Int)]) rfl rfl ?_ ?_
  · intro x ⟨z1, z2, z3, z4, z5⟩; exact exec_ld rfl (by go_simp) (run_load5 rfl z5)
  refine Gate.next (i := 6) (by kernel_rfl) rfl rfl (fun K hK => ?_)
  go_simp
  refine (W.Hd.free_any _ _).mono ?_; rintro e w7 ⟨rfl, b7⟩
  have C7 : Hid (Below w6.heap.size w6 w7) := below_of_drew b7
  refine hK _ _ (fun _ => SY.out _ C7.out) ?_
  clear hK K b7
  refine Gate.next (i := 7) (by kernel_rfl) rfl rfl (fun K hK => ?_)
  go_simp
  refine (layHead_any D p i (hd0 r) _).mono ?_; rintro e w8 ⟨bh, bp, bs, rfl, g1, g2, g3, x1, x2, x3, b8⟩
  have S7 : w.heap.size ≤ w7.heap.size := Nat.le_trans B7.out.size C7.out.size
  have C8 : Hid (Below w6.heap.size w6 w8) := bthen C7.out b8
  have XA1 := Lib.hid x1
  have XA2 := Lib.hid x2
  have XA3 := Lib.hid x3
  have GA : Hid (w.heap.size ≤ bh ∧ w.heap.size ≤ bp ∧ w.heap.size ≤ bs) := ⟨by omega, by omega, by omega⟩
  refine hK _ _ (fun _ => SY.out _ C8.out) ?_
  clear hK K b8 x1 x2 x3 g1 g2 g3 S7 C7
  refine Gate.next (i := 21) (by kernel_rfl) rfl rfl (fun K hK => ?_)
  go_simp
  refine (layData_any D p i A l c _).mono ?_; rintro e w9 ⟨dp, ds, dd, rfl, g1, g2, g3, x1, x2, x3, b9⟩
  have S8 : w.heap.size ≤ w8.heap.size := Nat.le_trans B7.out.size C8.out.size
  have C9 : Hid (Below w6.heap.size w6 w9) := bthen C8.out b9
  have C89 := Lib.hid b9
  have XB1 := Lib.hid x1
  have XB2 := Lib.hid x2
  have XB3 := Lib.hid x3
  have GB : Hid (w.heap.size ≤ dp ∧ w.heap.size ≤ ds ∧ w.heap.size ≤ dd) := ⟨by omega, by omega, by omega⟩
  refine hK _ _ (fun _ => SY.out _ C9.out) ?_
  clear hK K b9 x1 x2 x3 g1 g2 g3 S8 C8
  refine Gate.next (i := 34) (by kernel_rfl) rfl rfl (fun K hK => ?_)
  go_simp
  refine (layHead_any D p i ⟨true, b, gn, su, r⟩ _).mono ?_; rintro e w10 ⟨eh, ep, es, rfl, g1, g2, g3, x1, x2, x3, b10⟩
  have S9 : w.heap.size ≤ w9.heap.size := Nat.le_trans B7.out.size C9.out.size
  have C10 : Hid (Below w6.heap.size w6 w10) := bthen C9.out b10
  have C910 := Lib.hid b10
  have XE1 := Lib.hid x1
  have XE2 := Lib.hid x2
  have XE3 := Lib.hid x3
  have GE : Hid (w.heap.size ≤ eh ∧ w.heap.size ≤ ep ∧ w.heap.size ≤ es) := ⟨by omega, by omega, by omega⟩
  refine hK _ _ (fun _ => SY.out _ C10.out) ?_
  clear hK K b10 x1 x2 x3 g1 g2 g3 S9 C9
  refine Gate.next (i := 35) (by kernel_rfl) rfl rfl (fun K hK => ?_)
  go_simp
  refine hK _ _ (fun _ => SY.out _ (bthen C10.out (balloc _ _))) ?_
  clear hK K
  refine Gate.next (i := 36) (by kernel_rfl) rfl rfl (fun K hK => ?_)
  go_simp
  have BW : Hid (Below w.heap.size w w10) := bthen B7.out C10.out
  obtain ⟨_, q2, q3, q4, q5⟩ := SY.out _ C10.out
  have hl64 := HL64.out
  refine (fill_go (w := w) (w3 := w10) (hx := hd0 r) (hy := ⟨true, b, gn, su, r⟩) (H.out.below BW.out) (HS.out.below BW.out) H1.out H2.out (HE.out.below BW.out) HP.out HI.out hN HG.out HRR.out.symm HK.out rfl (kept_below (kept_below XA1.out C89.out) C910.out) (kept_below (kept_below XA2.out C89.out) C910.out) (kept_below (kept_below XA3.out C89.out) C910.out) GA.out
    q4 q2 q3 ⟨GN.out, Nat.le_refl _, Nat.le_succ _⟩ (kept_below XB1.out C910.out) (kept_below XB2.out C910.out) (by rw [← hl64]; exact kept_below XB3.out C910.out) (by rw [← hl64]; exact HO.out.below BW.out) GB.out (fun b off e => HAA.out b off (by omega) e) (by rw [hd1, HSU.out, UInt32.ofNat_toNat]) XE1.out XE2.out XE3.out GE.out BW.out.size (fun k hk => out_new H.out HS.out hk) HX.out).mono ?_; rintro e w11 ⟨v, rfl, hv, p5, s5, c5⟩
  have P5 := Lib.hid p5
  have S5 := Lib.hid s5
  have C5 := Lib.hid c5
  have V5 := Lib.hid hv
  clear p5 s5 c5 hv hl64
  have keep : ∀ b o, w10.heap[b]? = some o → w.heap.size ≤ b → w11.heap[b]? = some o := fun b o e hb => (C5.out.block b (lt_of_heap e) (fun x => x.elim (fun y => (out_new H.out HS.out hb).1 y) (fun y => (out_new H.out HS.out hb).2 y))).trans e
  refine hK _ _ (fun _ => ⟨(C5.out.block t (Nat.lt_of_lt_of_le HS.out.lt.1 BW.out.size) (fun x => x.elim H1.out (fun e => HS.out.ne e.symm))).trans (SB.out _ BW.out).2, keep _ _ q2 (Nat.le_refl _), keep _ _ q3 (Nat.le_succ _), keep _ _ q4 GN.out, keep _ _ q5 GH.out⟩) ?_
  clear hK K keep q2 q3 q4 q5
  refine Gate.next (i := 37) (by kernel_rfl) rfl rfl (fun K hK => ?_)
  go_simp
  refine hK _ _ (fun h => absurd rfl h) ?_
  clear hK K
  refine Gate.done (by kernel_rfl) ?_
  go_wp2
  go_ret
  have VV := V5.out
  subst VV
  rw [HR.out]
  exact ⟨rfl, H.out.from_ BW.out.size C5.out.size P5.out, S5.out, (Chg.of_below (F := fun b => Al F q b ∨ b = g) BW.out).trans C5.out (fun _ _ x => x)⟩
/-- FILL, of anything -/
theorem fill_any (h : PD w F D q n N m) (hs : SlAt w t g D p L) (h1 : ¬ Al F q t) (h2 : ¬ Al F q g) (he : EBl w F q g) (hp : Pln p la ns n) (hL : L.length = ns) (hN : N + 5 ≤ 1000000) (z b : Int) (gn : Nat) (A : Option Addr) (l c : Nat) (xs : List UInt8) (hl : l ≤ 1000000) (ho : Oct w A l xs) (hA : ∀ b off, 0 < l → A = some ⟨b, off, none⟩ → Out F q g b) (R : Int × List Slt × Vs) (hR : fill la z b gn xs L m = R) :
    Calls Tryz.prog 12 #[.pointer (some ⟨t, 0, none⟩), .int .i64 z, .int .i64 b, .int .u64 (gn : Int), .slice A l c] w fun e w' => e = .returned (.int .i64 R.1) ∧ PD w' (Ext F w w') D q n (N + 5) R.2.2 ∧ SlAt w' t g D p R.2.1 ∧ Chg (fun b => Al F q b ∨ b = g) w w' := by
  by_cases hz : hasZ L z
  · by_cases hok : okB b gn
    · by_cases h64 : l = 64
      · cases hb : isBad (at0 L z)
        · by_cases hf : (at0 L z).r.toNat = 4294967295
          · exact fill_full h hs h1 h2 he hp hL hN z b gn A l c xs hl ho hA R hR hz hok h64 hb hf
          · exact fill_yes h hs h1 h2 he hp hL hN z b gn A l c xs hl ho hA R hR hz hok h64 hb hf
        · exact fill_bad h hs h1 h2 he hp hL hN z b gn A l c xs hl ho hA R hR hz hok h64 hb
      · exact fill_len h hs h1 h2 he hp hL hN z b gn A l c xs hl ho hA R hR hz hok h64
    · exact fill_arg h hs h1 h2 he hp hL hN z b gn A l c xs hl ho hA R hR hz hok
  · exact fill_no h hs h1 h2 he hp hL hN z b gn A l c xs hl ho hA R hR hz
end
end Go.Proofs.YtapklelkcicjlaaGreatDoor.Pd.Sl
