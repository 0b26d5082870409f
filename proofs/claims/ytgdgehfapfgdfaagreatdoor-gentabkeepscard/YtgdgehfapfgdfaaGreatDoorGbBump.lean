/-
  Bump. No conditions.
-/
import Derived.Test.YtgdgehfapfgdfaaGreatDoorGbSort
import Derived.Deep.RegionHeld
import Derived.Deep.DrawnRows
namespace Go.Proofs.YtgdgehfapfgdfaaGreatDoor.Tb
open Go.RowKit Oc Dm W Dw Sr
set_option linter.unusedVariables false
set_option maxRecDepth 100000
attribute [local go_sem ↓] Go.wp_at_zero Go.wp_at_succ

theorem bump_nil (w : World) (u : Value) : Calls Tryz.prog 12 #[.pointer none, u] w fun e w' => e = .returned (.int .i64 2) ∧ Below w.heap.size w w' := by
  go_enter Tryz.func12, Tryz.ntmps12
  go_wp2_with fail
  refine (tmade_nil _).mono ?_; rintro e w' ⟨rfl, rfl⟩
  go_wp2
  go_ret
  exact ⟨rfl, balloc _ _⟩
theorem bump_odd (w : World) (T : Nat) (c0 : w.cell? ⟨T, 0, none⟩ = some (.pointer none)) (u : Value) : Calls Tryz.prog 12 #[.pointer (some ⟨T, 0, none⟩), u] w fun e w' => e = .returned (.int .i64 2) ∧ Below w.heap.size w w' := by
  have C0 : Hid (∀ w', Below w.heap.size w w' → w'.cell? ⟨T, 0, none⟩ = some (.pointer none)) := fun w' hb => (hb.cell (p := ⟨T, 0, none⟩) (World.block_lt_of_cell? w ⟨T, 0, none⟩ c0)).trans c0
  clear c0
  go_enter Tryz.func12, Tryz.ntmps12
  go_wp2_with fail
  refine (tmade_odd _ _ (C0.out _ (balloc _ _))).mono ?_; rintro e w' ⟨rfl, rfl⟩
  go_wp2
  go_ret
  exact ⟨rfl, balloc _ _⟩
theorem fullB_iff (L : List Gp) (x : Int) : fullB L x.toNat = true ↔ isFull L x := by
  unfold fullB isFull
  simp
theorem anyFull_iff (L : List Gp) (ls : List Int) : anyFull L ls = true ↔ ∃ x ∈ ls, isFull L x := by
  unfold anyFull
  rw [List.any_eq_true]
  constructor
  · rintro ⟨x, hx, h⟩; exact ⟨x, hx, (fullB_iff L x).1 h⟩
  · rintro ⟨x, hx, h⟩; exact ⟨x, hx, (fullB_iff L x).2 h⟩
theorem may3 {L : List Gp} {ne : Nat} {ls : List Int} (h : ¬ inR ls ne) : mayE L ne ls = 3 := by
  unfold mayE
  rw [if_pos]
  rw [List.any_eq_true]
  refine Classical.byContradiction fun hn => h fun x hx => Classical.byContradiction fun hb => hn ⟨x, hx, ?_⟩
  simp; omega
theorem may_in {L : List Gp} {ne : Nat} {ls : List Int} (h : inR ls ne) : mayE L ne ls = if anyFull L ls = true then 5 else 0 := by
  unfold mayE
  rw [if_neg]
  rw [Bool.not_eq_true, List.any_eq_false]
  intro x hx
  have := h x hx
  simp; omega
/-- pages that are bumped may be -/
theorem upp_may {L : List Gp} {np ne : Nat} {ls : List Int} (hl : Pages L np) (hr : inR ls ne) (hf : ¬ ∃ x ∈ ls, isFull L x) {j : Nat} (hj : j ∈ hits ls np) : MayBe (upp ls j (L.getD j zp)) := by
  obtain ⟨h1, h2⟩ := mem_hits.1 hj
  have h3 : j < L.length := by have := hl.1; omega
  have h4 : L[j]? = some L[j] := List.getElem?_eq_getElem h3
  have h7 : L.getD j zp = L[j] := by simp [List.getD, h3]
  obtain ⟨hm, hno⟩ := hl.2 j _ h4
  rw [h7]
  have key : ∀ k, k < 6 → ((6 * j + k : Nat) : Int) ∈ ls → L[j].v < 4611686018427387904 ∧ L[j].g k < 4611686018427387904 := fun k hk hx => by
    have hn : ¬ isFull L ((6 * j + k : Nat) : Int) := fun h => hf ⟨_, hx, h⟩
    unfold isFull at hn
    have e1 : ((6 * j + k : Nat) : Int).toNat / 6 = j := by omega
    have e2 : ((6 * j + k : Nat) : Int).toNat % 6 = k := by omega
    rw [e1, e2, h7] at hn
    omega
  obtain ⟨k0, hk0, hx0⟩ := hit_iff.1 h2
  refine ⟨hm.1, ⟨by show 1 ≤ L[j].v + 1; omega, by show L[j].v + 1 ≤ _; have := (key k0 hk0 hx0).1; omega⟩, fun k hk => ?_⟩
  show isG (L[j].g k + add1 ls (6 * j + k))
  have h5 := hm.2.2 k hk
  unfold add1
  by_cases h6 : named ls (6 * j + k) = true
  · rw [if_pos h6]
    have := (key k hk (named_iff.1 h6)).2
    exact ⟨by omega, by omega⟩
  · rw [if_neg h6]; exact h5
theorem nexts_pages {L : List Gp} {np ne : Nat} {ls : List Int} (hl : Pages L np) (hr : inR ls ne) (hf : ¬ ∃ x ∈ ls, isFull L x) : Pages (nexts ls L) np := by
  refine ⟨by rw [nexts_length]; exact hl.1, fun i p hp => ?_⟩
  rw [nexts_at] at hp
  cases hi : L[i]? with
  | none => rw [hi] at hp; cases hp
  | some x =>
    rw [hi, Option.map_some] at hp
    injection hp with hp
    subst hp
    obtain ⟨h1, h2⟩ := hl.2 i x hi
    by_cases h : hit ls i = true
    · rw [if_pos h]
      have hil := (List.getElem?_eq_some_iff.1 hi).1
      have := upp_may hl hr hf (mem_hits.2 ⟨by have := hl.1; omega, h⟩)
      have e : L.getD i zp = x := by rw [List.getD_eq_getElem?_getD, hi]; rfl
      rw [e] at this
      exact ⟨this, h2⟩
    · rw [if_neg h]; exact ⟨h1, h2⟩
theorem bmp_pages {ga ne np : Nat} {ls : List Int} {m : Vs} {L : List Gp} (hl : Pages L np) : Pages (bmp ga ne ls m L).2.1 np := by
  unfold bmp
  split
  · exact hl
  · rename_i h1
    split
    · exact hl
    · rename_i h2
      split
      · exact hl
      · dsimp only
        split
        · exact nexts_pages hl (Classical.not_not.1 h1) h2
        · exact hl
section
variable {w w' : World} {H F : Nat → Prop} {T D q g cap ne np ga n k c N : Nat} {m : Vs} {p : Pn.Pl} {L : List Gp} {ls : List Int} {A : Option Addr}
set_option maxHeartbeats 4000000 in
theorem bump_any (h : PD w F D q n N m) (he : Env w) (hE : ∀ k, Al F q k → 0 < k) (hp : Pln p ne np ga n) (hl : Pages L np) (ht : TbAt w H 81 T D g cap p L) (hH : ∀ b, H b → ¬ Al F q b) (hHb : ∀ b, H b → b < w.heap.size) (hf : Fi w A k ls) (hk : k ≤ 1000000) (hN : N + np + 1 ≤ 1000000) (v : Int) (L2 : List Gp) (m2 : Vs) (hr : bmp ga ne ls m L = (v, L2, m2)) :
    Calls Tryz.prog 12 #[.pointer (some ⟨T, 0, none⟩), .slice A k c] w fun e w' => e = .returned (.int .i64 v) ∧ PD w' (Ext F w w') D q n (N + np + 1) m2 ∧ TbAt w' H 81 T D g cap p L2 ∧ Chg (fun b => Al F q b ∨ H b) w w' := by
  have HD := Lib.hid h
  have HE := Lib.hid he
  have HG := Lib.hid hE
  have HP := Lib.hid hp
  have HL := Lib.hid hl
  have HT := Lib.hid ht
  have HH := Lib.hid (show (∀ b, H b → ¬ Al F q b) ∧ (∀ b, H b → b < w.heap.size) from ⟨hH, hHb⟩)
  have HF := Lib.hid hf
  have HK := Lib.hid hk
  have HN := Lib.hid hN
  have HU := Lib.hid (fi_len hf)
  have HS : Hid (∀ w', Below w.heap.size w w' → PD w' (Ext F w w') D q n (N + np + 1) m ∧ Chg (fun b => Al F q b ∨ H b) w w') := fun w' hb =>
    ⟨((PDJ.start HD.out).below hb).pd.more (by have := HN.out; omega) HN.out, Chg.of_below hb⟩
  clear h he hE hp hl ht hH hHb hf hk hN
  unfold bmp at hr
  by_cases h1 : inR ls ne
  · rw [if_neg (fun x => x h1)] at hr
    by_cases h2 : ∃ x ∈ ls, isFull L x
    · rw [if_pos h2] at hr
      have HM : Hid (mayE L ne ls = 5) := by show _ = _; rw [may_in h1, if_pos ((anyFull_iff L ls).2 h2)]
      injection hr with hr1 hr
      injection hr with hr2 hr3
      subst hr1 hr2 hr3
      have KM := Lib.hid (fun w' (hb : Below w.heap.size w w') => maybump_any (c := c) (HT.out.below hb) HP.out HL.out.1 (Rw.Sl.below HF.out hb) (by have := HK.out; omega))
      rw [HM.out] at KM
      clear h1 h2
      go_enter Tryz.func12, Tryz.ntmps12
      go_wp2_with fail
      refine (tmade_any (HT.out.alloc _)).mono ?_; rintro e w' ⟨rfl, rfl⟩
      go_wp2_with fail
      refine (KM.out _ (balloc _ _)).mono ?_; rintro e w1 ⟨rfl, b1⟩
      have B1 := Lib.hid (bthen (balloc w _) b1)
      clear b1
      go_wp2
      go_ret
      exact ⟨rfl, (HS.out _ B1.out).1, HT.out.below B1.out, (HS.out _ B1.out).2⟩
    · rw [if_neg h2] at hr
      have HM : Hid (mayE L ne ls = 0) := by show _ = _; rw [may_in h1, if_neg (fun h => h2 ((anyFull_iff L ls).1 h))]
      have KM := Lib.hid (fun w' (hb : Below w.heap.size w w') => maybump_any (c := c) (HT.out.below hb) HP.out HL.out.1 (Rw.Sl.below HF.out hb) (by have := HK.out; omega))
      rw [HM.out] at KM
      by_cases h0 : ls = []
      · rw [if_pos h0] at hr
        injection hr with hr1 hr
        injection hr with hr2 hr3
        have hk0 : k = 0 := by rw [← HU.out, h0]; rfl
        subst hr1 hr2 hr3 hk0
        clear h1 h2 h0
        go_enter Tryz.func12, Tryz.ntmps12
        go_wp2_with fail
        refine (tmade_any (HT.out.alloc _)).mono ?_; rintro e w' ⟨rfl, rfl⟩
        go_wp2_with fail
        refine (KM.out _ (balloc _ _)).mono ?_; rintro e w1 ⟨rfl, b1⟩
        have B1 := Lib.hid (bthen (balloc w _) b1)
        clear b1
        go_wp2
        go_ret
        exact ⟨rfl, (HS.out _ B1.out).1, HT.out.below B1.out, (HS.out _ B1.out).2⟩
      · rw [if_neg h0] at hr
        have hk0 : (k : Int) ≠ 0 := by
          have : ls.length ≠ 0 := fun e => h0 (List.eq_nil_of_length_eq_zero e)
          have := HU.out
          omega
        have HI : Hid (inside ls ne = ls) := inside_all h1
        have HY : Hid (∀ j, j ∈ hits ls np → MayBe (upp ls j (L.getD j zp))) := fun j hj => upp_may HL.out h1 h2 hj
        have HR2 := Lib.hid hr
        clear h1 h2 h0 hr
        go_enter Tryz.func12, Tryz.ntmps12
        go_wp2_with fail
        refine (tmade_any (HT.out.alloc _)).mono ?_; rintro e w' ⟨rfl, rfl⟩
        go_wp2_with fail
        refine (KM.out _ (balloc _ _)).mono ?_; rintro e w1 ⟨rfl, b1⟩
        have B1 := Lib.hid (bthen (balloc w (.cells #[.pointer (some ⟨T, 0, none⟩)] 49)) b1)
        have X1 := Lib.hid (kept_below (heap_alloc_new w (.cells #[.pointer (some ⟨T, 0, none⟩)] 49)) b1)
        have x1 : w1.cell? ⟨w.heap.size, 0, none⟩ = some (.pointer (some ⟨T, 0, none⟩)) := cell_of_row _ _ 0 _ _ _ X1.out
        clear b1
        go_wp2_with fail
        refine (gather_any (c := c) (HT.out.below B1.out) HP.out (Rw.Sl.below HF.out B1.out) (by have := HK.out; omega)).mono ?_; rintro e w2 ⟨mb, rfl, hmb, u2, b2⟩
        rw [HI.out] at u2
        have U2 := Lib.hid u2
        have MB := Lib.hid hmb
        have B2 := Lib.hid (bthen B1.out b2)
        have X2 := Lib.hid (kept_below X1.out b2)
        have BB := Lib.hid b2
        clear u2 hmb b2 x1
        have x2 : w2.cell? ⟨w.heap.size, 0, none⟩ = some (.pointer (some ⟨T, 0, none⟩)) := cell_of_row _ _ 0 _ _ _ X2.out
        obtain ⟨kk, hkk⟩ : ∃ kk, (hits ls np).length = kk := ⟨_, rfl⟩
        have HKK := Lib.hid hkk
        have bx := balloc w2 (.cells #[.map (some mb)] 107)
        have SZ : Hid (w.heap.size ≤ mb ∧ w.heap.size < w2.heap.size ∧ w.heap.size ≤ w2.heap.size) := ⟨Nat.le_trans B1.out.size MB.out, lt_of_heap X2.out, B2.out.size⟩
        have B3 := Lib.hid (bthen B2.out bx)
        have c2 : (w2.alloc (.cells #[.map (some mb)] 107)).cell? ⟨w2.heap.size, 0, none⟩ = some (.map (some mb)) := cell_of_row _ _ 0 _ _ _ (heap_alloc_new w2 _)
        have c1 : (w2.alloc (.cells #[.map (some mb)] 107)).cell? ⟨w.heap.size, 0, none⟩ = some (.pointer (some ⟨T, 0, none⟩)) := cell_of_row _ _ 0 _ _ _ (kept_below X2.out bx)
        have U3 := Lib.hid (U2.out.below bx)
        clear x2 hkk bx
        go_wp2_with fail
        generalize w2.alloc (.cells #[.map (some mb)] 107) = w3 at B3 c1 c2 U3 ⊢
        generalize w2.heap.size = bm at SZ c2 ⊢
        have KS : Hid (∀ x, Below w3.heap.size w3 x → x.cell? ⟨w.heap.size, 0, none⟩ = some (.pointer (some ⟨T, 0, none⟩)) ∧ x.cell? ⟨bm, 0, none⟩ = some (.map (some mb))) := fun x hx => ⟨(hx.cell (p := ⟨w.heap.size, 0, none⟩) (World.block_lt_of_cell? w3 ⟨w.heap.size, 0, none⟩ c1)).trans c1, (hx.cell (p := ⟨bm, 0, none⟩) (World.block_lt_of_cell? w3 ⟨bm, 0, none⟩ c2)).trans c2⟩
        have KY : Hid (∀ x, Below w3.heap.size w3 x → Calls Tryz.prog 49 #[.map (some mb)] x fun e x' => ∃ Bm, e = .returned (.func (.func 89) #[] #[.pointer (some ⟨Bm, 0, none⟩)]) ∧ x'.cell? ⟨Bm, 0, none⟩ = some (.map (some mb)) ∧ Below w3.heap.size w3 x') := fun x hx => (keys_fn (some mb) x).mono fun e x' ⟨e1, e2⟩ => ⟨_, e1, by rw [e2]; exact cell_of_row _ _ 0 _ _ _ (heap_alloc_new x _), by rw [e2]; exact bthen hx (balloc _ _)⟩
        have SO : Hid (∀ x Bm, Below w3.heap.size w3 x → x.cell? ⟨Bm, 0, none⟩ = some (.map (some mb)) → Calls Tryz.prog 48 #[.func (.func 89) #[] #[.pointer (some ⟨Bm, 0, none⟩)]] x fun e x' => ∃ A2 c2, e = .returned (.slice A2 kk c2) ∧ Fi x' A2 kk ((hits ls np).map fun (i : Nat) => (i : Int)) ∧ (∀ b off, A2 = some ⟨b, off, none⟩ → w3.heap.size ≤ b) ∧ Below w3.heap.size w3 x') := fun x Bm hx hc => by
          have := sorted_any (f := marks ls) hc (U3.out.below hx) HK.out
          rw [keys_hits, HKK.out] at this
          exact this.mono fun e x' ⟨A2, c2, e1, e2, e3, e4⟩ => ⟨A2, c2, e1, e2, fun b off e => Nat.le_trans hx.size (e3 b off e), bthen hx e4⟩
        have RE : Hid (∀ x A2 c2, Below w3.heap.size w3 x → Fi x A2 kk ((hits ls np).map fun (i : Nat) => (i : Int)) → (∀ b off, A2 = some ⟨b, off, none⟩ → w3.heap.size ≤ b) → Calls Tryz.prog 47 #[.pointer (some ⟨T, 0, none⟩), .slice A2 kk c2, .func (.func 50) #[] #[.pointer (some ⟨w.heap.size, 0, none⟩), .pointer (some ⟨bm, 0, none⟩)]] x fun e x' => e = .returned (.int .i64 v) ∧ PD x' (Ext F w x') D q n (N + np + 1) m2 ∧ TbAt x' H 81 T D g cap p L2 ∧ Chg (fun b => Al F q b ∨ H b) w x' ∧ x'.cell? ⟨w.heap.size, 0, none⟩ = some (.pointer (some ⟨T, 0, none⟩)) ∧ x'.cell? ⟨bm, 0, none⟩ = some (.map (some mb))) := fun x A2 c2 hx hf hb => by
          have bw := bthen B3.out hx
          have hr := HR2.out
          have hnF : ∀ b, w.heap.size ≤ b → ¬ Al F q b := fun b hb x => by have := HD.out.bound b x; omega
          have hnH : ∀ b, w.heap.size ≤ b → ¬ H b := fun b hb x => by have := HH.out.2 b x; omega
          have s3 := B3.out.size
          have rin : RIn x H F T D q g cap np mb w.heap.size bm k kk p L ls A2 := ⟨HT.out.below bw, U3.out.below hx, (KS.out x hx).1, (KS.out x hx).2, hf, HH.out.1, ⟨hnF _ SZ.out.1, hnF _ (Nat.le_refl _), hnF _ SZ.out.2.2⟩, fun b off _ e => hnF b (by have := hb b off e; omega), ⟨hnH _ SZ.out.1, hnH _ (Nat.le_refl _), hnH _ SZ.out.2.2⟩, fun b off _ e => hnH b (by have := hb b off e; omega)⟩
          injection hr with hr1 hr
          injection hr with hr2 hr3
          have := replace_any (c := c2) (HD.out.below bw) (HE.out.below bw) HG.out HP.out HL.out rin HKK.out.symm HY.out HN.out _ rfl L2 hr2.symm
          rw [hr1, hr3] at this
          exact this.mono fun e x' ⟨e1, e2, e3, e4⟩ => ⟨e1, HD.out.from_ bw.size e4.size e2, e3, (Chg.of_below (F := fun b => Al F q b ∨ H b) bw).trans e4 (fun _ _ x => x), (World.cell?_of_block (a := ⟨w.heap.size, 0, none⟩) (e4.block w.heap.size (World.block_lt_of_cell? x ⟨w.heap.size, 0, none⟩ (KS.out x hx).1) (fun y => y.elim (hnF _ (Nat.le_refl _)) (hnH _ (Nat.le_refl _))))).trans (KS.out x hx).1, (World.cell?_of_block (a := ⟨bm, 0, none⟩) (e4.block bm (World.block_lt_of_cell? x ⟨bm, 0, none⟩ (KS.out x hx).2) (fun y => y.elim (hnF _ SZ.out.2.2) (hnH _ SZ.out.2.2)))).trans (KS.out x hx).2⟩
        clear U2 X2 BB U3
        go_region_held (fun x => x.cell? ⟨w.heap.size, 0, none⟩ = some (.pointer (some ⟨T, 0, none⟩)) ∧ x.cell? ⟨bm, 0, none⟩ = some (.map (some mb))) (first | go_keep | exact Z6.out | exact KS.out _ B5.out | exact KS.out _ B4.out)
          (first
            | (go_at_call 49; (with_reducible refine (KY.out _ (below_drew1 _)).mono ?_); rintro e w4 ⟨Bm, rfl, hc4, b4⟩; have C4 := Lib.hid hc4; have B4 := Lib.hid b4; clear hc4 b4)
            | (go_at_call 48; (with_reducible refine (SO.out _ _ B4.out C4.out).mono ?_); rintro e w5 ⟨A2, c5, rfl, f5, n5, b5⟩; have F5 := Lib.hid f5; have N5 := Lib.hid n5; have B5 := Lib.hid b5; clear f5 n5 b5)
            | (go_at_call 47; (with_reducible refine (RE.out _ _ _ B5.out F5.out N5.out).mono ?_); rintro e w6 ⟨rfl, p6, t6, c6, z6⟩; have P6 := Lib.hid p6; have T6 := Lib.hid t6; have C6 := Lib.hid c6; have Z6 : Hid (w6.cell? ⟨w.heap.size, 0, none⟩ = some (.pointer (some ⟨T, 0, none⟩)) ∧ w6.cell? ⟨bm, 0, none⟩ = some (.map (some mb)))   := z6; clear p6 t6 c6 z6))
        all_goals
          clear c1 c2
          go_wp2
          go_ret
          exact ⟨rfl, P6.out, T6.out, C6.out⟩
  · rw [if_pos h1] at hr
    have HM : Hid (mayE L ne ls = 3) := may3 h1
    injection hr with hr1 hr
    injection hr with hr2 hr3
    subst hr1 hr2 hr3
    have KM := Lib.hid (fun w' (hb : Below w.heap.size w w') => maybump_any (c := c) (HT.out.below hb) HP.out HL.out.1 (Rw.Sl.below HF.out hb) (by have := HK.out; omega))
    rw [HM.out] at KM
    clear h1
    go_enter Tryz.func12, Tryz.ntmps12
    go_wp2_with fail
    refine (tmade_any (HT.out.alloc _)).mono ?_; rintro e w' ⟨rfl, rfl⟩
    go_wp2_with fail
    refine (KM.out _ (balloc _ _)).mono ?_; rintro e w1 ⟨rfl, b1⟩
    have B1 := Lib.hid (bthen (balloc w _) b1)
    clear b1
    go_wp2
    go_ret
    exact ⟨rfl, (HS.out _ B1.out).1, HT.out.below B1.out, (HS.out _ B1.out).2⟩
end
end Go.Proofs.YtgdgehfapfgdfaaGreatDoor.Tb
