/-
  The document's Next. No conditions.
-/
import Derived.Test.YtgdgehfapfgdfaaGreatDoorGbRnum
import Derived.Deep.RegionHeld
import Derived.Deep.DrawnRows
namespace Go.Proofs.YtgdgehfapfgdfaaGreatDoor.Tb
open Go.RowKit Oc Dm W Dw Sr
set_option linter.unusedVariables false
set_option maxRecDepth 100000
attribute [local go_sem ↓] Go.wp_at_zero Go.wp_at_succ

/-- append of all of a row to an empty one -/
theorem wpList_append_all {P : Program} {e k B g cap n : Nat} {l : List (List Value)} {w : World} {ops : Array Oper} {rest : List Oper} {o : Oper} {a : Act} {Q : Exit → Act → World → Prop} (hgd : o.guard = none) (s x : Operand) (t : TypeId) (ho : o.op = .call { callee := .builtin .append, args := #[s, x], argTypes := #[t, t] }) {bytes : Nat} (hT : ElK P t e k bytes)
    {v : Value} (hs : a.eval s = v) {B2 : Nat} (hown : OwnS w e k B2 v []) (hB : B2 ≤ w.heap.size) (hx : a.eval x = .slice (some ⟨g, 0, none⟩) n cap) (hr : OwnS w e k B (.slice (some ⟨g, 0, none⟩) n cap) l) (hn : l.length = n) (hl : n ≤ 1000000)
    (hK : ∀ v' w', OwnS w' e k B2 v' l → w.grownBy w' v.ownBlock → wpList P ops Q rest (a.put o.dst v') w') : wpList P ops Q (o :: rest) a w := by
  refine wpList_plain hgd fun K hK' => ?_
  obtain ⟨v', w', hrun, h2, h3, h4⟩ := run_append_S (P := P) (w := w) (ty := o.type) (us := l) (m := n) (ad := ⟨g, 0, none⟩) cap hT hown hr.1 hn (fun j u hu => by
    rw [Go.WideShapes.add_plain, Nat.zero_add]
    have hj := (List.getElem?_eq_some_iff.1 hu).1
    rw [flat_len hr.1, hn] at hj
    have h5 := hr.2
    rw [hn] at h5
    rw [World.ownsRow.cellAt h5 j hj, hu]) (by simpa using hl) hB
  unfold Oper.wp execOp
  simp only [ho, resolve, invoke, builtin, Sem.run_bind, Sem.run_pure, Result.andThen_ok, List.map_toArray, List.map_cons, List.map_nil, hs, hx, hrun]
  rw [List.nil_append] at h2
  exact hK' _ _ (hK v' w' h2 h3)
section
variable {w w' : World} {H F : Nat → Prop} {T E g cap ne np ga n k c : Nat} {p : Pn.Pl} {L : List Gp} {A : Option Addr} {ls : List Int}
set_option maxHeartbeats 4000000 in
theorem rnext_any (h : TbAt w H 148 T E g cap p L) (hp : Pln p ne np ga n) (hl : Pages L np) (hf : Fi w A k ls) (hk : k ≤ 1000000) :
    Calls Tryz.prog 40 #[.pointer (some ⟨T, 0, none⟩), .slice A k c] w fun e w' => ∃ g1 c1 g2, e = .returned (.tuple #[.slice (some ⟨g1, 0, none⟩) np c1, .slice (some ⟨g2, 0, none⟩) np np]) ∧ OwnS w' 33 8 w.heap.size (.slice (some ⟨g1, 0, none⟩) np c1) ((nexts (inside ls ne) L).map gcs) ∧ Rw.OwnV w' 4 w.heap.size (.slice (some ⟨g2, 0, none⟩) np np) (flags (inside ls ne) np) ∧ np ≤ c1 ∧ c1 ≤ maxLen ∧ Below w.heap.size w w' := by
  have HH := Lib.hid h
  have HP := Lib.hid hp
  have HL := Lib.hid hl
  have HF := Lib.hid hf
  have HK := Lib.hid hk
  have hnp : np ≤ 4096 := by have := hp.hn; have := hp.hn2; omega
  have hne : ne ≤ 100000 := by have := hp.he1; omega
  have HLn : Hid (L.length = np) := hl.1
  have ha := balloc w (.cells #[] 33)
  have c14 : (w.alloc (.cells #[] 33)).cell? ⟨T, 14, none⟩ = some (.slice (some ⟨g, 0, none⟩) np cap) := by
    have := (h.below ha).cells.2.1
    rwa [hl.1] at this
  have R0 : Hid (OwnS (w.alloc (.cells #[] 33)) 33 8 0 (.slice (some ⟨g, 0, none⟩) np cap) (L.map gcs)) := by
    have := (h.below ha).row
    rwa [hl.1] at this
  have E0 : Hid (OwnS (w.alloc (.cells #[] 33)) 33 8 w.heap.size (.slice (some ⟨w.heap.size, 0, none⟩) 0 0) []) := ⟨Fits.nil 8, World.ownsRow_lit (base := w.heap.size) (e := 33) (size := 8) w #[] 0 (Nat.le_refl _) (by decide) rfl⟩
  clear h hp hl hf hk ha
  go_enter Tryz.func40, Tryz.ntmps40
  go_wp2_with (first
    | (at_builtin; refine wpList_append_all rfl _ _ _ rfl gp_elk rfl E0.out (Nat.le_of_lt (by simp)) rfl R0.out (by rw [List.length_map]; exact HLn.out) (by omega) ?_))
  intro v1 w1 o1 g1'
  have O1 := Lib.hid o1
  have B1 := Lib.hid ((balloc w (.cells #[] 33)).grown g1' (balloc w (.cells #[] 33)).size (fun b e => by simp [Value.ownBlock] at e; omega))
  clear o1 g1'
  obtain ⟨g1, c1, rfl, hg1, hc1, hc2, hg2⟩ := O1.out.here (n := np) (by rw [List.length_map]; exact HLn.out) (by have := HP.out.hp; omega)
  go_wp2_with (first
    | (at_make; refine Rw.wpList_make_row rfl _ _ _ rfl boolrow _ _ np rfl rfl rfl rfl (by omega) ?_; intro w2 o2 b2; rw [← flags_nil] at o2; have O2 := Lib.hid (o2.more B1.out.size); have O3 := Lib.hid (O1.out.below b2); have B2 := Lib.hid (bthen B1.out b2); clear o2 b2))
  have hg12 : g1 ≠ w1.heap.size := by omega
  have HC := Lib.hid (show np ≤ c1 ∧ c1 ≤ maxLen from ⟨hc1, hc2⟩)
  generalize w1.heap.size = g2 at O2 hg12 ⊢
  have HG1 : Hid (w.heap.size ≤ g1) := hg1
  have HG2 : Hid (w.heap.size ≤ g2) := (O2.out.ge g2 rfl).1
  clear c14 hg1 hg2 hc1 hc2 O1 B1
  rw [← nexts_nil L, ← lt_zero ls] at O3
  rw [← lt_zero ls] at O2
  go_loopw [8] (fun q8 wr => ∃ i : Nat, i ≤ ne ∧ q8 = .int .i64 (i : Int) ∧ Hid (OwnS wr 33 8 w.heap.size (.slice (some ⟨g1, 0, none⟩) np c1) ((nexts (lt_ ls i) L).map gcs)) ∧ Hid (Rw.OwnV wr 4 w.heap.size (.slice (some ⟨g2, 0, none⟩) np np) (flags (lt_ ls i) np)) ∧ Hid (Below w.heap.size w wr)) (fun q8 _ => ne - (intOf q8).toNat)
  case atStart => exact ⟨0, by omega, rfl, O3, O2, B2⟩
  case round =>
    obtain ⟨i, hi, rfl, OJ, FJ, BJ⟩ := hrel
    have HJ := Lib.hid (HH.out.below BJ.out)
    have c2 : wr.cell? ⟨T, 2, none⟩ = some (.int .i64 (ne : Int)) := by
      have := HJ.out.cells.2.2.1 1 (.int .i64 p.a1) rfl
      rwa [HP.out.h1] at this
    by_cases hlt : i < ne
    · have hlt2 : (i : Int) < (ne : Int) := by omega
      cases hb : named ls i
      · have HB := Lib.hid hb
        have K := Lib.hid (named_any (c := c) (Rw.Sl.below HF.out BJ.out) (by have := HK.out; omega) i (by omega))
        rw [hb] at K
        clear hb
        go_wp2_with fail
        refine K.out.mono ?_; rintro r w3 ⟨rfl, rfl⟩
        go_wp2
        go_roundw
        case rel => exact ⟨i + 1, by omega, by go_num, by show OwnS _ _ _ _ _ _; rw [lt_no HB.out]; exact OJ.out, by show Rw.OwnV _ _ _ _ _; rw [lt_no HB.out]; exact FJ.out, BJ⟩
        case measure => simp [intOf]; omega
      · have HB := Lib.hid hb
        have K := Lib.hid (named_any (c := c) (Rw.Sl.below HF.out BJ.out) (by have := HK.out; omega) i (by omega))
        rw [hb] at K
        have hnl : ¬ (i : Int) ∈ lt_ ls i := fun hm => by have := (mem_lt.1 hm).1; omega
        have HNL := Lib.hid hnl
        have hj : i / 6 < (nexts (lt_ ls i) L).length := by rw [nexts_length, HLn.out]; have := HP.out.he1; omega
        obtain ⟨y, hy⟩ : ∃ y, (nexts (lt_ ls i) L)[i / 6]? = some y := ⟨_, List.getElem?_eq_getElem hj⟩
        have HY := Lib.hid hy
        have hyb : y.v ≤ 9000000000000000000 ∧ y.g (i % 6) ≤ 9000000000000000000 := by
          rw [nexts_at] at hy
          cases hL : L[i / 6]? with
          | none => rw [hL] at hy; cases hy
          | some x =>
            rw [hL, Option.map_some] at hy
            injection hy with hy
            obtain ⟨hm, _⟩ := HL.out.2 _ x hL
            have h1 := hm.2.1.2
            have h2 := (hm.2.2 (i % 6) (by omega)).2
            subst hy
            split
            · refine ⟨by show x.v + 1 ≤ _; omega, ?_⟩
              show x.g (i % 6) + add1 (lt_ ls i) (6 * (i / 6) + i % 6) ≤ _
              unfold add1
              split <;> omega
            · exact ⟨by omega, by omega⟩
        obtain ⟨hyv, hyg⟩ := hyb
        clear hb hnl hy
        obtain ⟨j, hj2⟩ : ∃ j, i / 6 = j := ⟨_, rfl⟩
        obtain ⟨kk, hk2⟩ : ∃ kk, i % 6 = kk := ⟨_, rfl⟩
        have hk6 : kk < 6 := by omega
        have d1 : (i : Int) / 6 = (j : Int) := by omega
        have d2 : (i : Int) % 6 = (kk : Int) := by omega
        have hjn : j < np := by rw [← hj2]; have := HP.out.he1; omega
        have hS := nexts_snoc HNL.out HY.out
        have hF := flags_set (lt_ ls i) np i
        rw [← lt_yes HB.out, hj2, hk2] at hS
        rw [← lt_yes HB.out, hj2] at hF
        rw [hj2] at HY
        rw [hk2] at hyg
        have HS := Lib.hid hS
        have HFL := Lib.hid hF
        have hmy : ((nexts (lt_ ls i) L).map gcs)[j]? = some (gcs y) := by rw [List.getElem?_map, HY.out]; rfl
        have hml : ((nexts (lt_ ls i) L).map gcs).length = np := by rw [List.length_map, nexts_length, HLn.out]
        obtain ⟨cg, fg⟩ := OJ.out.cell hml hmy (gcs_gen y hk6)
        obtain ⟨o5, g5⟩ := OJ.out.setCell hml hmy (j := 2 + kk) (by omega) (u := .int .u64 ((y.g kk : Int) + 1)) rfl
        rw [gcs_gup y hk6] at o5
        rw [← Nat.add_assoc] at cg fg o5 g5
        have O5 := Lib.hid o5
        have F5 := Lib.hid (FJ.out.other g5 (fun b e e2 => by simp [Value.ownBlock] at e; injection e2 with e2; omega))
        have B5 := Lib.hid (BJ.out.grown g5 BJ.out.size (fun b e => by injection e with e; have := HG1.out; omega))
        have HML := Lib.hid hml
        have hfl := flags_at (l := lt_ ls i) hjn
        obtain ⟨hh, hhh⟩ : ∃ hh, hit (lt_ ls i) j = hh := ⟨_, rfl⟩
        rw [hhh] at hfl HS
        clear hj2 hk2 hS hF hmy hml o5 g5 hj
        go_wp2_with fail
        refine K.out.mono ?_; rintro r w3 ⟨rfl, rfl⟩
        go_wp2_with fail
        go_region
        generalize wr.setCell ⟨g1, j * 8 + 2 + kk, none⟩ (.int .u64 ((y.g kk : Int) + 1)) = w5 at O5 F5 B5 ⊢
        clear OJ FJ BJ c2 cg fg
        obtain ⟨cf, ff⟩ := F5.out.cell (flags_len _ _) hfl
        have hml5 : (((nexts (lt_ ls i) L).map gcs).set j (gcs (gup y kk))).length = np := by rw [List.length_set]; exact HML.out
        cases hh
        · have hm5 : (((nexts (lt_ ls i) L).map gcs).set j (gcs (gup y kk)))[j]? = some (gcs (gup y kk)) := by rw [List.getElem?_set_self]; rw [HML.out]; exact hjn
          obtain ⟨cv, fv⟩ := O5.out.cell (j := 1) (u := .int .u64 (y.v : Int)) hml5 hm5 rfl
          obtain ⟨o6, g6⟩ := O5.out.setCell hml5 hm5 (j := 1) (by decide) (u := .int .u64 ((y.v : Int) + 1)) rfl
          rw [show (gcs (gup y kk)).set 1 (.int .u64 ((y.v : Int) + 1)) = gcs (vup (gup y kk)) from rfl, List.set_set] at o6
          have hs6 := HS.out
          rw [if_neg (by decide)] at hs6
          rw [hs6] at o6
          have F6 := Lib.hid (F5.out.other g6 (fun b e e2 => by simp [Value.ownBlock] at e; injection e2 with e2; omega))
          have B6 := Lib.hid (B5.out.grown g6 B5.out.size (fun b e => by injection e with e; have := HG1.out; omega))
          obtain ⟨f7, g7⟩ := F6.out.set (j := j) (flags_len _ _) (.bool true)
          rw [HFL.out] at f7
          have F7 := Lib.hid f7
          obtain ⟨cf6, ff6⟩ := F6.out.cell (flags_len _ _) hfl
          have O7 := Lib.hid (o6.keep (w' := _) (fun b e => g7.block b (o6.ge b e).2 (fun e2 => by simp [Value.ownBlock] at e; injection e2 with e2; omega)))
          have B7 := Lib.hid (B6.out.grown g7 B6.out.size (fun b e => by injection e with e; have := HG2.out; omega))
          clear hml5 hm5 o6 g6 hs6 f7 g7
          go_wp2
          go_roundw
          case rel => exact ⟨i + 1, by omega, by go_num, O7, F7, B7.out.drew⟩
          case measure => simp [intOf]; omega
        · have hs6 := HS.out
          rw [if_pos rfl] at hs6
          have O6 := O5.out
          rw [hs6] at O6
          obtain ⟨f7, g7⟩ := F5.out.set (j := j) (flags_len _ _) (.bool true)
          rw [HFL.out] at f7
          have F7 := Lib.hid f7
          have O7 := Lib.hid (O6.keep (w' := _) (fun b e => g7.block b (O6.ge b e).2 (fun e2 => by simp [Value.ownBlock] at e; injection e2 with e2; omega)))
          have B7 := Lib.hid (B5.out.grown g7 B5.out.size (fun b e => by injection e with e; have := HG2.out; omega))
          clear hml5 hs6 O6 f7 g7
          go_wp2
          go_roundw
          case rel => exact ⟨i + 1, by omega, by go_num, O7, F7, B7.out.drew⟩
          case measure => simp [intOf]; omega
    · have hlt2 : ¬ (i : Int) < (ne : Int) := by omega
      have e : i = ne := by omega
      have EN := named_of (lt_inside ls ne)
      have O5 := OJ.out
      have F5 := FJ.out
      rw [e] at O5 F5
      rw [nexts_of EN] at O5
      unfold flags at F5
      rw [hit_of EN] at F5
      have O6 := Lib.hid O5
      have F6 := Lib.hid F5
      clear e EN O5 F5
      go_wp2
      go_ret2
      exact ⟨g1, c1, g2, rfl, O6.out, F6.out, HC.out.1, HC.out.2, BJ.out⟩
end
end Go.Proofs.YtgdgehfapfgdfaaGreatDoor.Tb
