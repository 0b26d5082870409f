/-
  Contracts of the reference's Set, All and Same, and of the law's own same. No conditions.
-/
import Derived.Test.YtmeknghlhfpjnaaDoorBitRef
namespace Go.Proofs.YtmeknghlhfpjnaaDoor.W
open Go.RowKit Bt Rw
set_option linter.unusedVariables false

/-- one in, or not, where there is room -/
def setI (l : List Bool) (i : Int) (b : Bool) : List Bool := if 0 ≤ i ∧ i < (l.length : Int) then l.set i.toNat b else l
theorem setI_len (l : List Bool) (i : Int) (b : Bool) : (setI l i b).length = l.length := by unfold setI; split <;> simp
/-- what a call leaves that hands back bools in new memory -/
def MadeB (w : World) (vs : List Value) (e : Ending) (w' : World) : Prop := ∃ v, e = .returned v ∧ OwnV w' 4 w.heap.size v vs ∧ Below w.heap.size w w'
set_option maxHeartbeats 1000000 in
theorem rset_any (A : Option Addr) (n c : Nat) (l : List Bool) (w : World) (hs : Sl w A n (bv l)) (hn : l.length = n) (hl : n ≤ 4096) (i : Int) (b : Bool) :
    Calls Tryd.prog 21 #[.slice A n c, .int .i64 i, .bool b] w (MadeB w (bv (setI l i b))) := by
  have HS := Lib.hid hs
  have HN := Lib.hid hn
  have O0 := Lib.hid (OwnV.empty w 4 w.heap.size (Nat.le_refl _))
  clear hs hn
  by_cases h0 : 0 ≤ i ∧ i < (n : Int)
  · obtain ⟨k, rfl⟩ := Int.eq_ofNat_of_zero_le h0.1
    have hk : k < n := by omega
    have e : Hid (setI l (k : Int) b = l.set k b) := by show setI _ _ _ = _; rw [setI, HN.out, if_pos h0, Int.toNat_natCast]
    clear h0
    go_enter Tryd.func21, Tryd.ntmps21
    go_wp2_with (at_builtin; refine wpList_append_row (w0 := w) rfl _ _ 27 rfl bt rfl O0.out ((Below.refl _ _).alloc (Nat.le_refl _) _) _ rfl (HS.out.alloc _) (bv_one l) (by simp; omega) ?_; intro v1 w1 o1 b1; rw [List.nil_append] at o1; obtain ⟨g, cap, rfl, hg, hcap⟩ := o1.here (n := n) ((bv_len l).trans HN.out) (by omega); obtain ⟨hcell, hfr⟩ := o1.cell (j := k) ((bv_len l).trans HN.out) (bv_at (by rw [HN.out]; exact hk)); have O1 := Lib.hid o1; have B1 := Lib.hid b1; clear o1 b1)
    go_ret
    obtain ⟨o2, g2⟩ := O1.out.set (j := k) ((bv_len l).trans HN.out) (.bool b)
    refine ⟨_, rfl, ?_, B1.out.grown g2 B1.out.size fun g' e => by injection e with e; omega⟩
    rw [e.out, bv, List.map_set]
    exact o2
  · have e : Hid (setI l i b = l) := by show setI _ _ _ = _; rw [setI, HN.out, if_neg h0]
    by_cases h1 : i < 0
    · clear h0
      go_enter Tryd.func21, Tryd.ntmps21
      go_wp2_with (at_builtin; refine wpList_append_row (w0 := w) rfl _ _ 27 rfl bt rfl O0.out ((Below.refl _ _).alloc (Nat.le_refl _) _) _ rfl (HS.out.alloc _) (bv_one l) (by simp; omega) ?_; intro v1 w1 o1 b1; rw [List.nil_append] at o1; have O1 := Lib.hid o1; have B1 := Lib.hid b1; clear o1 b1)
      go_ret
      exact ⟨_, rfl, by rw [e.out]; exact O1.out, B1.out⟩
    · have h2 : (n : Int) ≤ i := by omega
      clear h0
      go_enter Tryd.func21, Tryd.ntmps21
      go_wp2_with (at_builtin; refine wpList_append_row (w0 := w) rfl _ _ 27 rfl bt rfl O0.out ((Below.refl _ _).alloc (Nat.le_refl _) _) _ rfl (HS.out.alloc _) (bv_one l) (by simp; omega) ?_; intro v1 w1 o1 b1; rw [List.nil_append] at o1; have O1 := Lib.hid o1; have B1 := Lib.hid b1; clear o1 b1)
      go_ret
      exact ⟨_, rfl, by rw [e.out]; exact O1.out, B1.out⟩

set_option maxHeartbeats 1000000 in
theorem rall_any (A : Option Addr) (n c : Nat) (l : List Bool) (w : World) (hs : Sl w A n (bv l)) (hn : l.length = n) (hl : n ≤ 4096) :
    Calls Tryd.prog 26 #[.slice A n c] w (MadeV w (nv (tell l n))) := by
  have HS := Lib.hid hs
  have HN := Lib.hid hn
  clear hs hn
  go_enter Tryd.func26, Tryd.ntmps26
  go_wp2
  go_loopw [3, 4] (fun y q wr => ∃ j : Nat, j ≤ n ∧ q = .int .i64 j ∧ Hid (OwnV wr 3 w.heap.size y (nv (tell l j))) ∧ Hid (Below w.heap.size w wr)) (fun _ q _ => n - (intOf q).toNat)
  case atStart => exact ⟨0, by omega, rfl, OwnV.nil _ _ _, Below.refl _ _⟩
  case round =>
    obtain ⟨j, hj, rfl, OJ, BJ⟩ := hrel
    by_cases hlt : j < n
    · obtain ⟨bk, off, rfl, hcell⟩ := (HS.out.below BJ.out).at_ (bv_at (l := l) (k := j) (by rw [HN.out]; exact hlt))
      have e := tell_succ l j
      have TL := Lib.hid (tell_le l j)
      cases hx : inn l j
      · rw [hx] at hcell e
        have E2 : Hid (tell l (j + 1) = tell l j) := by show _ = _; rw [e]; simp
        clear e hx
        go_wp2
        go_roundw
        case rel => exact ⟨j + 1, by omega, by go_num, by show OwnV _ _ _ _ _; rw [E2.out]; exact OJ.out, BJ⟩
        case measure => simp [intOf]; omega
      · rw [hx] at hcell e
        have E2 : Hid (tell l (j + 1) = tell l j ++ [j]) := by show _ = _; rw [e]; simp
        clear e hx
        go_wp2_with (at_builtin; refine wpList_append_one rfl _ _ 42 rfl it rfl OJ.out BJ.out _ rfl rfl (by rw [nv_len]; have := TL.out; omega) ?_; intro v2 w2 o2 b2; have O2 := Lib.hid o2; have B2 := Lib.hid b2; clear o2 b2)
        go_roundw
        case rel => exact ⟨j + 1, by omega, by go_num, by show OwnV _ _ _ _ _; rw [E2.out, nv_snoc]; exact O2.out, B2⟩
        case measure => simp [intOf]; omega
    · have : j = n := by omega
      subst this
      go_wp2
      go_ret
      exact ⟨_, rfl, OJ.out, BJ.out⟩

/-- rows that are alike are told so -/
theorem rsame_yes (A A2 : Option Addr) (n c c2 : Nat) (zs : List Nat) (w : World) (hn : n ≤ 1000000000) (h1 : Sl w A n (nv zs)) (h2 : Sl w A2 n (nv zs)) :
    Calls Tryd.prog 25 #[.slice A n c, .slice A2 n c2] w fun e w' => e = .returned (.bool true) ∧ ∃ k, w' = w.drewN k := by
  have H1 := Lib.hid h1
  have H2 := Lib.hid h2
  clear h1 h2
  go_enter Tryd.func25, Tryd.ntmps25
  go_wp2
  go_loopw [5] (fun q wr => ∃ j : Nat, j ≤ n ∧ q = .int .i64 (j : Int) ∧ Hid (∃ m, wr = w.drewN m)) (fun q _ => n - (intOf q).toNat)
  case atStart => exact ⟨0, by omega, rfl, 0, rfl⟩
  case round =>
    obtain ⟨j, hj, rfl, HD⟩ := hrel
    obtain ⟨m, rfl⟩ := HD.out
    by_cases hlt : j < n
    · obtain ⟨z, hz⟩ : ∃ z, zs[j]? = some z := ⟨_, List.getElem?_eq_getElem (by have := H1.out.len; rw [nv_len] at this; omega)⟩
      have hz2 : (nv zs)[j]? = some (Value.int .i64 (z : Int)) := by rw [nv, List.getElem?_map, hz]; rfl
      obtain ⟨b, off, rfl, hcell⟩ := H1.out.at_ hz2
      obtain ⟨b2, off2, rfl, hcell2⟩ := H2.out.at_ hz2
      have hi0 : (0 : Int) ≤ (j : Int) := by omega
      have hi1 : (j : Int) < (n : Int) := by omega
      clear hz hz2
      go_wp2
      go_quiet (fail)
      go_wp2
      go_roundw
      case rel => exact ⟨j + 1, by omega, rfl, _, rfl⟩
      case measure => simp [intOf]; omega
    · have : j = n := by omega
      subst this
      go_wp2
      go_ret
      exact ⟨rfl, _, rfl⟩

set_option maxRecDepth 100000 in
set_option maxHeartbeats 4000000 in
/-- a set is as its row says -/
theorem same_any {w : World} {B R : Nat} {v : Value} {l : List Bool} {m : Bool} (h : St w B R v l m) (A : Option Addr) (n c : Nat) (hs : Sl w A n (bv l)) (hn : l.length = n) (hl : n ≤ 4096) (he : Env w) (i : Int) :
    Calls Tryd.prog 10 #[.pointer (some ⟨R, 0, none⟩), .slice A n c, .int .i64 i] w fun e w' => e = .returned (.bool true) ∧ Below w.heap.size w w' := by
  obtain ⟨r1, ok1, x1⟩ := Nx.made l i.toNat true
  obtain ⟨r2, ok2, x2⟩ := Nx.made l i.toNat false
  obtain ⟨ct, hct⟩ : ∃ ct, cnt l = ct := ⟨_, rfl⟩
  obtain ⟨hb, hhb⟩ : ∃ hb, hasI l i = hb := ⟨_, rfl⟩
  have X1 := Lib.hid x1
  have X2 := Lib.hid x2
  have CT := Lib.hid hct
  have HB := Lib.hid hhb
  have HN := Lib.hid hn
  have H := Lib.hid h
  have HS := Lib.hid hs
  have HE := Lib.hid he
  have HL : Hid (l.length ≤ 4096) := by show l.length ≤ 4096; omega
  clear h hs hn he x1 x2 hct hhb
  go_enter Tryd.func10, Tryd.ntmps10
  go_wp2_with fail
  refine (next_any H.out HL.out HE.out i r1 ok1 X1.out).mono ?_; rintro e w' ⟨rfl, rfl⟩
  go_wp2_with fail
  refine (rnext_any A n c l _ HS.out HN.out hl i true r1 ok1 X1.out).mono ?_; rintro e w' ⟨rfl, rfl⟩
  go_wp2_with fail
  refine (free_any H.out HL.out HE.out i r2 ok2 X2.out).mono ?_; rintro e w' ⟨rfl, rfl⟩
  go_wp2_with fail
  refine (rnext_any A n c l _ HS.out HN.out hl i false r2 ok2 X2.out).mono ?_; rintro e w' ⟨rfl, rfl⟩
  go_wp2_with fail
  refine (len_any H.out).mono ?_; rintro e w' ⟨rfl, rfl⟩
  have hlen : ((l.length : Int) == (n : Int)) = true := by rw [HN.out]; simp
  have hlen2 : (l.length == n) = true := by rw [HN.out]; simp
  go_wp2_with fail
  refine (count_any H.out HL.out ct CT.out).mono ?_; rintro e w' ⟨rfl, rfl⟩
  go_wp2_with fail
  refine (rcount_any A n c l _ HS.out HN.out hl ct CT.out).mono ?_; rintro e w' ⟨rfl, rfl⟩
  go_wp2_with fail
  refine (has_any H.out HL.out i hb HB.out).mono ?_; rintro e w' ⟨rfl, k, rfl⟩
  go_wp2_with fail
  refine (rhas_any A n c l _ (HS.out.drewN k) HN.out i hb HB.out).mono ?_; rintro e w' ⟨rfl, rfl⟩
  have B0 : Hid (Below w.heap.size w (w.drewN k)) := below_drewN (Below.refl _ _) k
  go_wp2_with fail
  refine (all_any (H.out.dn k) HL.out (HE.out.below B0.out)).mono ?_; rintro e w1 ⟨v1, rfl, o1, b1⟩
  have B1 : Hid (Below w.heap.size w w1) := B0.out.trans b1
  obtain ⟨A1, c1, rfl, _, _, s1⟩ := o1.form (n := ct) (by rw [nv_len, tell_len l l.length (Nat.le_refl _), List.take_length]; exact CT.out)
  have S1 := Lib.hid s1
  clear o1 b1 s1
  go_wp2_with fail
  refine (rall_any A n c l _ (HS.out.below B1.out) HN.out hl).mono ?_; rintro e w2 ⟨v2, rfl, o2, b2⟩
  have B2 : Hid (Below w1.heap.size w1 w2) := b2
  rw [← HN.out] at o2
  obtain ⟨A2, c2, rfl, _, _, s2⟩ := o2.form (n := ct) (by rw [nv_len, tell_len l l.length (Nat.le_refl _), List.take_length]; exact CT.out)
  have S2 := Lib.hid s2
  have CL : Hid (ct ≤ 1000000000) := by show ct ≤ _; rw [← CT.out]; have := cnt_le l; have := HL.out; omega
  clear o2 b2 s2
  go_wp2_with fail
  refine (rsame_yes A1 A2 ct c1 c2 (tell l l.length) _ CL.out (S1.out.below B2.out) S2.out).mono ?_; rintro e w3 ⟨rfl, k3, rfl⟩
  go_wp2
  go_ret
  exact ⟨rfl, below_drewN (B1.out.trans (B2.out.mono B1.out.size)) k3⟩
end Go.Proofs.YtmeknghlhfpjnaaDoor.W
