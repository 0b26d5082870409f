/-
  Elder texts, one behind the other: SlKeepNum, SlKeepMem. No conditions.
-/
import Derived.Test.YtapklelkcicjlaaGreatDoorKSq
import Derived.Test.YtapklelkcicjlaaGreatDoorKSt
import Derived.Test.YtapklelkcicjlaaGreatDoorSlAwake
import Derived.BigQuiet
import Derived.Deep.RegionHeld
import Derived.Deep.DrawnRows
/-! Slots behind fills, a crash, and turned bits: what is opened and read: plain facts. No conditions. -/
namespace Go.Proofs.YtapklelkcicjlaaGreatDoor.Pd.Sl
set_option maxRecDepth 100000
open Go.RowKit Oc Dm W Dw W.Hd
set_option linter.unusedVariables false
set_option maxRecDepth 100000

/-- the wear of each slot -/
def rsOf (L : List Slt) (i : Nat) : UInt32 := (at0 L (i : Int)).r
def gets (wl : List Nat) (i : Nat) : Nat := wl.getD i 0
theorem at0_set {L : List Slt} {i j : Nat} {s : Slt} (hi : i < L.length) : at0 (L.set i s) (j : Int) = if j = i then s else at0 L (j : Int) := by
  unfold at0
  rw [Int.toNat_natCast, List.getD_eq_getElem?_getD, List.getD_eq_getElem?_getD, List.getElem?_set]
  by_cases h : i = j
  · subst h
    rw [if_pos rfl, if_pos hi, if_pos rfl]
    rfl
  · rw [if_neg h, if_neg (fun e => h e.symm)]
theorem rs_set {L : List Slt} {i : Nat} {s : Slt} (hi : i < L.length) : rsOf (L.set i s) = put (rsOf L) i s.r := funext fun j => by
  unfold rsOf put
  rw [at0_set hi]
  split <;> rfl
theorem gets_set {wl : List Nat} {i x : Nat} (hi : i < wl.length) : gets (wl.set i x) = put (gets wl) i x := funext fun j => by
  unfold gets put
  show (wl.set i x).getD j 0 = if j = i then x else wl.getD j 0
  rw [List.getD_eq_getElem?_getD, List.getD_eq_getElem?_getD, List.getElem?_set]
  by_cases h : i = j
  · subst h
    rw [if_pos rfl, if_pos hi, if_pos rfl]
    rfl
  · rw [if_neg h, if_neg (fun e => h e.symm)]
theorem tn_turned (xs : List UInt8) (a : Int) (T : Nat) : ∀ k, Tn.turned xs a T k = turned xs a T k
  | 0 => rfl
  | k + 1 => by
    unfold Tn.turned turned
    rw [tn_turned xs a T k]
    rfl
section
variable {Fl : Nat → Int → Nat → List UInt8 → Prop} {la k i g n ns : Nat} {S : Nat → Sec} {ws : Nat → Nat} {z b : Int} {xs : List UInt8} {m : Vs} {L : List Slt}
/-- a blank device -/
theorem keep_start (la ns : Nat) : Keep Fl la ns m00.S (rsOf (fresh ns)) (gets (List.replicate ns 0)) := by
  have hz : ∀ i, gets (List.replicate ns 0) i = 0 := fun i => by
    unfold gets
    rw [List.getD_eq_getElem?_getD, List.getElem?_replicate]
    split <;> rfl
  refine ⟨fun i hi x hx => ?_, fun i hi => ⟨by rw [hz]; exact Nat.zero_le _, fun x hx => by rw [hz]; exact Nat.zero_le _⟩⟩
  rcases hx with h | h
  · exact .inl h
  · exact absurd h (by show ¬ x ∈ []; simp)
/-- a fill of any slot -/
theorem Keep.fillz (h : Keep Fl la ns m.S (rsOf L) ws) (hL : L.length = ns) (hF : hasZ L z → Fl z.toNat b g xs) (R : Int × List Slt × Vs) (hR : Sl.fill la z b g xs L m = R) :
    Keep Fl la ns R.2.2.S (rsOf R.2.1) (if R.1 = 0 then put ws z.toNat (wearZ R.2.1 z).toNat else ws) ∧ (R.1 = 0 → hasZ L z) := by
  subst hR
  unfold Sl.fill
  split
  · exact ⟨by rw [if_neg (show ¬ (3 : Int) = 0 by decide)]; exact h, fun e => absurd e (show ¬ (3 : Int) = 0 by decide)⟩
  rename_i hz0
  have hz : hasZ L z := Decidable.not_not.1 hz0
  split
  · exact ⟨by rw [if_neg (show ¬ (1 : Int) = 0 by decide)]; exact h, fun e => absurd e (show ¬ (1 : Int) = 0 by decide)⟩
  rename_i ho0
  have ho := Decidable.not_not.1 ho0
  split
  · exact ⟨by rw [if_neg (show ¬ (6 : Int) = 0 by decide)]; exact h, fun e => absurd e (show ¬ (6 : Int) = 0 by decide)⟩
  split
  · exact ⟨by rw [if_neg (show ¬ (5 : Int) = 0 by decide)]; exact h, fun e => absurd e (show ¬ (5 : Int) = 0 by decide)⟩
  rename_i hr
  have hi : z.toNat < L.length := by obtain ⟨a, b⟩ := hz; omega
  have hzz : ((z.toNat : Nat) : Int) = z := by have := hz.1; omega
  have er : rsOf L z.toNat = (at0 L z).r := by unfold rsOf; rw [hzz]
  have hlt := (at0 L z).r.toNat_lt
  have hlt2 : (at0 L z).r.toNat < 4294967296 := hlt
  have hk := h.fill (i := z.toNat) (by omega) (by rw [er]; omega) ho.2 (hF hz)
  rw [er] at hk
  dsimp only
  generalize fillS la z.toNat b g xs (at0 L z).r m = a at hk
  rw [rs_set hi]
  refine ⟨?_, fun _ => hz⟩
  have e : wearZ (L.set z.toNat ⟨(at0 L z).f, a.2.1⟩) z = a.2.1 := by
    have hz2 : hasZ (L.set z.toNat ⟨(at0 L z).f, a.2.1⟩) z := by
      show _ ∧ _
      rw [List.length_set]
      exact hz
    unfold wearZ
    rw [if_pos hz2]
    have := at0_set (L := L) (i := z.toNat) (j := z.toNat) (s := ⟨(at0 L z).f, a.2.1⟩) hi
    rw [hzz, if_pos rfl] at this
    rw [this]
  rw [e]
  exact hk
theorem crash_mays (S : Nat → Sec) (fs : List Int) (i : Nat) : Mays (S i) ((crashed n S fs).S i).stands := by
  have hl : ((crashed n S fs).S i).loose = [] := crashTo_loose _ _ _ _ _
  rw [Sec.stands_fixed hl]
  rcases crashTo_one (fun j => fitOf_good _ _ _ j) (fits n S fs).length i with e | ⟨j, hj, e⟩
  · exact .inl e
  · refine .inr ?_
    show (crashTo n S (fits n S fs) (fits n S fs).length i).fixed ∈ _
    unfold fits at e ⊢
    rw [e, List.getD_eq_getElem?_getD, List.getElem?_eq_getElem hj, Option.getD_some]
    exact List.getElem_mem hj
theorem rd1_still (ho : m.s.off = false) (hr : m.rd = 0) (i : Nat) : rd1 m i = (0, (m.S i).stands, m) := by
  have e : ({ m with rd := m.rd / 2 } : Vs) = m := by
    obtain ⟨s, S, r, w⟩ := m
    have hr : r = 0 := hr
    subst hr
    show Vs.mk s S (0 / 2) w = _
    rw [Nat.zero_div]
  unfold rd1
  rw [if_neg (by rw [ho]; decide), if_neg (by rw [hr]; decide), e]
/-- a read leaves all as it was, and where it tells an error there is no data -/
theorem readS_still (ho : m.s.off = false) (hr : m.rd = 0) : (readS la z b L m).2 = m ∧ ((readS la z b L m).1.2.2 ≠ 0 → (readS la z b L m).1.1 = []) := by
  unfold readS
  rw [rd1_still ho hr]
  dsimp only
  rw [rd1_still ho hr]
  dsimp only
  split
  · exact ⟨rfl, fun _ => rfl⟩
  rw [if_neg (show ¬ ((0 : Int) ≠ 0) from fun x => x rfl), if_neg (show ¬ ((0 : Int) ≠ 0) from fun x => x rfl)]
  split
  · exact ⟨rfl, fun _ => rfl⟩
  split
  · exact ⟨rfl, fun _ => rfl⟩
  · exact ⟨rfl, fun e => absurd rfl e⟩
theorem opn_still (ho : m.s.off = false) (hr : m.rd = 0) (la : Nat) : ∀ k i, (opn la k i m).2 = m ∧ ∀ j, j < k → (opn la k i m).1[j]? = some ⟨0, wornAt la (i + j) m⟩
  | 0, i => ⟨rfl, fun j h => absurd h (Nat.not_lt_zero _)⟩
  | k + 1, i => by
    have e : opn la (k + 1) i m = (⟨0, wornAt la i m⟩ :: (opn la k (i + 1) m).1, (opn la k (i + 1) m).2) := by
      show (⟨0, wornAt la i m⟩ :: (opn la k (i + 1) (rd1 m (la + 2 * i)).2.2).1, (opn la k (i + 1) (rd1 m (la + 2 * i)).2.2).2) = _
      rw [rd1_still ho hr]
    obtain ⟨h1, h2⟩ := opn_still ho hr la k (i + 1)
    rw [e]
    refine ⟨h1, fun j hj => ?_⟩
    cases j with
    | zero => rfl
    | succ j =>
      dsimp only
      rw [List.getElem?_cons_succ, h2 j (by omega), show i + 1 + j = i + (j + 1) by omega]
theorem Rotted.refl (S : Nat → Sec) : Rotted S S := fun _ => .inl rfl
/-- bits turned once more -/
theorem Rotted.step (h : Rotted S m.S) (hS : ∀ j, (S j).loose = []) (z bit : Int) (T : Nat) : Rotted S (rt1 n m z bit T).2.S ∧ (rt1 n m z bit T).2.s = m.s ∧ (rt1 n m z bit T).2.rd = m.rd := by
  unfold rt1
  split
  · exact ⟨h, rfl, rfl⟩
  rename_i h1
  split
  · exact ⟨h, rfl, rfl⟩
  rename_i h2
  split
  · exact ⟨h, rfl, rfl⟩
  rename_i h3
  refine ⟨fun j => ?_, rfl, rfl⟩
  dsimp only
  by_cases hj : j = z.toNat
  · subst hj
    rw [upd_same]
    rcases h z.toNat with e | ⟨hr, _⟩
    · refine .inr ⟨rfl, rfl, hS _, bit.toNat, T, ?_, ?_⟩
      · show rotTo m.S z.toNat bit T = _
        unfold rotTo
        rw [e, show ((bit.toNat : Nat) : Int) = bit by omega, tn_turned]
      · intro he
        apply h3
        unfold rotTo
        rw [e, tn_turned]
        rw [show ((bit.toNat : Nat) : Int) = bit by omega] at he
        exact he
    · exact absurd (.inl hr) h2
  · rw [upd_other _ _ hj]
    exact h j
end
end Go.Proofs.YtapklelkcicjlaaGreatDoor.Pd.Sl

/-! What the walk of the statement on slots behind a crash leans on: rows of the law's own, a pair whose device crashed, what was filled. No conditions. -/
namespace Go.Proofs.YtapklelkcicjlaaGreatDoor.Pd.Sl
set_option maxRecDepth 100000
open Go.RowKit Oc Dm W Dw Sr Gt W.Hd
set_option linter.unusedVariables false
set_option maxRecDepth 100000
attribute [local go_sem ↓] Go.wp_at_zero Go.wp_at_succ

theorem yields_at {P : Program} {ops : Array Oper} {S : World → Prop} {i : Nat} {is : List Nat} {K : Act → Prop} {a : Act} {o : Oper} (d : Tmp) (v : Value) (ho : ops[i]? = some o) (hd : o.dst = some d) (hg : Region.wanted o (yielded ops a.tmps) = true) (hv : ∀ w, S w → (execOp a.eval o).run P w = .ok (.value v) w)
    (h : Taken P ops S is K (a.put (some d) v)) : Taken P ops S (i :: is) K a :=
  ⟨o, v, ho, .inl ⟨hg, hv⟩, by rw [hd]; exact h⟩
theorem yields_out {P : Program} {ops : Array Oper} {S : World → Prop} {i : Nat} {is : List Nat} {K : Act → Prop} {a : Act} {o : Oper} (d : Tmp) (ho : ops[i]? = some o) (hd : o.dst = some d) (hg : Region.wanted o (yielded ops a.tmps) = false)
    (h : Taken P ops S is K (a.put (some d) undef)) : Taken P ops S (i :: is) K a :=
  ⟨o, undef, ho, .inr ⟨hg, rfl⟩, by rw [hd]; exact h⟩
/-- numbers in a row of the law's own, in a block b -/
structure Wr (w : World) (B : Nat) (Z : Nat → Prop) (b : Nat) (wl : List Nat) : Prop where
  own : Rw.OwnV w 30 B (.slice (some ⟨b, 0, none⟩) wl.length wl.length) (wl.map fun (x : Nat) => Value.int .u32 (x : Int))
  off : ¬ Z b
  lo : B ≤ b
section
variable {w0 w wa wb wc w' : World} {P n N pw D q E la ns B b pw' X fx mm r k c : Nat} {p : Pn.Pl} {T U A : Option Addr} {F G H1 H2 Z Z' : Nat → Prop} {m m1 m2 : Vs} {t1 t2 : Option (List Slt)} {wl : List Nat} {S : Nat → Sec} {L : Nat → ActV}
theorem Wr.lt (h : Wr w B Z b wl) : b < w.heap.size := (h.own.ge b rfl).2
theorem Wr.kp (h : Wr w B Z b wl) (kp : Kp w Z w' Z') : Wr w' B Z' b wl :=
  ⟨h.own.keep (fun g hg => by
    have hg : some b = some g := hg
    injection hg with hg
    subst hg
    exact (kp.at_ b h.lt h.off).1), (kp.at_ b h.lt h.off).2, h.lo⟩
theorem Wr.below (h : Wr w B Z b wl) (hb : Below w.heap.size w w') : Wr w' B Z b wl := ⟨h.own.below hb, h.off, h.lo⟩
theorem Wr.cell (h : Wr w B Z b wl) {i : Nat} (hi : i < wl.length) : w.cell? ⟨b, i, none⟩ = some (.int .u32 (gets wl i : Int)) ∧ w.frozen? ⟨b, i, none⟩ = false := by
  have hx : (wl.map fun (x : Nat) => Value.int .u32 (x : Int))[i]? = some (.int .u32 (gets wl i : Int)) := by
    unfold gets
    rw [List.getElem?_map, List.getD_eq_getElem?_getD, List.getElem?_eq_getElem hi]
    rfl
  exact h.own.cell (by rw [List.length_map]) hx
theorem Wr.put (h : Wr w B Z b wl) (i x : Nat) : Wr (w.setCell ⟨b, i, none⟩ (.int .u32 (x : Int))) B Z b (wl.set i x) ∧ w.grownBy (w.setCell ⟨b, i, none⟩ (.int .u32 (x : Int))) (some b) := by
  obtain ⟨h1, h2⟩ := h.own.set (j := i) (by rw [List.length_map]) (.int .u32 (x : Int))
  exact ⟨⟨by rw [List.length_set, List.map_set]; exact h1, h.off, h.lo⟩, h2⟩
/-- what turned is none of the pair's blocks -/
theorem Pr.out (h : Pr w0 P p n N pw D q E T U F G H1 H2 m1 m2 t1 t2 w) (hb : ¬ (Us F pw G q H1 H2 b ∨ b = P)) (hlo : w0.heap.size ≤ b) (hg : w.grownBy w' (some b)) : Pr w0 P p n N pw D q E T U F G H1 H2 m1 m2 t1 t2 w' := by
  have hc : Chg (fun k => k = b) w w' := Chg.of_grown hg (fun k e _ => by injection e with e; exact e.symm)
  refine ⟨h.pd.kept hc (fun k x e => hb (.inl (.inl (e ▸ x)))), h.rd.kept hc (fun k x e => hb (.inl (.inr (.inl (e ▸ x))))), h.tb1.kept hc (fun k x e => hb (.inl (.inr (.inr (.inl (e ▸ x)))))), h.tb2.kept hc (fun k x e => hb (.inl (.inr (.inr (.inr (e ▸ x)))))), ?_, h.bel.trans (hc.below h.bel.size (fun k hk x => by omega))⟩
  exact h.ap.turn (fun _ => 0) hc.size h.bel.size _ _ _ _ (fun b x => .inl x) (fun b x => .inl x) (fun b x => .inl x) (fun b x => .inl x)
/-- the program's device behind a crash, as a pair's -/
theorem Pr.born (h : Pr w0 P p n N pw D q E T U F G H1 H2 m1 m2 t1 t2 wc) (ha : Below wc.heap.size wc wa) (hp : Pw wa pw' ⟨false, none, 0⟩) (gp : wc.heap.size ≤ pw')
    (d : DvAt wb (Fresh wa wb) X pw' n N S 0 0 fx mm r (fun _ => none)) (b1 : Below wa.heap.size wa wb) : Pr w0 P p n N pw' X q E none U (Fresh wa wb) G none1 H2 ⟨⟨false, none, 0⟩, S, 0, 0⟩ m2 none t2 wb := by
  have lp := hp.lt
  have s0 := ha.size
  have s1 := b1.size
  have hba := bthen ha b1
  obtain ⟨o, o1, o2, o3, o4, o5⟩ := h.ap.col
  have lo2 : ∀ b, Al G q b → w0.heap.size ≤ b ∧ b < wc.heap.size := fun b x => h.ap.lo b (.inr (.inl x))
  have lo4 : ∀ b, H2 b → w0.heap.size ≤ b ∧ b < wc.heap.size := fun b x => h.ap.lo b (.inr (.inr (.inr (.inl x))))
  have hP := h.lt
  have s00 := h.bel.size
  refine ⟨⟨hp.heap (b1.block pw' lp), ⟨fx, mm, r, _, d⟩, fun x => by have := x.1; omega, Nat.zero_le _, h.pd.hN⟩, h.rd.below hba, rfl, h.tb2.kept (Chg.of_below (F := fun _ => False) hba) (fun _ _ x => x), ⟨⟨fun b => if b = pw' then 1 else if wa.heap.size ≤ b then 1 else o b, fun b x => ?_, fun b x => ?_, fun b x => x.elim, fun b x => ?_, ?_⟩, fun b x => ?_⟩, h.bel.trans (hba.mono s00)⟩
  · show (if b = pw' then 1 else if wa.heap.size ≤ b then 1 else o b) = 1
    rcases x with x | x
    · rw [if_pos x.1]; split <;> rfl
    · rw [if_pos x]
  · have := lo2 b x
    show (if b = pw' then 1 else if wa.heap.size ≤ b then 1 else o b) = 2
    rw [if_neg (by omega), if_neg (by omega)]
    exact o2 b x
  · have := lo4 b x
    show (if b = pw' then 1 else if wa.heap.size ≤ b then 1 else o b) = 4
    rw [if_neg (by omega), if_neg (by omega)]
    exact o4 b x
  · show (if P = pw' then 1 else if wa.heap.size ≤ P then 1 else o P) = 5
    rw [if_neg (by omega), if_neg (by omega)]
    exact o5
  · rcases x with (x | x) | x | x | x | x
    · have := x.1; have := x.2; omega
    · omega
    · have := lo2 b x; omega
    · exact x.elim
    · have := lo4 b x; omega
    · omega
set_option maxHeartbeats 8000000 in
/-- what was filled is found -/
theorem filled_yes (ha : Acts w A k L) (hk : k ≤ maxLen) {j : Nat} (hj : j < k) {z b : Int} {g : Nat} {xs : List UInt8} (e1 : (L j).slot = z) (e2 : (L j).lba = b) (e3 : (L j).gn = g) (e4 : List.replicate 64 (L j).fill = xs) :
    Calls Tryz.prog 25 #[.slice A k c, .int .i64 (k : Int), .int .i64 z, .int .i64 b, .int .u64 (g : Int), .string (bstr xs)] w fun e w' => e = .returned (.bool true) ∧ Below w.heap.size w w' := by
  have HA := Lib.hid ha
  have hk9 : (k : Int) ≤ 9223372036854775807 := by unfold maxLen at hk; omega
  have HJ : Hid (∀ i, i ≤ j → ((L i).slot = z → (L i).lba = b → (L i).gn = g → ¬ List.replicate 64 (L i).fill = xs) → i + 1 ≤ j) := fun i hi hne => by
    rcases Nat.lt_or_ge i j with h | h
    · exact h
    · have : i = j := by omega
      subst this
      exact absurd e4 (hne e1 e2 e3)
  clear ha e1 e2 e3 e4
  go_enter Tryz.func25, Tryz.ntmps25
  go_wp2
  go_loopw [13] (fun q13 wr => ∃ i : Nat, i ≤ j ∧ q13 = .int .i64 (i : Int) ∧ Hid (Below w.heap.size w wr)) (fun q13 _ => j - (intOf q13).toNat)
  case atStart => exact ⟨0, Nat.zero_le _, rfl, Below.refl _ _⟩
  case round =>
    obtain ⟨i, hi, rfl, BI⟩ := hrel
    have h1 : i < k := by omega
    have h1' : (i : Int) < (k : Int) := by omega
    obtain ⟨bb, off, rfl, hld, _⟩ := act_load HA.out h1
    have LD := Lib.hid (hld wr BI.out)
    have JJ := Lib.hid (HJ.out i hi)
    clear hld
    generalize L i = y at LD JJ
    obtain ⟨kind, sl, lb, gn, fi, sz, zn, bit, tn, u, v, ffa, ffl, ffc, ffs, hx⟩ := y
    have LD2 : Hid ((Instr.loadAt 34 (.pointer (some ⟨bb, off + i * 17, none⟩))).run Tryz.prog wr = .ok (.agg #[.int .i64 kind, .int .i64 sl, .int .i64 lb, .int .u64 (gn : Int), .int .u8 (fi.toNat : Int), .int .i64 sz, .int .i64 zn, .int .i64 bit, .int .u32 (tn : Int), .int .u64 (u : Int), .int .u64 (v : Int), .slice ffa ffl ffc, .bool hx.u, .int .i64 hx.l, .int .u64 (hx.g : Int), .int .u32 (hx.s.toNat : Int), .int .u32 (hx.r.toNat : Int)]) wr) := LD.out
    clear LD
    obtain ⟨bA, hbA⟩ : ∃ bA, bA = wr.heap.size := ⟨_, rfl⟩
    have HBA := Lib.hid hbA
    clear hbA
    go_upto_region 5 with ((with_reducible apply L_ld); exact rfl; exact LD2.out)
    have B4 : Hid (Below wr.heap.size wr (wr.alloc (.cells #[.int .i64 kind, .int .i64 sl, .int .i64 lb, .int .u64 (gn : Int), .int .u8 (fi.toNat : Int), .int .i64 sz, .int .i64 zn, .int .i64 bit, .int .u32 (tn : Int), .int .u64 (u : Int), .int .u64 (v : Int), .slice ffa ffl ffc, .bool hx.u, .int .i64 hx.l, .int .u64 (hx.g : Int), .int .u32 (hx.s.toNat : Int), .int .u32 (hx.r.toNat : Int)] 34))) := balloc _ _
    have H4' : Hid ((wr.alloc (.cells #[.int .i64 kind, .int .i64 sl, .int .i64 lb, .int .u64 (gn : Int), .int .u8 (fi.toNat : Int), .int .i64 sz, .int .i64 zn, .int .i64 bit, .int .u32 (tn : Int), .int .u64 (u : Int), .int .u64 (v : Int), .slice ffa ffl ffc, .bool hx.u, .int .i64 hx.l, .int .u64 (hx.g : Int), .int .u32 (hx.s.toNat : Int), .int .u32 (hx.r.toNat : Int)] 34)).heap[bA]? = some (.cells #[.int .i64 kind, .int .i64 sl, .int .i64 lb, .int .u64 (gn : Int), .int .u8 (fi.toNat : Int), .int .i64 sz, .int .i64 zn, .int .i64 bit, .int .u32 (tn : Int), .int .u64 (u : Int), .int .u64 (v : Int), .slice ffa ffl ffc, .bool hx.u, .int .i64 hx.l, .int .u64 (hx.g : Int), .int .u32 (hx.s.toNat : Int), .int .u32 (hx.r.toNat : Int)] 34 (0, 0))) := by show _ = _; rw [HBA.out]; exact heap_alloc_new _ _
    rw [← HBA.out]
    generalize wr.alloc (.cells #[.int .i64 kind, .int .i64 sl, .int .i64 lb, .int .u64 (gn : Int), .int .u8 (fi.toNat : Int), .int .i64 sz, .int .i64 zn, .int .i64 bit, .int .u32 (tn : Int), .int .u64 (u : Int), .int .u64 (v : Int), .slice ffa ffl ffc, .bool hx.u, .int .i64 hx.l, .int .u64 (hx.g : Int), .int .u32 (hx.s.toNat : Int), .int .u32 (hx.r.toNat : Int)] 34) = w4 at B4 H4' ⊢
    have BI4 := Lib.hid (bthen BI.out B4.out)
    have a1 : w4.cell? ⟨bA, 1, none⟩ = some (.int .i64 sl) := cell_of_row _ _ 1 _ _ _ H4'.out
    have a2 : w4.cell? ⟨bA, 2, none⟩ = some (.int .i64 lb) := cell_of_row _ _ 2 _ _ _ H4'.out
    have a3 : w4.cell? ⟨bA, 3, none⟩ = some (.int .u64 (gn : Int)) := cell_of_row _ _ 3 _ _ _ H4'.out
    have a4 : w4.cell? ⟨bA, 4, none⟩ = some (.int .u8 (fi.toNat : Int)) := cell_of_row _ _ 4 _ _ _ H4'.out
    clear H4' B4 HBA LD2 BI
    by_cases c1 : sl = z
    · by_cases c2 : lb = b
      · by_cases c3 : gn = g
        · subst c1 c2 c3
          have KA : Hid (∀ y, Calls Tryz.prog 13 #[.int .u8 (fi.toNat : Int), .int .i64 0] y fun e y' => ∃ b, e = .returned (.slice (some ⟨b, 0, none⟩) 64 64) ∧ Oct y' (some ⟨b, 0, none⟩) 64 (List.replicate 64 fi) ∧ Below y.heap.size y y') := fun y => (fill_sec y fi).mono fun e w' ⟨b, e1, _, e3, e4⟩ => ⟨b, e1, e3, e4⟩
          have JJ2 : Hid (¬ List.replicate 64 fi = xs → i + 1 ≤ j) := fun hn => JJ.out (fun _ _ _ => hn)
          clear JJ
          generalize List.replicate 64 fi = ys at KA JJ2
          go_wp2_with fail
          refine (KA.out _).mono ?_; rintro e w5 ⟨b5, rfl, o5, b2⟩
          have BI5 := Lib.hid (bthen BI4.out b2)
          have cv := o5.conv Dm.bt Tryz.underlying9 64
          clear b2 a1 a2 a3 a4
          by_cases c4 : ys = xs
          · subst c4
            clear JJ2
            go_wp2
            go_ret
            exact ⟨by simp, BI5.out⟩
          · have h4 := bstr_eq ys xs false (by simpa using c4)
            have hj2 := JJ2.out c4
            clear c4 JJ2
            go_wp2
            go_roundw
            case rel => exact ⟨i + 1, hj2, by go_num, BI5⟩
            case measure => simp [intOf]; omega
        · have c3' : ¬ (gn : Int) = (g : Int) := by omega
          have hj2 := JJ.out (fun _ _ x => absurd x c3)
          subst c1 c2
          clear JJ
          go_wp2
          go_roundw
          case rel => exact ⟨i + 1, hj2, by go_num, BI4⟩
          case measure => simp [intOf]; omega
      · have hj2 := JJ.out (fun _ x => absurd x c2)
        subst c1
        clear JJ
        go_wp2
        go_roundw
        case rel => exact ⟨i + 1, hj2, by go_num, BI4⟩
        case measure => simp [intOf]; omega
    · have hj2 := JJ.out (fun x => absurd x c1)
      clear JJ
      go_wp2
      go_roundw
      case rel => exact ⟨i + 1, hj2, by go_num, BI4⟩
      case measure => simp [intOf]; omega
end
end Go.Proofs.YtapklelkcicjlaaGreatDoor.Pd.Sl
