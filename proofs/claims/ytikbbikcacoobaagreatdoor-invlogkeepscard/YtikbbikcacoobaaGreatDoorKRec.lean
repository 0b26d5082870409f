/-
  Elder texts, one behind the other: RcTake, RcNum, RcMem, RcMay, RcPut, RcRead, RcGet. No conditions.
-/
import Derived.Test.YtikbbikcacoobaaGreatDoorKOct
import Derived.Test.YtikbbikcacoobaaGreatDoorKPage
import Derived.Laws.Tables
import Derived.Laws.ResultCell
import Derived.Laws.Rows
import Derived.Deep.CutRange
import Derived.Deep.CutBlock
import Derived.Test.YtikbbikcacoobaaGreatDoorKRow
/-! The contract of Reader.Bytes where there are as many. No conditions. -/
namespace Go.Proofs.YtikbbikcacoobaaGreatDoor.W
set_option maxRecDepth 100000
open Go.RowKit Oc
set_option linter.unusedVariables false

/-- what Bytes leaves where there are as many -/
def Got (w : World) (R : Nat) (ys xs : List UInt8) (e : Ending) (w' : World) : Prop :=
  ∃ v, e = .returned v ∧ Own w' 5 w.heap.size v ys ∧ Rd w' 195 R xs true ∧ w.grownBy w' (some R)

theorem own_set {w w' : World} {e : TypeId} {B R : Nat} {v : Value} {xs : List UInt8} (h : Own w e B v xs) (hR : R < B) (hg : w.grownBy w' (some R)) : Own w' e B v xs :=
  h.keep fun g hg' => hg.block g (h.ge g hg').2 (fun e => by injection e with e; have := (h.ge g hg').1; omega)

theorem got {w w1 : World} {R : Nat} {xs ys : List UInt8} {v : Value} {u : Value} (hR : R < w.heap.size) (ho : Own w1 5 w.heap.size v ys) (hb : Below w.heap.size w w1)
    (h : Rd (w1.setCell ⟨R, 0, none⟩ u) 195 R xs true ∧ w1.grownBy (w1.setCell ⟨R, 0, none⟩ u) (some R)) : Got w R ys xs (.returned v) (w1.setCell ⟨R, 0, none⟩ u) :=
  ⟨v, rfl, own_set ho hR h.2, h.1, grown_trans (grown_of_below hb _) h.2⟩

set_option maxHeartbeats 1000000 in
theorem bytes_take {w : World} {R : Nat} {xs : List UInt8} (k : Nat) (h : Rd w 195 R xs true) (hn : xs.length ≤ 1000000000) (hk : k ≤ xs.length) :
    Calls Tryz.prog 133 #[.pointer (some ⟨R, 0, none⟩), .int .i64 (k : Int)] w (Got w R (xs.take k) (xs.drop k)) := by
  have H := Lib.hid h
  have hR := h.lt
  obtain ⟨A, c, hh, hc, ho⟩ := h
  have HO := Lib.hid ho
  obtain ⟨c0, c1, f0, f1⟩ := pair_cell hh
  have HH := Lib.hid hh
  clear hh f0 f1 c1 ho
  go_enter Tryz.func133, Tryz.ntmps133
  go_wp2_with fail
  refine (bad_rd H.out).mono ?_; rintro e w' ⟨rfl, rfl⟩
  go_wp2_with (at_builtin; refine wpList_append_to (w0 := w) rfl _ _ 88 rfl bt rfl (Own.nil _ _ _) (Below.refl _ _) _ rfl (HO.out.take hk) (by simp; omega) ?_; intro v1 w1 o1 b1; obtain ⟨d0, d1, g0, g1⟩ := pair_cell ((b1.block R hR).trans HH.out); rw [List.nil_append] at o1; obtain ⟨A1, c1, rfl, l1, s1⟩ := o1.form (n := k) (by rw [List.length_take]; omega); have S1 := Lib.hid s1; have O1 := Lib.hid o1; have B1 := Lib.hid b1; clear o1 b1 s1 d1 g1)
  all_goals (go_ret; first | exact got hR O1.out B1.out (rd_cut ((B1.out.block R hR).trans HH.out) (HO.out.below B1.out) hc hk) | exact got hR O1.out B1.out (rd_cut_end ((B1.out.block R hR).trans HH.out) hc hk ‹_›))
end Go.Proofs.YtikbbikcacoobaaGreatDoor.W

/-! Records: plain facts on which octets are one. No conditions. -/
namespace Go.Proofs.YtikbbikcacoobaaGreatDoor.W
set_option maxRecDepth 100000
open Go.RowKit Oc
set_option linter.unusedVariables false

/-- a record: its number, its epoch, its extent, its generation, its blocks -/
structure Rc where
  q : Nat
  h : Nat
  x : Int
  g : Nat
  m : UInt8
/-- the record of zeros -/
def zr : Rc := ⟨0, 0, 0, 0, 0⟩
abbrev isS (n : Nat) : Prop := n ≤ 4611686018427387904
abbrev isG (n : Nat) : Prop := 1 ≤ n ∧ n ≤ 4611686018427387904
/-- may a record be? -/
def MayBe (p : Rc) : Prop := isS p.q ∧ isS p.h ∧ (0 ≤ p.x ∧ p.x < 65536) ∧ isG p.g ∧ 0 < p.m.toNat
/-- a record's payload -/
def pay (p : Rc) : List UInt8 := octs p.q 8 ++ octs p.h 8 ++ octs p.x.toNat 2 ++ octs p.g 8 ++ octs p.m.toNat 1
theorem pay_length (p : Rc) : (pay p).length = 27 := by simp [pay, octs_length]
/-- what stands in a payload -/
def dec (ps : List UInt8) : Rc := ⟨num (ps.take 8), num ((ps.drop 8).take 8), (num ((ps.drop 16).take 2) : Int), num ((ps.drop 18).take 8), UInt8.ofNat (num ((ps.drop 26).take 1))⟩
theorem octs_num (xs : List UInt8) : octs (num xs) xs.length = xs := by
  induction xs with
  | nil => rfl
  | cons x xs ih =>
    have hx := x.toNat_lt
    show UInt8.ofNat (x.toNat + 256 * num xs) :: octs ((x.toNat + 256 * num xs) / 256) xs.length = x :: xs
    rw [show (x.toNat + 256 * num xs) / 256 = num xs by omega, ih]
    congr 1
    apply UInt8.toNat_inj.1
    simp
theorem octs_num' {xs : List UInt8} {k : Nat} (h : xs.length = k) : octs (num xs) k = xs := by subst h; exact octs_num xs
theorem num_lt_of {xs : List UInt8} {k : Nat} (h : xs.length = k) : num xs < 256 ^ k := by subst h; exact num_lt xs
theorem take_cut (xs : List UInt8) (a b : Nat) : xs.take a ++ (xs.drop a).take b = xs.take (a + b) := by rw [List.take_add]
theorem pay_dec {ps : List UInt8} (h : ps.length = 58) : pay (dec ps) = ps.take 27 := by
  have h5 : (UInt8.ofNat (num ((ps.drop 26).take 1))).toNat = num ((ps.drop 26).take 1) := by
    have h6 := num_lt_of (xs := (ps.drop 26).take 1) (k := 1) (by simp [h])
    simp
    omega
  unfold pay dec
  dsimp only
  rw [h5, octs_num' (by simp [h]), octs_num' (by simp [h]), Int.toNat_natCast, octs_num' (by simp [h]), octs_num' (by simp [h]), octs_num' (by simp [h])]
  rw [take_cut, take_cut, take_cut, take_cut]
theorem num_eight {n : Nat} (h : isS n) : num (octs n 8) = n := by rw [num_octs]; exact Nat.mod_eq_of_lt (by unfold isS at h; omega)
/-- what is put is got -/
theorem dec_pay {p : Rc} (h : MayBe p) (zs : List UInt8) : dec (pay p ++ zs) = p := by
  obtain ⟨q, e, x, g, m⟩ := p
  obtain ⟨h1, h2, ⟨h3, h4⟩, h5, h6⟩ := h
  dsimp only at h1 h2 h3 h4 h5 h6
  have l1 := octs_length q 8
  have l2 := octs_length e 8
  have l3 := octs_length x.toNat 2
  have l4 := octs_length g 8
  have l5 := octs_length m.toNat 1
  have hm := m.toNat_lt
  unfold dec pay
  dsimp only
  have e1 : (octs q 8 ++ octs e 8 ++ octs x.toNat 2 ++ octs g 8 ++ octs m.toNat 1 ++ zs).take 8 = octs q 8 := by
    simp only [List.append_assoc]
    rw [List.take_append_of_le_length (by omega), List.take_of_length_le (by omega)]
  have e2 : ((octs q 8 ++ octs e 8 ++ octs x.toNat 2 ++ octs g 8 ++ octs m.toNat 1 ++ zs).drop 8).take 8 = octs e 8 := by
    simp only [List.append_assoc]
    rw [List.drop_left' l1, List.take_append_of_le_length (by omega), List.take_of_length_le (by omega)]
  have e3 : ((octs q 8 ++ octs e 8 ++ octs x.toNat 2 ++ octs g 8 ++ octs m.toNat 1 ++ zs).drop 16).take 2 = octs x.toNat 2 := by
    rw [show 16 = 8 + 8 from rfl, ← List.drop_drop]
    simp only [List.append_assoc]
    rw [List.drop_left' l1, List.drop_left' l2, List.take_append_of_le_length (by omega), List.take_of_length_le (by omega)]
  have e4 : ((octs q 8 ++ octs e 8 ++ octs x.toNat 2 ++ octs g 8 ++ octs m.toNat 1 ++ zs).drop 18).take 8 = octs g 8 := by
    rw [show 18 = 8 + 8 + 2 from rfl, ← List.drop_drop, ← List.drop_drop]
    simp only [List.append_assoc]
    rw [List.drop_left' l1, List.drop_left' l2, List.drop_left' l3, List.take_append_of_le_length (by omega), List.take_of_length_le (by omega)]
  have e5 : ((octs q 8 ++ octs e 8 ++ octs x.toNat 2 ++ octs g 8 ++ octs m.toNat 1 ++ zs).drop 26).take 1 = octs m.toNat 1 := by
    rw [show 26 = 8 + 8 + 2 + 8 from rfl, ← List.drop_drop, ← List.drop_drop, ← List.drop_drop]
    simp only [List.append_assoc]
    rw [List.drop_left' l1, List.drop_left' l2, List.drop_left' l3, List.drop_left' l4, List.take_append_of_le_length (by omega), List.take_of_length_le (by omega)]
  rw [e1, e2, e3, e4, e5, num_eight h1, num_eight h2, num_eight h5.2]
  have e6 : num (octs x.toNat 2) = x.toNat := by rw [num_octs]; exact Nat.mod_eq_of_lt (by omega)
  have e7 : num (octs m.toNat 1) = m.toNat := by rw [num_octs]; exact Nat.mod_eq_of_lt (by omega)
  rw [e6, e7]
  congr 1
  · omega
  · exact UInt8.ofNat_toNat

theorem r2 : Right ((2 : Nat) : Int) := by unfold Right; omega
/-- a record's sector -/
def sect (p : Rc) : List UInt8 := sealed (body 2 (pay p))
theorem pay_fits (p : Rc) : (pay p).length ≤ 58 := by rw [pay_length]; omega
theorem sect_length (p : Rc) : (sect p).length = 64 := (page_facts (k := 2) r2 (pay_fits p)).1
theorem sect_get (p : Rc) : getE (sect p) 2 = 0 := page_get (k := 2) r2 (pay_fits p)
theorem sect_got (p : Rc) : getL (sect p) 2 = pay p ++ List.replicate 31 0 := by
  have h := page_got (k := 2) r2 (ps := pay p) (pay_fits p)
  rw [pay_length] at h
  exact h
theorem get58 {ys : List UInt8} {k : Int} (h : getE ys k = 0) : (getL ys k).length = 58 := by
  obtain ⟨h1, h2, _⟩ := getE_zero h
  rw [getL_ok h, List.length_drop, openL_length h1 h2]
/-- a page's octets, out of its payload -/
theorem page_back {ys : List UInt8} (h : getE ys 2 = 0) : ys = sealed (213 :: 2 :: getL ys 2) := by
  obtain ⟨h1, h2, h3, h4⟩ := getE_zero h
  have hb := openL_length h1 h2
  have hs : ys = sealed (openL ys) := by
    have h5 := openL_yes h2
    have h6 : num (ys.drop (ys.length - 4)) = sum (ys.take (ys.length - 4)) := by
      unfold openE at h2
      rw [if_neg (by omega)] at h2
      by_cases h7 : num (ys.drop (ys.length - 4)) = sum (ys.take (ys.length - 4))
      · exact h7
      · rw [if_neg h7] at h2; cases h2
    unfold sealed
    rw [h5, ← h6, octs_num' (by rw [List.length_drop]; omega), List.take_append_drop]
  have hk : kindV ((openL ys).getD 0 0) ((openL ys).getD 1 0) = 2 := by
    have h5 : kindL (openL ys) = 2 := by omega
    exact h5
  have h8 := (kindV_is (x := (openL ys).getD 0 0) (y := (openL ys).getD 1 0) (k := 2) r2).1 (by rw [hk]; rfl)
  rw [getL_ok h]
  obtain ⟨bs, hbs⟩ : ∃ bs, openL ys = bs := ⟨_, rfl⟩
  rw [hbs] at hs hb h8 ⊢
  match bs, hb with
  | a :: b :: r, _ =>
    simp at h8
    obtain ⟨h9, h10⟩ := h8
    have h11 : b = 2 := UInt8.toNat_inj.1 (by have e2 : (2 : UInt8).toNat = 2 := rfl
                                              omega)
    subst h9 h11
    exact hs
/-- it is the sector of what stands there, just if the rest is blank -/
theorem sect_dec {ys : List UInt8} (h : getE ys 2 = 0) (hb : blank ((getL ys 2).drop 27) = true) : sect (dec (getL ys 2)) = ys := by
  have hl := get58 h
  have e := (blank_iff _).1 hb
  rw [List.length_drop, hl] at e
  have h2 := page_back h
  obtain ⟨ps, hps⟩ : ∃ ps, getL ys 2 = ps := ⟨_, rfl⟩
  rw [hps] at hl e h2 ⊢
  unfold sect body
  rw [pay_length, pay_dec hl, h2]
  congr 1
  show 213 :: 2 :: (ps.take 27 ++ List.replicate (58 - 27) 0) = 213 :: 2 :: ps
  rw [← e, List.take_append_drop]
theorem dec_sect {ys : List UInt8} (h : sect (dec (getL ys 2)) = ys) : blank ((getL ys 2).drop 27) = true := by
  have h2 := sect_got (dec (getL ys 2))
  rw [h] at h2
  rw [h2, List.drop_left' (pay_length _)]
  exact blank_zeros 31

/-- what a call that gets a record tells of a sector: the record, and the error -/
def GWay (ys : List UInt8) (p : Rc) (E : Int) : Prop :=
  (getE ys 2 ≠ 0 ∧ E = getE ys 2 ∧ p = zr) ∨ (getE ys 2 = 0 ∧ E = 31 ∧ p = zr ∧ ¬ MayBe (dec (getL ys 2))) ∨ (getE ys 2 = 0 ∧ E = 31 ∧ p = zr ∧ MayBe (dec (getL ys 2)) ∧ blank ((getL ys 2).drop 27) = false) ∨
    (getE ys 2 = 0 ∧ E = 0 ∧ p = dec (getL ys 2) ∧ MayBe p ∧ blank ((getL ys 2).drop 27) = true)
theorem gway_some (ys : List UInt8) : ∃ p E, GWay ys p E := by
  by_cases h : getE ys 2 = 0
  · by_cases h2 : MayBe (dec (getL ys 2))
    · cases hb : blank ((getL ys 2).drop 27)
      · exact ⟨zr, 31, .inr (.inr (.inl ⟨h, rfl, rfl, h2, hb⟩))⟩
      · exact ⟨_, 0, .inr (.inr (.inr ⟨h, rfl, rfl, h2, hb⟩))⟩
    · exact ⟨zr, 31, .inr (.inl ⟨h, rfl, rfl, h2⟩)⟩
  · exact ⟨zr, _, .inl ⟨h, rfl, rfl⟩⟩
theorem gway_facts {ys : List UInt8} {p : Rc} {E : Int} (h : GWay ys p E) : (E ≠ 0 ∧ p = zr) ∨ (E = 0 ∧ MayBe p ∧ sect p = ys) := by
  rcases h with ⟨h1, h2, h3⟩ | ⟨h1, h2, h3, _⟩ | ⟨h1, h2, h3, _⟩ | ⟨h1, h2, h3, h4, h5⟩
  · exact .inl ⟨by rw [h2]; exact h1, h3⟩
  · exact .inl ⟨by rw [h2]; decide, h3⟩
  · exact .inl ⟨by rw [h2]; decide, h3⟩
  · exact .inr ⟨h2, h4, by rw [h3]; exact sect_dec h1 h5⟩
theorem way_own {p : Rc} (h : MayBe p) : GWay (sect p) p 0 := by
  refine .inr (.inr (.inr ⟨sect_get p, rfl, ?_, h, ?_⟩))
  · rw [sect_got, dec_pay h]
  · rw [sect_got, List.drop_left' (pay_length p)]
    exact blank_zeros 31
theorem way_rot (p : Rc) (at_ T : Nat) (h : ¬ sect p = turned (sect p) at_ T 32) : GWay (turned (sect p) at_ T 32) zr 40 := by
  have h1 := (page_rots (k := 2) (ps := pay p) (pay_fits p) at_ T h 2).1
  exact .inl ⟨by rw [sect, h1]; decide, by rw [sect, h1], rfl⟩
end Go.Proofs.YtikbbikcacoobaaGreatDoor.W

/-! Records in memory: loads and stores of a whole record; contracts of few, mayBe and of the reference's May. No conditions. -/
namespace Go.Proofs.YtikbbikcacoobaaGreatDoor.W
set_option maxRecDepth 100000
open Go.RowKit Oc
set_option linter.unusedVariables false

/-- a record as cells -/
def rc (p : Rc) : Array Value := #[.int .u64 (p.q : Int), .int .u64 (p.h : Int), .int .i64 p.x, .int .u64 (p.g : Int), .int .u8 (p.m.toNat : Int)]
theorem info_rc : (Tryz.prog.info? 31).map (·.size) = some 5 := by kernel_rfl
/-- a store of a whole struct -/
theorem L_storeRow {ops : Array Oper} {rest : List Oper} {a : Act} {w : World} {Q : Exit → Act → World → Prop} {dst : Option Tmp} {ty : TypeId} {pos : String} {af : Array Edge} {x y : Operand} {g N : Nat} {T t : TypeId} {cs old : Array Value}
    (hi : (Tryz.prog.info? T).map (·.size) = some N) (hx : a.eval x = .pointer (some ⟨g, 0, none⟩)) (hy : a.eval y = .agg cs) (hg : w.heap[g]? = some (.cells old t (0, 0))) (ho : old.size = N) (hc : cs.size = N) (h1 : cs.all (·.oneCell') = true)
    (hK : ∀ w', w'.heap[g]? = some (.cells cs t (0, 0)) → w.grownBy w' (some g) → wpList Tryz.prog ops Q rest (a.put dst undef) w') : wpList Tryz.prog ops Q (⟨dst, .store T x y, ty, pos, af, none⟩ :: rest) a w :=
  wpList_store_row rfl T x y rfl g cs hx hy t old hg (by rw [hi, hc]) (by omega) h1
    (hK _ (setRow_heap w g old _ t _ hg) ⟨rfl, rfl, rfl, by simp, fun k _ hk => setRow_other w g k _ (fun e => hk (by rw [e]))⟩)
/-- a load of a whole record -/
theorem L_loadRc {ops : Array Oper} {rest : List Oper} {a : Act} {w : World} {Q : Exit → Act → World → Prop} {dst : Option Tmp} {ty : TypeId} {pos : String} {af : Array Edge} {x : Operand} {g : Nat} {t : TypeId} {cs : Array Value}
    (hx : a.eval x = .pointer (some ⟨g, 0, none⟩)) (hg : w.heap[g]? = some (.cells cs t (0, 0))) (hc : cs.size = 5)
    (hK : wpList Tryz.prog ops Q rest (a.put dst (.agg cs)) w) : wpList Tryz.prog ops Q (⟨dst, .load 31 x, ty, pos, af, none⟩ :: rest) a w :=
  wpList_load_row rfl 31 x rfl g hx t cs (0, 0) _ hg Tryz.underlying31 rfl (by rw [hc]; exact info_rc) hK
theorem below_up {w0 w w' : World} {B : Nat} (h : Below w0.heap.size w0 w) (hg : w.grownBy w' (some B)) (hB : w0.heap.size ≤ B) : Below w0.heap.size w0 w' := h.grown hg h.size fun g e => by injection e with e; omega
/-- a block that another's change leaves -/
theorem kept_by {w w' : World} {R B : Nat} {o : Obj} (h : w.heap[B]? = some o) (hg : w.grownBy w' (some R)) (hne : B ≠ R) : w'.heap[B]? = some o :=
  (hg.block B (Array.getElem?_eq_some_iff.1 h).1 (fun e => by injection e with e; exact hne e)).trans h
theorem kept_below {w w' : World} {B : Nat} {o : Obj} (h : w.heap[B]? = some o) (hb : Below w.heap.size w w') : w'.heap[B]? = some o := (hb.block B (Array.getElem?_eq_some_iff.1 h).1).trans h
theorem rc_new (w : World) : (w.alloc (.cells #[.int .u64 0, .int .u64 0, .int .i64 0, .int .u64 0, .int .u8 0] 31)).heap[w.heap.size]? = some (.cells #[.int .u64 0, .int .u64 0, .int .i64 0, .int .u64 0, .int .u8 0] 31 (0, 0)) := heap_alloc_new w _
/-- a record's cells, one by one -/
theorem rc_cells {w : World} {B : Nat} {p : Rc} {T : TypeId} (h : w.heap[B]? = some (.cells #[.int .u64 (p.q : Int), .int .u64 (p.h : Int), .int .i64 p.x, .int .u64 (p.g : Int), .int .u8 (p.m.toNat : Int)] T (0, 0))) : w.cell? ⟨B, 0, none⟩ = some (.int .u64 (p.q : Int)) ∧ w.cell? ⟨B, 1, none⟩ = some (.int .u64 (p.h : Int)) ∧ w.cell? ⟨B, 2, none⟩ = some (.int .i64 p.x) ∧ w.cell? ⟨B, 3, none⟩ = some (.int .u64 (p.g : Int)) ∧ w.cell? ⟨B, 4, none⟩ = some (.int .u8 (p.m.toNat : Int)) := by
  refine ⟨?_, ?_, ?_, ?_, ?_⟩ <;> (rw [cell_of_row _ _ _ _ _ _ h]; rfl)
/-- a struct and a number come back -/
theorem results_cell_tmp_row {fn : Func} {p u : Tmp} {ty : TypeId} (h : fn.results = #[.cell p ty, .tmp u]) (tmps : Array Value) (w : World) (g : Nat) (cs : Array Value)
    (hp : tmps.getD p undef = .pointer (some ⟨g, 0, none⟩)) (hl : (loadVar ty ⟨g, 0, none⟩).run Tryz.prog w = .ok (.agg cs) w) :
    (results fn tmps).run Tryz.prog w = .ok (.tuple #[.agg cs, tmps.getD u undef]) w := by
  rw [results_cell_tmp h, hp]
  simp [asAddr, hl, Result.andThen]

theorem follows_any (p : Rc) (q h : Nat) (b : Bool) (w : World) (hb : b = (decide (p.q = q) && decide (h ≤ p.h))) :
    Calls Tryz.prog 88 #[(.agg #[.int .u64 (p.q : Int), .int .u64 (p.h : Int), .int .i64 p.x, .int .u64 (p.g : Int), .int .u8 (p.m.toNat : Int)]), .int .u64 (q : Int), .int .u64 (h : Int)] w fun e w' => e = .returned (.bool b) ∧ Below w.heap.size w w' := by
  obtain ⟨pq, ph, px, pg, pm⟩ := p
  dsimp only at hb ⊢
  by_cases h1 : pq = q
  · by_cases h2 : h ≤ ph
    · have hf : b = true := by rw [hb]; simp [h1, h2]
      subst hf h1
      have hd : decide ((ph : Int) ≥ (h : Int)) = true := by simp; omega
      clear hb
      go_enter Tryz.func88, Tryz.ntmps88
      go_wp2
      go_ret
      exact ⟨rfl, balloc _ _⟩
    · have hf : b = false := by rw [hb]; simp [h2]
      subst hf h1
      clear hb
      go_enter Tryz.func88, Tryz.ntmps88
      go_wp2
      go_ret
      exact ⟨rfl, balloc _ _⟩
  · have hf : b = false := by rw [hb]; simp [h1]
    subst hf
    clear hb
    go_enter Tryz.func88, Tryz.ntmps88
    go_wp2
    go_ret
    exact ⟨rfl, balloc _ _⟩
end Go.Proofs.YtikbbikcacoobaaGreatDoor.W

/-! Contracts of mayBe and of the reference's May. No conditions. -/
namespace Go.Proofs.YtikbbikcacoobaaGreatDoor.W
set_option maxRecDepth 100000
open Go.RowKit Oc
set_option linter.unusedVariables false

theorem bool_of {b : Bool} {P : Prop} (h : b = true ↔ P) (hp : P) : (.returned (.bool true) : Ending) = .returned (.bool b) := by rw [h.2 hp]
theorem bool_not {b : Bool} {P : Prop} (h : b = true ↔ P) (hp : ¬ P) : (.returned (.bool false) : Ending) = .returned (.bool b) := by
  cases b
  · rfl
  · exact absurd (h.1 rfl) hp

set_option maxHeartbeats 1000000 in
theorem maybe_any (p : Rc) (b : Bool) (w : World) (hb : b = true ↔ MayBe p) : Calls Tryz.prog 94 #[(.agg #[.int .u64 (p.q : Int), .int .u64 (p.h : Int), .int .i64 p.x, .int .u64 (p.g : Int), .int .u8 (p.m.toNat : Int)])] w fun e w' => e = .returned (.bool b) ∧ Below w.heap.size w w' := by
  obtain ⟨q, h, x, g, m⟩ := p
  have hm := m.toNat_lt
  obtain ⟨M, hM⟩ : ∃ M : Int, (m.toNat : Int) = M := ⟨_, rfl⟩
  obtain ⟨A1, h1⟩ : ∃ A : Int, (if (4611686018427387904 : Int) < (q : Int) then (4611686018427387904 : Int) else (q : Int)) = A := ⟨_, rfl⟩
  obtain ⟨A2, h2⟩ : ∃ A : Int, (if (4611686018427387904 : Int) < (h : Int) then (4611686018427387904 : Int) else (h : Int)) = A := ⟨_, rfl⟩
  obtain ⟨B, h3⟩ : ∃ A : Int, (if x < 0 then (0 : Int) else x) = A := ⟨_, rfl⟩
  obtain ⟨A3, h4⟩ : ∃ A : Int, (if (65535 : Int) < B then (65535 : Int) else B) = A := ⟨_, rfl⟩
  obtain ⟨G, h5⟩ : ∃ A : Int, (if (g : Int) < 1 then (1 : Int) else (g : Int)) = A := ⟨_, rfl⟩
  obtain ⟨A4, h6⟩ : ∃ A : Int, (if (4611686018427387904 : Int) < G then (4611686018427387904 : Int) else G) = A := ⟨_, rfl⟩
  obtain ⟨A5, h7⟩ : ∃ A : Int, (if M < 1 then (1 : Int) else M) = A := ⟨_, rfl⟩
  have e1 : ((q : Int) = A1) ↔ isS q := by rw [← h1]; unfold isS; split <;> omega
  have e2 : ((h : Int) = A2) ↔ isS h := by rw [← h2]; unfold isS; split <;> omega
  have e3 : (x = A3) ↔ (0 ≤ x ∧ x < 65536) := by rw [← h4, ← h3]; split <;> split <;> omega
  have e4 : ((g : Int) = A4) ↔ isG g := by rw [← h6, ← h5]; unfold isG; split <;> split <;> omega
  have e5 : (M = A5) ↔ 0 < m.toNat := by rw [← h7]; split <;> omega
  have E1 := Lib.hid e1
  have E2 := Lib.hid e2
  have E3 := Lib.hid e3
  have E4 := Lib.hid e4
  have E5 := Lib.hid e5
  have HB := Lib.hid hb
  clear e1 e2 e3 e4 e5 hb
  dsimp only
  rw [hM]
  go_enter Tryz.func94, Tryz.ntmps94
  go_wp2
  all_goals go_ret
  all_goals refine ⟨?_, balloc _ _⟩
  all_goals first
    | exact bool_of HB.out ⟨E1.out.1 (by assumption), E2.out.1 (by assumption), E3.out.1 (by assumption), E4.out.1 (by assumption), E5.out.1 (by assumption)⟩
    | exact bool_not HB.out fun k => by first | exact absurd (E1.out.2 k.1) (by assumption) | exact absurd (E2.out.2 k.2.1) (by assumption) | exact absurd (E3.out.2 k.2.2.1) (by assumption) | exact absurd (E4.out.2 k.2.2.2.1) (by assumption) | exact absurd (E5.out.2 k.2.2.2.2) (by assumption)

set_option maxHeartbeats 1000000 in
theorem rmay_any (p : Rc) (b : Bool) (w : World) (hb : b = true ↔ MayBe p) : Calls Tryz.prog 68 #[(.agg #[.int .u64 (p.q : Int), .int .u64 (p.h : Int), .int .i64 p.x, .int .u64 (p.g : Int), .int .u8 (p.m.toNat : Int)])] w fun e w' => e = .returned (.bool b) ∧ Below w.heap.size w w' := by
  obtain ⟨q, h, x, g, m⟩ := p
  have hm := m.toNat_lt
  obtain ⟨M, hM⟩ : ∃ M : Int, (m.toNat : Int) = M := ⟨_, rfl⟩
  obtain ⟨Q, hQ⟩ : ∃ M : Int, (q : Int) = M := ⟨_, rfl⟩
  obtain ⟨H, hH⟩ : ∃ M : Int, (h : Int) = M := ⟨_, rfl⟩
  obtain ⟨G, hG⟩ : ∃ M : Int, (g : Int) = M := ⟨_, rfl⟩
  have HB := Lib.hid hb
  clear hb
  have e1 : Q ≤ 4611686018427387904 ↔ isS q := by rw [← hQ]; unfold isS; omega
  have e2 : H ≤ 4611686018427387904 ↔ isS h := by rw [← hH]; unfold isS; omega
  have e3 : (1 ≤ G ∧ G ≤ 4611686018427387904) ↔ isG g := by rw [← hG]; unfold isG; omega
  have e4 : 0 < M ↔ 0 < m.toNat := by rw [← hM]; omega
  have E1 := Lib.hid e1
  have E2 := Lib.hid e2
  have E3 := Lib.hid e3
  have E4 := Lib.hid e4
  clear e1 e2 e3 e4
  dsimp only
  rw [hM, hQ, hH, hG]
  clear hM hQ hH hG hm
  by_cases c1 : Q ≤ 4611686018427387904
  · by_cases c2 : H ≤ 4611686018427387904
    · by_cases c3 : 0 ≤ x
      · by_cases c4 : x < 65536
        · by_cases c5 : 1 ≤ G
          · by_cases c6 : G ≤ 4611686018427387904
            · by_cases c7 : 0 < M
              · go_enter Tryz.func68, Tryz.ntmps68
                go_wp2
                go_ret
                exact ⟨bool_of HB.out ⟨E1.out.1 c1, E2.out.1 c2, ⟨c3, c4⟩, E3.out.1 ⟨c5, c6⟩, E4.out.1 c7⟩, balloc _ _⟩
              · go_enter Tryz.func68, Tryz.ntmps68
                go_wp2
                go_ret
                exact ⟨bool_not HB.out fun k => (by have := E4.out.2 k.2.2.2.2; omega), balloc _ _⟩
            · go_enter Tryz.func68, Tryz.ntmps68
              go_wp2
              go_ret
              exact ⟨bool_not HB.out fun k => (by have := (E3.out.2 k.2.2.2.1).2; omega), balloc _ _⟩
          · go_enter Tryz.func68, Tryz.ntmps68
            go_wp2
            go_ret
            exact ⟨bool_not HB.out fun k => (by have := (E3.out.2 k.2.2.2.1).1; omega), balloc _ _⟩
        · go_enter Tryz.func68, Tryz.ntmps68
          go_wp2
          go_ret
          exact ⟨bool_not HB.out fun k => (by have : x < 65536 := k.2.2.1.2; omega), balloc _ _⟩
      · go_enter Tryz.func68, Tryz.ntmps68
        go_wp2
        go_ret
        exact ⟨bool_not HB.out fun k => (by have : 0 ≤ x := k.2.2.1.1; omega), balloc _ _⟩
    · go_enter Tryz.func68, Tryz.ntmps68
      go_wp2
      go_ret
      exact ⟨bool_not HB.out fun k => (by have := E2.out.2 k.2.1; omega), balloc _ _⟩
  · go_enter Tryz.func68, Tryz.ntmps68
    go_wp2
    go_ret
    exact ⟨bool_not HB.out fun k => (by have := E1.out.2 k.1; omega), balloc _ _⟩
end Go.Proofs.YtikbbikcacoobaaGreatDoor.W

/-! The contract of Put. No conditions. -/
namespace Go.Proofs.YtikbbikcacoobaaGreatDoor.W
set_option maxRecDepth 100000
open Go.RowKit Oc
set_option linter.unusedVariables false

/-- what a call leaves that puts a record -/
def RPut (w : World) (p : Rc) (e : Ending) (w' : World) : Prop :=
  (MayBe p ∧ ∃ v, e = .returned (.tuple #[v, .int .i64 0]) ∧ Own w' 5 w.heap.size v (sect p) ∧ Below w.heap.size w w') ∨ (¬ MayBe p ∧ e = .returned (.tuple #[.slice none 0 0, .int .i64 1]) ∧ Below w.heap.size w w')
theorem putE_pay (p : Rc) : putE 2 (pay p).length = 0 := putE_ok (k := 2) r2 (pay_fits p)
theorem putL_pay (p : Rc) : putL 2 (pay p) = sect p := putL_ok (k := 2) r2 (pay_fits p)

set_option maxHeartbeats 2000000 in
theorem rcput_no (p : Rc) (w : World) (h : ¬ MayBe p) : Calls Tryz.prog 78 #[(.agg #[.int .u64 (p.q : Int), .int .u64 (p.h : Int), .int .i64 p.x, .int .u64 (p.g : Int), .int .u8 (p.m.toNat : Int)])] w fun e w' => e = .returned (.tuple #[.slice none 0 0, .int .i64 1]) ∧ Below w.heap.size w w' := by
  have H := Lib.hid h
  clear h
  go_enter Tryz.func78, Tryz.ntmps78
  go_wp2_with fail
  refine (maybe_any p false _ ⟨fun h => (by cases h), fun h => absurd h H.out⟩).mono ?_; rintro e w1 ⟨rfl, b1⟩
  have B1 : Hid (Below w.heap.size w w1) := bthen (balloc _ _) b1
  clear b1
  go_wp2
  go_ret2
  exact ⟨rfl, B1.out⟩

/-- a box that bears a slice of octets -/
def PB (w : World) (B : Nat) (xs : List UInt8) : Prop := ∃ A c, w.heap[B]? = some (.cells #[.slice A xs.length c] 88 (0, 0)) ∧ Oct w A xs.length xs
theorem pb_new (w : World) : PB (w.alloc (.cells #[.slice none 0 0] 88)) w.heap.size [] := ⟨none, 0, heap_alloc_new w _, Oct.nil _ _⟩
theorem pb_below {w w' : World} {B : Nat} {xs : List UInt8} (h : PB w B xs) (hb : Below w.heap.size w w') : PB w' B xs := by
  obtain ⟨A, c, h1, h2⟩ := h
  exact ⟨A, c, kept_below h1 hb, h2.below hb⟩
theorem pb_set {w w1 : World} {B : Nat} {ys : List UInt8} {v u : Value} (hB : w.heap[B]? = some (.cells #[u] 88 (0, 0))) (ho : Own w1 5 w.heap.size v ys) (hb : Below w.heap.size w w1) :
    PB (w1.setCell ⟨B, 0, none⟩ v) B ys ∧ w.grownBy (w1.setCell ⟨B, 0, none⟩ v) (some B) := by
  have hlt := (Array.getElem?_eq_some_iff.1 hB).1
  have h1 := kept_below hB hb
  have hg := grown_set w1 B 0 v
  obtain ⟨A, c, rfl, l, s⟩ := ho.slice
  refine ⟨⟨A, c, ?_, ?_⟩, grown_trans (grown_of_below hb _) hg⟩
  · rw [heap_setCell_same w1 B 0 _ _ _ h1]; rfl
  · exact s.grown hg fun off hn e => by
      have := (ho.ge B (by rw [e]; rfl)).1
      omega

set_option maxHeartbeats 1000000 in
theorem write_any {w : World} {B : Nat} {xs : List UInt8} (h : PB w B xs) (hn : xs.length ≤ 1000000000) (N k : Nat) (hN : N < 18446744073709551616) (h1 : 1 ≤ k) (h8 : k ≤ 8) :
    Calls Tryz.prog 95 #[.int .u64 (N : Int), .int .i64 (k : Int), .pointer (some ⟨B, 0, none⟩)] w fun e w' => e = .returned (.tuple #[]) ∧ PB w' B (xs ++ octs N k) ∧ w.grownBy w' (some B) := by
  obtain ⟨A, c, hB, ho⟩ := h
  have HB := Lib.hid hB
  have HO := Lib.hid ho
  have x0 : w.cell? ⟨B, 0, none⟩ = some (.slice A xs.length c) := by rw [cell_of_row _ _ _ _ _ _ hB]; rfl
  have hlt := (Array.getElem?_eq_some_iff.1 hB).1
  clear hB ho
  go_enter Tryz.func95, Tryz.ntmps95
  go_wp2_with fail
  refine (put_yes A xs.length c xs N k _ hn HO.out hN h1 h8).mono ?_; rintro e w2 ⟨v2, rfl, o2, b2⟩
  have O2 := Lib.hid o2
  obtain ⟨A2, c2, rfl, l2, s2⟩ := o2.form (n := xs.length + k) (by simp [octs_length])
  clear s2
  have B2 := Lib.hid b2
  have y0 : w2.frozen? ⟨B, 0, none⟩ = false := frozen_of_row w2 B 0 _ _ (kept_below HB.out b2)
  have y1 : w2.cell? ⟨B, 0, none⟩ = some (.slice A xs.length c) := by rw [cell_of_row _ _ _ _ _ _ (kept_below HB.out b2)]; rfl
  clear o2 b2
  go_wp2
  go_end0
  have h := pb_set HB.out O2.out B2.out
  exact ⟨rfl, h.1, h.2⟩

theorem write8 {w : World} {B : Nat} {xs : List UInt8} (h : PB w B xs) (hn : xs.length ≤ 1000) (N : Nat) (hN : N < 18446744073709551616) : Calls Tryz.prog 95 #[.int .u64 (N : Int), .int .i64 8, .pointer (some ⟨B, 0, none⟩)] w fun e w' => e = .returned (.tuple #[]) ∧ PB w' B (xs ++ octs N 8) ∧ w.grownBy w' (some B) := write_any h (by omega) N 8 hN (by omega) (by omega)
theorem write2 {w : World} {B : Nat} {xs : List UInt8} (h : PB w B xs) (hn : xs.length ≤ 1000) (N : Nat) (hN : N < 18446744073709551616) : Calls Tryz.prog 95 #[.int .u64 (N : Int), .int .i64 2, .pointer (some ⟨B, 0, none⟩)] w fun e w' => e = .returned (.tuple #[]) ∧ PB w' B (xs ++ octs N 2) ∧ w.grownBy w' (some B) := write_any h (by omega) N 2 hN (by omega) (by omega)
theorem write1 {w : World} {B : Nat} {xs : List UInt8} (h : PB w B xs) (hn : xs.length ≤ 1000) (N : Nat) (hN : N < 18446744073709551616) : Calls Tryz.prog 95 #[.int .u64 (N : Int), .int .i64 1, .pointer (some ⟨B, 0, none⟩)] w fun e w' => e = .returned (.tuple #[]) ∧ PB w' B (xs ++ octs N 1) ∧ w.grownBy w' (some B) := write_any h (by omega) N 1 hN (by omega) (by omega)

set_option maxHeartbeats 2000000 in
theorem rcput_ok (p : Rc) (w : World) (h : MayBe p) (he : Env w) : Calls Tryz.prog 78 #[(.agg #[.int .u64 (p.q : Int), .int .u64 (p.h : Int), .int .i64 p.x, .int .u64 (p.g : Int), .int .u8 (p.m.toNat : Int)])] w fun e w' => ∃ v, e = .returned (.tuple #[v, .int .i64 0]) ∧ Own w' 5 w.heap.size v (sect p) ∧ Below w.heap.size w w' := by
  have H := Lib.hid h
  have HE := Lib.hid he
  obtain ⟨N, hN, hN2⟩ : ∃ N : Nat, p.x = (N : Int) ∧ N < 65536 := ⟨p.x.toNat, by have := h.2.2.1; omega, by have := h.2.2.1; omega⟩
  obtain ⟨M, hM, hM2⟩ : ∃ M : Nat, p.m.toNat = M ∧ M < 256 := ⟨p.m.toNat, rfl, p.m.toNat_lt⟩
  have HQ : Hid (p.q < 18446744073709551616) := by have := h.1; show _ < _; omega
  have HH : Hid (p.h < 18446744073709551616) := by have := h.2.1; show _ < _; omega
  have HG : Hid (p.g < 18446744073709551616) := by have := h.2.2.2.1.2; show _ < _; omega
  have HN := Lib.hid hN
  have HM := Lib.hid hM
  have HT : Hid (p.x.toNat = N) := by show _ = _; omega
  clear h he hN hM
  go_enter Tryz.func78, Tryz.ntmps78
  go_wp2_with fail
  refine (maybe_any p true _ ⟨fun _ => H.out, fun _ => rfl⟩).mono ?_; rintro e w1 ⟨rfl, b1⟩
  have X1 := Lib.hid (kept_below (heap_alloc_new w (.cells #[.int .u64 (p.q : Int), .int .u64 (p.h : Int), .int .i64 p.x, .int .u64 (p.g : Int), .int .u8 (p.m.toNat : Int)] 31)) b1)
  have B1 : Hid (Below w.heap.size w w1) := bthen (balloc _ _) b1
  clear b1
  obtain ⟨B, hB⟩ : ∃ B, B = w1.heap.size := ⟨_, rfl⟩
  have P1 : Hid (PB (w1.alloc (.cells #[.slice none 0 0] 88)) B []) := by show PB _ _ _; rw [hB]; exact pb_new w1
  have X2 := Lib.hid (kept_below X1.out (balloc w1 (.cells #[.slice none 0 0] 88)))
  have C1 : Hid (Below w.heap.size w (w1.alloc (.cells #[.slice none 0 0] 88))) := bthen B1.out (balloc _ _)
  have hwB : w.heap.size ≠ B := by have := (Array.getElem?_eq_some_iff.1 X1.out).1; omega
  have hle : w.heap.size ≤ B := by have := (Array.getElem?_eq_some_iff.1 X1.out).1; omega
  have HWB := Lib.hid hwB
  have HLE := Lib.hid hle
  clear hwB hle
  obtain ⟨x0, x1, x2, x3, x4⟩ := rc_cells X2.out
  subst hB
  go_wp2_with fail
  refine (write8 P1.out (by simp) p.q HQ.out).mono ?_; rintro e w3 ⟨rfl, q3, g3⟩
  rw [List.nil_append] at q3
  have P3 := Lib.hid q3
  have X3 := Lib.hid (kept_by X2.out g3 HWB.out)
  have C3 : Hid (Below w.heap.size w w3) := below_up C1.out g3 HLE.out
  clear q3 g3 x0 x1 x2 x3 x4
  obtain ⟨x0, x1, x2, x3, x4⟩ := rc_cells X3.out
  go_wp2_with fail
  refine (write8 P3.out (by simp [octs_length]) p.h HH.out).mono ?_; rintro e w4 ⟨rfl, q4, g4⟩
  have P4 := Lib.hid q4
  have X4 := Lib.hid (kept_by X3.out g4 HWB.out)
  have C4 : Hid (Below w.heap.size w w4) := below_up C3.out g4 HLE.out
  clear q4 g4 x0 x1 x2 x3 x4
  obtain ⟨x0, x1, x2, x3, x4⟩ := rc_cells X4.out
  rw [HN.out] at x2
  go_wp2_with fail
  refine (write2 P4.out (by simp [octs_length]) N (by omega)).mono ?_; rintro e w5 ⟨rfl, q5, g5⟩
  have P5 := Lib.hid q5
  have X5 := Lib.hid (kept_by X4.out g5 HWB.out)
  have C5 : Hid (Below w.heap.size w w5) := below_up C4.out g5 HLE.out
  clear q5 g5 x0 x1 x2 x3 x4
  obtain ⟨x0, x1, x2, x3, x4⟩ := rc_cells X5.out
  go_wp2_with fail
  refine (write8 P5.out (by simp [octs_length]) p.g HG.out).mono ?_; rintro e w6 ⟨rfl, q6, g6⟩
  have P6 := Lib.hid q6
  have X6 := Lib.hid (kept_by X5.out g6 HWB.out)
  have C6 : Hid (Below w.heap.size w w6) := below_up C5.out g6 HLE.out
  clear q6 g6 x0 x1 x2 x3 x4
  obtain ⟨x0, x1, x2, x3, x4⟩ := rc_cells X6.out
  rw [HM.out] at x4
  go_wp2_with fail
  refine (write1 P6.out (by simp [octs_length]) M (by omega)).mono ?_; rintro e w7 ⟨rfl, q7, g7⟩
  have P7 : Hid (PB w7 w1.heap.size (pay p)) := by
    show PB _ _ _
    rw [show pay p = octs p.q 8 ++ octs p.h 8 ++ octs N 2 ++ octs p.g 8 ++ octs M 1 by unfold pay; rw [HT.out, HM.out]]
    exact q7
  have C7 : Hid (Below w.heap.size w w7) := below_up C6.out g7 HLE.out
  clear q7 g7 x0 x1 x2 x3 x4
  obtain ⟨A8, c8, h8, s8⟩ := P7.out
  rw [pay_length] at h8 s8
  have z0 : w7.cell? ⟨w1.heap.size, 0, none⟩ = some (.slice A8 27 c8) := by rw [cell_of_row _ _ _ _ _ _ h8]; rfl
  have S8 := Lib.hid s8
  clear h8 s8
  go_wp2_with fail
  refine (pput_any A8 27 c8 (pay p) 2 _ (by omega) S8.out (HE.out.below C7.out)).mono ?_; rintro e w9 ⟨v9, rfl, o9, b9⟩
  rw [putE_pay]
  rw [putL_pay] at o9
  have O9 := Lib.hid (o9.more C7.out.size)
  have B9 : Hid (Below w.heap.size w w9) := bthen C7.out b9
  clear o9 b9
  go_wp2
  go_ret2
  exact ⟨v9, rfl, O9.out, B9.out⟩
theorem rcput_any (p : Rc) (w : World) (he : Env w) : Calls Tryz.prog 78 #[(.agg #[.int .u64 (p.q : Int), .int .u64 (p.h : Int), .int .i64 p.x, .int .u64 (p.g : Int), .int .u8 (p.m.toNat : Int)])] w (RPut w p) := by
  by_cases h : MayBe p
  · exact (rcput_ok p w h he).mono fun e w' h2 => .inl ⟨h, h2⟩
  · exact (rcput_no p w h).mono fun e w' h2 => .inr ⟨h, h2⟩
end Go.Proofs.YtikbbikcacoobaaGreatDoor.W

/-! The contract of read. No conditions. -/
namespace Go.Proofs.YtikbbikcacoobaaGreatDoor.W
set_option maxRecDepth 100000
open Go.RowKit Oc Gt
set_option linter.unusedVariables false

/-- what read leaves: the record and the octets behind it -/
def RRead (w : World) (p : Rc) (rest : List UInt8) (e : Ending) (w' : World) : Prop := ∃ v, e = .returned (.tuple #[(.agg #[.int .u64 (p.q : Int), .int .u64 (p.h : Int), .int .i64 p.x, .int .u64 (p.g : Int), .int .u8 (p.m.toNat : Int)]), v]) ∧ Own w' 5 w.heap.size v rest ∧ Below w.heap.size w w'
theorem lt256 {N : Nat} (h : N < 256) : (N : Int) = ((UInt8.ofNat N).toNat : Int) := by simp; omega

theorem cells5 {w : World} {B : Nat} {T : TypeId} {v0 v1 v2 v3 v4 : Value} (h : w.heap[B]? = some (.cells #[v0, v1, v2, v3, v4] T (0, 0))) : w.cell? ⟨B, 0, none⟩ = some v0 ∧ w.cell? ⟨B, 1, none⟩ = some v1 ∧ w.cell? ⟨B, 2, none⟩ = some v2 ∧ w.cell? ⟨B, 3, none⟩ = some v3 ∧ w.cell? ⟨B, 4, none⟩ = some v4 := by
  refine ⟨?_, ?_, ?_, ?_, ?_⟩ <;> (rw [cell_of_row _ _ _ _ _ _ h]; rfl)
theorem below_drew1 {B : Nat} {a w : World} (h : Below B a w) : Below B a w.drew := ⟨h.os, h.tape, h.output, h.size, h.block⟩
theorem exec_ld {P : Program} {o : Oper} {ev : Operand → Value} {ty : TypeId} {x : Operand} {p r : Value} {w : World} (ho : o.op = .load ty x) (hx : ev x = p) (hrun : (Instr.loadAt ty p).run P w = .ok r w) : (execOp ev o).run P w = .ok (.value r) w := by
  unfold execOp
  simp only [ho, hx, Sem.run_bind, hrun, Result.andThen_ok, Sem.run_pure]
theorem run_load5 {w : World} {b : Nat} {T : TypeId} {cs : Array Value} (hc : cs.size = 5) (hg : w.heap[b]? = some (.cells cs T (0, 0))) : (Instr.loadAt 31 (.pointer (some ⟨b, 0, none⟩))).run Tryz.prog w = .ok (.agg cs) w := by
  simp only [Instr.loadAt, Instr.sureAddr, Sem.run_bind, Sem.run_pure, Result.andThen_ok, run_loadVar_row w b T 31 _ (0, 0) _ hg Tryz.underlying31 rfl (by rw [hc]; exact info_rc)]
theorem left31 {w : World} {R : Nat} {xs : List UInt8} (hx : xs.length = 31) (h : Rd w 195 R xs true) : Calls Tryz.prog 134 #[.pointer (some ⟨R, 0, none⟩)] w fun e w' => e = .returned (.int .i64 31) ∧ w = w' :=
  (left_good h).mono fun e w' h2 => ⟨by rw [h2.1, hx]; rfl, h2.2⟩
theorem bytes31 {w : World} {R : Nat} {xs : List UInt8} (hx : xs.length = 31) (h : Rd w 195 R xs true) : Calls Tryz.prog 133 #[.pointer (some ⟨R, 0, none⟩), .int .i64 31] w fun e w' => ∃ A c, 31 ≤ c ∧ e = .returned (.slice A 31 c) ∧ Own w' 5 w.heap.size (.slice A 31 c) xs ∧ w.grownBy w' (some R) :=
  (bytes_take 31 h (by omega) (by omega)).mono fun e w' h2 => by
    obtain ⟨v, rfl, ho, _, hg⟩ := h2
    rw [List.take_of_length_le (by omega)] at ho
    obtain ⟨A, c, rfl, hc, _⟩ := ho.form hx
    exact ⟨A, c, hc, rfl, ho, hg⟩

set_option maxRecDepth 100000 in
set_option maxHeartbeats 4000000 in
theorem read_rc (A : Option Addr) (c : Nat) (ps : List UInt8) (p : Rc) (w : World) (hp : p = dec ps) (ho : Oct w A 58 ps) :
    Calls Tryz.prog 122 #[.slice A 58 c] w (RRead w p (ps.drop 27)) := by
  have hl := ho.len
  have HO := Lib.hid ho
  have HL := Lib.hid hl
  obtain ⟨N0, e0⟩ : ∃ N, num (ps.take 8) = N := ⟨_, rfl⟩
  obtain ⟨N1, e1⟩ : ∃ N, num ((ps.drop 8).take 8) = N := ⟨_, rfl⟩
  obtain ⟨N2, e2⟩ : ∃ N, num ((ps.drop 16).take 2) = N := ⟨_, rfl⟩
  obtain ⟨N3, e3⟩ : ∃ N, num ((ps.drop 18).take 8) = N := ⟨_, rfl⟩
  obtain ⟨N4, e4⟩ : ∃ N, num ((ps.drop 26).take 1) = N := ⟨_, rfl⟩
  have hN2 : N2 < 65536 := by
    have h := num_lt_of (xs := (ps.drop 16).take 2) (k := 2) (by simp [hl])
    omega
  have hN4 : N4 < 256 := by
    have h := num_lt_of (xs := (ps.drop 26).take 1) (k := 1) (by simp [hl])
    omega
  have hpv : ((.agg #[.int .u64 (p.q : Int), .int .u64 (p.h : Int), .int .i64 p.x, .int .u64 (p.g : Int), .int .u8 (p.m.toNat : Int)]) : Value) = .agg #[.int .u64 (N0 : Int), .int .u64 (N1 : Int), .int .i64 (N2 : Int), .int .u64 (N3 : Int), .int .u8 (N4 : Int)] := by
    rw [hp]; unfold dec; dsimp only; rw [e0, e1, e2, e3, e4, ← lt256 hN4]
  have HPV := Lib.hid hpv
  have E0 := Lib.hid e0
  have E1 := Lib.hid e1
  have E2 := Lib.hid e2
  have E3 := Lib.hid e3
  have E4 := Lib.hid e4
  clear ho hl hp hpv e0 e1 e2 e3 e4
  go_enter Tryz.func122, Tryz.ntmps122
  go_wp2_with fail
  refine (read_any _ _ _ ps _ (by omega) (HO.out.alloc _)).mono ?_; rintro e w1 ⟨R, rfl, hR, rd, b1⟩
  have hh0 := kept_below (rc_new w) b1
  have hR1 : w.heap.size + 1 ≤ R := by simpa using hR
  have Y1 := Lib.hid hh0
  have RD1 := Lib.hid rd
  have B1 : Hid (Below w.heap.size w w1) := bthen (balloc _ _) b1
  clear hR hh0 rd b1
  go_wp2_with fail
  refine (u_take 8 RD1.out (by rw [HL.out]; omega) (by omega) (by omega) (by rw [HL.out]; omega) N0 E0.out).mono ?_; rintro e w2 ⟨rfl, rd, g2⟩
  have Y2 := Lib.hid (kept_by Y1.out g2 (by omega))
  have B2 := Lib.hid (below_up B1.out g2 (by omega))
  have RD2 := Lib.hid rd
  clear rd g2
  go_wp2_with fail
  refine (u_take 8 RD2.out (by rw [List.length_drop, HL.out]; omega) (by omega) (by omega) (by rw [List.length_drop, HL.out]; omega) N1 E1.out).mono ?_; rintro e w3 ⟨rfl, rd, g3⟩
  have Y3 := Lib.hid (kept_by Y2.out g3 (by omega))
  have B3 := Lib.hid (below_up B2.out g3 (by omega))
  rw [List.drop_drop] at rd
  have RD3 := Lib.hid rd
  clear rd g3
  go_wp2_with fail
  refine (u_take 2 RD3.out (by rw [List.length_drop, HL.out]; omega) (by omega) (by omega) (by rw [List.length_drop, HL.out]; omega) N2 E2.out).mono ?_; rintro e w4 ⟨rfl, rd, g4⟩
  have Y4 := Lib.hid (kept_by Y3.out g4 (by omega))
  have B4 := Lib.hid (below_up B3.out g4 (by omega))
  rw [List.drop_drop] at rd
  have RD4 := Lib.hid rd
  clear rd g4
  go_wp2_with fail
  refine (u_take 8 RD4.out (by rw [List.length_drop, HL.out]; omega) (by omega) (by omega) (by rw [List.length_drop, HL.out]; omega) N3 E3.out).mono ?_; rintro e w5 ⟨rfl, rd, g5⟩
  have Y5 := Lib.hid (kept_by Y4.out g5 (by omega))
  have B5 := Lib.hid (below_up B4.out g5 (by omega))
  rw [List.drop_drop] at rd
  have RD5 := Lib.hid rd
  clear rd g5
  go_wp2_with fail
  refine (u_take 1 RD5.out (by rw [List.length_drop, HL.out]; omega) (by omega) (by omega) (by rw [List.length_drop, HL.out]; omega) N4 E4.out).mono ?_; rintro e w6 ⟨rfl, rd, g6⟩
  have Y6 := Lib.hid (kept_by Y5.out g6 (by omega))
  have B6 := Lib.hid (below_up B5.out g6 (by omega))
  rw [List.drop_drop] at rd
  have RD6 := Lib.hid rd
  clear rd g6
  go_upto_region 3 with fail
  obtain ⟨B, hB⟩ : ∃ B, B = w6.heap.size := ⟨_, rfl⟩
  obtain ⟨w7, hw7⟩ : ∃ w7, w7 = w6.alloc (.cells #[.int .u64 (N0 : Int), .int .u64 (N1 : Int), .int .i64 (N2 : Int), .int .u64 (N3 : Int), .int .u8 (N4 : Int)] 31) := ⟨_, rfl⟩
  have X7 : Hid (w7.heap[B]? = some (.cells #[.int .u64 (N0 : Int), .int .u64 (N1 : Int), .int .i64 (N2 : Int), .int .u64 (N3 : Int), .int .u8 (N4 : Int)] 31 (0, 0))) := by show _ = _; rw [hw7, hB]; exact heap_alloc_new w6 _
  have Y7 : Hid (w7.heap[w.heap.size]? = some (.cells #[.int .u64 0, .int .u64 0, .int .i64 0, .int .u64 0, .int .u8 0] 31 (0, 0))) := by show _ = _; rw [hw7]; exact kept_below Y6.out (balloc w6 _)
  have RD7 : Hid (Rd w7 195 R (ps.drop 27) true) := by show Rd _ _ _ _ _; rw [hw7]; exact RD6.out.below (balloc w6 _)
  have B7 : Hid (Below w.heap.size w w7) := by show Below _ _ _; rw [hw7]; exact bthen B6.out (balloc w6 _)
  have hRB : R < B := by rw [hB]; exact RD6.out.lt
  have HB := Lib.hid hB
  have HW := Lib.hid hw7
  rw [← hw7, ← hB]
  clear hB hw7
  have hRB2 : w.heap.size < B := by omega
  have k31 : (ps.drop 27).length = 31 := by rw [List.length_drop, HL.out]
  have K31 := Lib.hid k31
  clear k31
  have RDd : Rd w7.drew 195 R (ps.drop 27) true := RD7.out
  have LF := Lib.hid (left31 K31.out RDd)
  have BY := Lib.hid (bytes31 K31.out RDd)
  have Yd : w7.drew.heap[w.heap.size]? = some (.cells #[.int .u64 0, .int .u64 0, .int .i64 0, .int .u64 0, .int .u8 0] 31 (0, 0)) := Y7.out
  have Xd : w7.drew.heap[B]? = some (.cells #[.int .u64 (N0 : Int), .int .u64 (N1 : Int), .int .i64 (N2 : Int), .int .u64 (N3 : Int), .int .u8 (N4 : Int)] 31 (0, 0)) := X7.out
  have YD := Lib.hid Yd
  have XD := Lib.hid Xd
  clear RDd Yd Xd
  have hyR : w.heap.size ≠ R := by omega
  have hxR : B ≠ R := by omega
  have hxy : B ≠ w.heap.size := by omega
  go_wp2_with fail
  refine gate (fun x => x.heap[B]? = some (.cells #[.int .u64 (N0 : Int), .int .u64 (N1 : Int), .int .i64 (N2 : Int), .int .u64 (N3 : Int), .int .u8 (N4 : Int)] 31 (0, 0))) 6 [0, 1, 2] 4 (by kernel_rfl) (by kernel_rfl) (by kernel_rfl) rfl ?_ XD.out ?_
  · intro d v c a w h
    cases d <;> exact h
  refine yields_step (.agg #[.int .u64 (N0 : Int), .int .u64 (N1 : Int), .int .i64 (N2 : Int), .int .u64 (N3 : Int), .int .u8 (N4 : Int)]) rfl rfl ?_ ?_
  · intro x hS; exact exec_ld rfl (by go_simp) (run_load5 rfl hS)
  iterate 2
    refine yields_step ?_ rfl rfl ?_ ?_
    rotate_left
    · intro x hS; go_simp; rfl
  refine Gate.next (i := 3) (by kernel_rfl) rfl rfl (fun K hK => ?_)
  go_simp
  refine LF.out.mono ?_; rintro e w' ⟨rfl, rfl⟩
  refine hK _ _ (fun _ => XD.out) ?_
  clear hK K
  refine Gate.next (i := 4) (by kernel_rfl) rfl rfl (fun K hK => ?_)
  go_simp
  refine BY.out.mono ?_; rintro e w8 ⟨A8, c8, l8, rfl, o8, g8⟩
  have O8 := Lib.hid o8
  have Y8 := Lib.hid (kept_by YD.out g8 hyR)
  have X8 := Lib.hid (kept_by XD.out g8 hxR)
  have G8 := Lib.hid g8
  refine hK _ _ (fun _ => X8.out) ?_
  clear hK K o8 g8
  refine Gate.next (i := 5) (by kernel_rfl) rfl rfl (fun K hK => ?_)
  refine wp_store_row 31 _ _ rfl w.heap.size #[.int .u64 (N0 : Int), .int .u64 (N1 : Int), .int .i64 (N2 : Int), .int .u64 (N3 : Int), .int .u8 (N4 : Int)] (by go_simp) (by go_simp) _ _ Y8.out info_rc rfl (by simp [Value.oneCell']) ?_
  have H9 := Lib.hid (setRow_heap w8 w.heap.size _ #[.int .u64 (N0 : Int), .int .u64 (N1 : Int), .int .i64 (N2 : Int), .int .u64 (N3 : Int), .int .u8 (N4 : Int)] _ _ Y8.out)
  have G9 : Hid (w8.grownBy (w8.setRow w.heap.size #[.int .u64 (N0 : Int), .int .u64 (N1 : Int), .int .i64 (N2 : Int), .int .u64 (N3 : Int), .int .u8 (N4 : Int)]) (some w.heap.size)) := ⟨rfl, rfl, rfl, by simp, fun k _ hk => setRow_other w8 w.heap.size k _ (fun e => hk (by rw [e]))⟩
  obtain ⟨w9, hw9⟩ : ∃ w9, w9 = w8.setRow w.heap.size #[.int .u64 (N0 : Int), .int .u64 (N1 : Int), .int .i64 (N2 : Int), .int .u64 (N3 : Int), .int .u8 (N4 : Int)] := ⟨_, rfl⟩
  rw [← hw9] at H9 G9 ⊢
  clear hw9
  have X9 := Lib.hid (kept_by X8.out G9.out hxy)
  refine hK _ _ (fun _ => X9.out) ?_
  clear hK K
  refine Gate.next (i := 6) (by kernel_rfl) rfl rfl (fun K hK => ?_)
  go_simp
  refine hK _ _ (fun h => absurd rfl h) ?_
  clear hK K
  refine Gate.done (by kernel_rfl) ?_
  go_wp2
  refine bodyPost_ret (results_cell_tmp_row rfl _ _ _ _ rfl (run_loadVar_row _ _ _ _ _ _ _ H9.out Tryz.underlying31 rfl info_rc)) rfl ?_
  have B8 : Hid (Below w.heap.size w w8) := below_up (below_drew1 B7.out) G8.out (by omega)
  refine ⟨.slice A8 31 c8, by rw [HPV.out]; rfl, ?_, below_up B8.out G9.out (Nat.le_refl _)⟩
  have hge : w.heap.size < w7.drew.heap.size := by have := (Array.getElem?_eq_some_iff.1 XD.out).1; omega
  exact (own_set O8.out hge G9.out).more (by omega)
end Go.Proofs.YtikbbikcacoobaaGreatDoor.W

/-! The contract of Get. No conditions. -/
namespace Go.Proofs.YtikbbikcacoobaaGreatDoor.W
set_option maxRecDepth 100000
open Go.RowKit Oc
set_option linter.unusedVariables false

set_option maxRecDepth 100000 in
set_option maxHeartbeats 2000000 in
theorem rcget_any (A : Option Addr) (n c : Nat) (ys : List UInt8) (p : Rc) (E : Int) (w : World) (hn : n ≤ 1000000) (hc : n ≤ c) (ho : Oct w A n ys) (he : Env w) (hW : GWay ys p E) :
    Calls Tryz.prog 109 #[.slice A n c] w fun e w' => e = .returned (.tuple #[(.agg #[.int .u64 (p.q : Int), .int .u64 (p.h : Int), .int .i64 p.x, .int .u64 (p.g : Int), .int .u8 (p.m.toNat : Int)]), .int .i64 E]) ∧ Below w.heap.size w w' := by
  have HO := Lib.hid ho
  have HE := Lib.hid he
  clear ho he
  by_cases h1 : getE ys 2 = 0
  · obtain ⟨d, hd⟩ : ∃ d, d = dec (getL ys 2) := ⟨_, rfl⟩
    obtain ⟨b, hb⟩ : ∃ b : Bool, (b = true ↔ MayBe d) := by
      by_cases h : MayBe d
      · exact ⟨true, fun _ => h, fun _ => rfl⟩
      · exact ⟨false, fun h2 => (by cases h2), fun h2 => absurd h2 h⟩
    obtain ⟨k, hk⟩ : ∃ k, blank ((getL ys 2).drop 27) = k := ⟨_, rfl⟩
    have hx : (b = true ∧ k = true ∧ p = d ∧ E = 0) ∨ (b = true ∧ k = false ∧ p = zr ∧ E = 31) ∨ (b = false ∧ p = zr ∧ E = 31) := by
      rcases hW with ⟨h2, _⟩ | ⟨_, h3, h4, h5⟩ | ⟨_, h3, h4, h5, h6⟩ | ⟨_, h3, h4, h5, h6⟩
      · exact absurd h1 h2
      · refine .inr (.inr ⟨?_, h4, h3⟩)
        cases b
        · rfl
        · rw [← hd] at h5; exact absurd (hb.1 rfl) h5
      · rw [← hd] at h5
        rw [hk] at h6
        exact .inr (.inl ⟨hb.2 h5, h6, h4, h3⟩)
      · rw [hk] at h6
        rw [← hd] at h4
        exact .inl ⟨hb.2 (h4 ▸ h5), h6, h4, h3⟩
    have hl := get58 h1
    have H1 := Lib.hid h1
    have HD := Lib.hid hd
    have HL := Lib.hid hl
    have HB := Lib.hid hb
    have HK := Lib.hid hk
    have K31 : Hid (((getL ys 2).drop 27).length = 31) := by show _ = _; rw [List.length_drop, hl]
    clear hW h1 hd hl hb hk
    go_enter Tryz.func109, Tryz.ntmps109
    go_wp2_with fail
    refine (pget_any _ _ _ ys _ _ hn hc (HO.out.alloc _) (HE.out.alloc _)).mono ?_; rintro e w1 ⟨v1, rfl, o, b1⟩
    rw [H1.out]
    obtain ⟨A1, c1, rfl, l1, s1⟩ := o.form HL.out
    have S1 := Lib.hid s1
    have Y1 := Lib.hid (kept_below (rc_new w) b1)
    have B1 : Hid (Below w.heap.size w w1) := bthen (balloc _ _) b1
    clear o b1 s1
    go_wp2_with fail
    refine (read_rc _ _ _ d _ HD.out S1.out).mono ?_; rintro e w2 ⟨v2, rfl, o2, b2⟩
    obtain ⟨A2, c2, rfl, l2, s2⟩ := o2.form K31.out
    have S2 := Lib.hid s2
    have Y2 := Lib.hid (kept_below Y1.out b2)
    have B2 : Hid (Below w.heap.size w w2) := bthen B1.out b2
    clear o2 b2 s2
    go_wp2_with fail
    refine (maybe_any d b _ HB.out).mono ?_; rintro e w3 ⟨rfl, b3⟩
    have Y3 := Lib.hid (kept_below (kept_below Y2.out (balloc _ _)) b3)
    have X3 := Lib.hid (kept_below (heap_alloc_new w2 (.cells #[.int .u64 (d.q : Int), .int .u64 (d.h : Int), .int .i64 d.x, .int .u64 (d.g : Int), .int .u8 (d.m.toNat : Int)] 31)) b3)
    have S3 := Lib.hid ((S2.out.alloc _).below b3)
    have B3 : Hid (Below w.heap.size w w3) := bthen (bthen B2.out (balloc _ _)) b3
    clear b3
    rcases hx with ⟨rfl, rfl, rfl, rfl⟩ | ⟨rfl, rfl, rfl, rfl⟩ | ⟨rfl, rfl, rfl⟩
    · go_wp2_with fail
      refine (blank_any _ _ _ _ true _ (by omega) S3.out HK.out).mono ?_; rintro e w' ⟨rfl, rfl⟩
      go_wp2_with (first
        | ((with_reducible apply L_loadRc); exact rfl; exact X3.out; exact rfl)
        | ((with_reducible apply L_storeRow (N := 5) info_rc); exact rfl; exact rfl; exact Y3.out; exact rfl; exact rfl; (simp [Value.oneCell']); intro w4 h4 g4; have H4 := Lib.hid h4; have G4 := Lib.hid g4; clear h4 g4))
      refine bodyPost_ret (results_cell_tmp_row rfl _ _ _ _ rfl (run_loadVar_row _ _ _ _ _ _ _ H4.out Tryz.underlying31 rfl info_rc)) rfl ?_
      exact ⟨rfl, below_up B3.out G4.out (Nat.le_refl _)⟩
    · go_wp2_with fail
      refine (blank_any _ _ _ _ false _ (by omega) S3.out HK.out).mono ?_; rintro e w' ⟨rfl, rfl⟩
      go_wp2_with ((with_reducible apply L_storeRow (N := 5) info_rc); exact rfl; exact rfl; exact Y3.out; exact rfl; exact rfl; (simp [Value.oneCell']); intro w4 h4 g4; have H4 := Lib.hid h4; have G4 := Lib.hid g4; clear h4 g4)
      refine bodyPost_ret (results_cell_tmp_row rfl _ _ _ _ rfl (run_loadVar_row _ _ _ _ _ _ _ H4.out Tryz.underlying31 rfl info_rc)) rfl ?_
      exact ⟨rfl, below_up B3.out G4.out (Nat.le_refl _)⟩
    · go_wp2_with ((with_reducible apply L_storeRow (N := 5) info_rc); exact rfl; exact rfl; exact Y3.out; exact rfl; exact rfl; (simp [Value.oneCell']); intro w4 h4 g4; have H4 := Lib.hid h4; have G4 := Lib.hid g4; clear h4 g4)
      refine bodyPost_ret (results_cell_tmp_row rfl _ _ _ _ rfl (run_loadVar_row _ _ _ _ _ _ _ H4.out Tryz.underlying31 rfl info_rc)) rfl ?_
      exact ⟨rfl, below_up B3.out G4.out (Nat.le_refl _)⟩
  · have hp : p = zr ∧ E = getE ys 2 := by
      rcases hW with ⟨_, h3, h4⟩ | ⟨h2, _⟩ | ⟨h2, _⟩ | ⟨h2, _⟩
      · exact ⟨h4, h3⟩
      · exact absurd h2 h1
      · exact absurd h2 h1
      · exact absurd h2 h1
    obtain ⟨rfl, h2⟩ := hp
    have hE0 : ¬ E = 0 := by rw [h2]; exact h1
    have H2 := Lib.hid h2.symm
    clear h1 h2 hW
    go_enter Tryz.func109, Tryz.ntmps109
    go_wp2_with fail
    refine (pget_any _ _ _ ys _ _ hn hc (HO.out.alloc _) (HE.out.alloc _)).mono ?_; rintro e w1 ⟨v1, rfl, o, b⟩
    rw [H2.out]
    have Y1 := Lib.hid (kept_below (rc_new w) b)
    have B1 : Hid (Below w.heap.size w w1) := bthen (balloc _ _) b
    clear o b
    go_wp2_with ((with_reducible apply L_storeRow (N := 5) info_rc); exact rfl; exact rfl; exact Y1.out; exact rfl; exact rfl; (simp [Value.oneCell']); intro w3 h3 g3; have H3 := Lib.hid h3; have G3 := Lib.hid g3; clear h3 g3)
    refine bodyPost_ret (results_cell_tmp_row rfl _ _ _ _ rfl (run_loadVar_row _ _ _ _ _ _ _ H3.out Tryz.underlying31 rfl info_rc)) rfl ?_
    exact ⟨rfl, below_up B1.out G3.out (Nat.le_refl _)⟩
end Go.Proofs.YtikbbikcacoobaaGreatDoor.W
