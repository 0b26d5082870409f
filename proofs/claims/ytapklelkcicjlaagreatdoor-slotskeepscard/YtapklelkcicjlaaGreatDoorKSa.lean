/-
  Elder texts, one behind the other: SlNum, SlMem, SlAsk, SlPut, SlFirst, SlLay. No conditions.
-/
import Derived.Test.YtapklelkcicjlaaGreatDoorPdNum
import Derived.Test.YtapklelkcicjlaaGreatDoorKHd
import Derived.Test.YtapklelkcicjlaaGreatDoorPdBase
import Derived.Test.YtapklelkcicjlaaGreatDoorSRows
import Derived.Test.YtapklelkcicjlaaGreatDoorKPlan
import Derived.BigQuiet
import Derived.Deep.RegionHeld
import Derived.Deep.DrawnRows
import Derived.Test.YtapklelkcicjlaaGreatDoorKHg
/-! Slots in plain numbers: what a fill, a read, a free, an opening answer, and leave. No conditions. -/
namespace Go.Proofs.YtapklelkcicjlaaGreatDoor.Pd.Sl
set_option maxRecDepth 100000
open Go.RowKit Oc Dm W Dw W.Hd
set_option linter.unusedVariables false

/-- a slot: its faults, its wear -/
structure Slt where
  f : Nat
  r : UInt32
def isBad (s : Slt) : Bool := decide (2 ≤ s.f)
/-- may the head be, by reckoning -/
def mayB (p : Hd) : Bool := match p.u with
  | true => (decide (0 ≤ p.l) && decide (p.l < 65536)) && (decide (1 ≤ p.g) && decide (p.g ≤ 4611686018427387904))
  | false => decide (p.l = 0) && (decide (p.g = 0) && decide (p.s.toNat = 0))
theorem mayB_iff (p : Hd) : mayB p = true ↔ MayBe p := by
  obtain ⟨u, l, g, s, r⟩ := p
  cases u <;> simp [mayB, MayBe]
/-- what a sector tells: the head, and the error -/
def hg (ys : List UInt8) : Hd × Int := if getE ys 3 = 0 then (if mayB (dec (getL ys 3)) = true ∧ sect (dec (getL ys 3)) = ys then (dec (getL ys 3), 0) else (zr, 31)) else (zr, getE ys 3)
theorem hg_way (ys : List UInt8) : GWay ys (hg ys).1 (hg ys).2 := by
  unfold hg
  by_cases h : getE ys 3 = 0
  · rw [if_pos h]
    by_cases h2 : MayBe (dec (getL ys 3))
    · by_cases hb : sect (dec (getL ys 3)) = ys
      · rw [if_pos ⟨(mayB_iff _).2 h2, hb⟩]
        exact .inr (.inr (.inr ⟨h, rfl, rfl, h2, hb⟩))
      · rw [if_neg (fun x => hb x.2)]
        exact .inr (.inr (.inl ⟨h, rfl, rfl, h2, hb⟩))
    · rw [if_neg (fun x => h2 ((mayB_iff _).1 x.1))]
      exact .inr (.inl ⟨h, rfl, rfl, h2⟩)
  · rw [if_neg h]
    exact .inl ⟨h, rfl, rfl⟩
/-- a sector tells one thing -/
theorem way_one {ys : List UInt8} {p q : Hd} {E E' : Int} (h : GWay ys p E) (k : GWay ys q E') : p = q ∧ E = E' := by
  rcases h with ⟨h1, h2, h3⟩ | ⟨h1, h2, h3, h4⟩ | ⟨h1, h2, h3, h4, h5⟩ | ⟨h1, h2, h3, h4, h5⟩ <;> rcases k with ⟨k1, k2, k3⟩ | ⟨k1, k2, k3, k4⟩ | ⟨k1, k2, k3, k4, k5⟩ | ⟨k1, k2, k3, k4, k5⟩
  all_goals first
    | exact ⟨h3.trans k3.symm, h2.trans k2.symm⟩
    | exact absurd h1 k1
    | exact absurd k1 h1
    | exact absurd k4 h4
    | exact absurd h4 k4
    | (rw [h3] at h4; exact absurd h4 k4)
    | (rw [k3] at k4; exact absurd k4 h4)
    | (rw [h3] at h5; exact absurd h5 k5)
    | (rw [k3] at k5; exact absurd k5 h5)
theorem hg_of {ys : List UInt8} {p : Hd} {E : Int} (h : GWay ys p E) : hg ys = (p, E) := by
  obtain ⟨h1, h2⟩ := way_one (hg_way ys) h
  exact Prod.ext h1 h2
theorem hg_sect {p : Hd} (h : MayBe p) : hg (sect p) = (p, 0) := hg_of (way_own h)
theorem hg_rot (p : Hd) (at_ T : Nat) (h : ¬ sect p = turned (sect p) at_ T 32) : hg (turned (sect p) at_ T 32) = (zr, 40) := hg_of (way_rot p at_ T h)
/-- what Matches tells -/
def mt (u : Bool) (l s b : Int) (z : Nat) : Int := if u = true ∧ l = b then (if s = (z : Int) then 0 else 40) else 4
theorem mt_way (u : Bool) (l s b : Int) (z : Nat) : MWay u l s b z (mt u l s b z) := by
  unfold mt
  cases u
  · rw [if_neg (fun x => by cases x.1)]; exact .inl ⟨rfl, rfl⟩
  · by_cases hl : l = b
    · rw [if_pos ⟨rfl, hl⟩]
      by_cases hs : s = (z : Int)
      · rw [if_pos hs]; exact .inr (.inr (.inr ⟨rfl, hl, hs, rfl⟩))
      · rw [if_neg hs]; exact .inr (.inr (.inl ⟨rfl, hl, hs, rfl⟩))
    · rw [if_neg (fun x => hl x.2)]; exact .inr (.inl ⟨rfl, hl, rfl⟩)

/-- the head of a free slot, and of one that has a block -/
abbrev hd0 (r : UInt32) : Hd := ⟨false, 0, 0, 0, r⟩
abbrev hd1 (b : Int) (g : Nat) (xs : List UInt8) (r : UInt32) : Hd := ⟨true, b, g, UInt32.ofNat (sum xs), r⟩
theorem may0 (r : UInt32) : MayBe (hd0 r) := .inr ⟨rfl, rfl, rfl, rfl⟩
theorem may1 {b : Int} {g : Nat} {xs ys : List UInt8} {r s : UInt32} : MayBe (hd1 b g xs r) ↔ MayBe (hd1 b g ys s) := by
  unfold MayBe
  simp
/-- may a block with this number and this generation be? -/
abbrev okB (b : Int) (g : Nat) : Prop := (0 ≤ b ∧ b < 65536) ∧ isG g
theorem may1_iff {b : Int} {g : Nat} {xs : List UInt8} {r : UInt32} : MayBe (hd1 b g xs r) ↔ okB b g := by
  unfold MayBe
  simp

/-- is there the slot? -/
abbrev hasZ (L : List Slt) (z : Int) : Prop := 0 ≤ z ∧ z < (L.length : Int)
def at0 (L : List Slt) (z : Int) : Slt := L.getD z.toNat ⟨0, 0⟩
/-- the writes of a fill: the answer, the slot's wear, what is left -/
def fillS (la i : Nat) (b : Int) (g : Nat) (xs : List UInt8) (r : UInt32) (m : Vs) : Int × UInt32 × Vs :=
  let a := wr1 m (la + 2 * i) (sect (hd0 (r + 1)))
  if a.1 ≠ 0 then (a.1, r, a.2) else
  let c := fl1 a.2
  if c.1 ≠ 0 then (c.1, r + 1, c.2) else
  let d := wr1 c.2 (la + 2 * i + 1) xs
  if d.1 ≠ 0 then (d.1, r + 1, d.2) else
  let e := fl1 d.2
  if e.1 ≠ 0 then (e.1, r + 1, e.2) else
  let f := wr1 e.2 (la + 2 * i) (sect (hd1 b g xs (r + 1)))
  (f.1, r + 1, f.2)
def fill (la : Nat) (z b : Int) (g : Nat) (xs : List UInt8) (L : List Slt) (m : Vs) : Int × List Slt × Vs :=
  if ¬ hasZ L z then (3, L, m) else
  if ¬ (xs.length = 64 ∧ okB b g) then (1, L, m) else
  if isBad (at0 L z) = true then (6, L, m) else
  if (at0 L z).r.toNat = 4294967295 then (5, L, m) else
  let a := fillS la z.toNat b g xs (at0 L z).r m
  (a.1, L.set z.toNat ⟨(at0 L z).f, a.2.1⟩, a.2.2)
/-- a read: the data, its generation, the error; what is left -/
def readS (la : Nat) (z b : Int) (L : List Slt) (m : Vs) : (List UInt8 × Nat × Int) × Vs :=
  if ¬ hasZ L z then (([], 0, 3), m) else
  let a := rd1 m (la + 2 * z.toNat)
  if a.1 ≠ 0 then (([], 0, a.1), a.2.2) else
  let c := rd1 a.2.2 (la + 2 * z.toNat + 1)
  if c.1 ≠ 0 then (([], 0, c.1), c.2.2) else
  let h := hg a.2.1
  if h.2 ≠ 0 then (([], 0, 40), c.2.2) else
  let e := mt h.1.u h.1.l (h.1.s.toNat : Int) b (sum c.2.1)
  if e ≠ 0 then (([], 0, e), c.2.2) else ((c.2.1, h.1.g, 0), c.2.2)
def free (la : Nat) (z : Int) (L : List Slt) (m : Vs) : Int × Vs :=
  if ¬ hasZ L z then (3, m) else
  let a := wr1 m (la + 2 * z.toNat) (sect (hd0 (at0 L z).r))
  if a.1 ≠ 0 then (a.1, a.2) else fl1 a.2
/-- the wear that the next slots' heads tell -/
def wornAt (la i : Nat) (m : Vs) : UInt32 := if (rd1 m (la + 2 * i)).1 = 0 then (hg (rd1 m (la + 2 * i)).2.1).1.r else 0
def opn (la : Nat) : Nat → Nat → Vs → List Slt × Vs
  | 0, _, m => ([], m)
  | k + 1, i, m => let a := opn la k (i + 1) (rd1 m (la + 2 * i)).2.2; (⟨0, wornAt la i m⟩ :: a.1, a.2)
/-- one fault more -/
def fault (L : List Slt) (z : Int) : List Slt := if hasZ L z then L.set z.toNat ⟨(at0 L z).f + 1, (at0 L z).r⟩ else L
def badZ (L : List Slt) (z : Int) : Bool := if hasZ L z then isBad (at0 L z) else false
def heal (L : List Slt) : List Slt := L.map fun s => ⟨0, s.r⟩
def bads (L : List Slt) : Nat := (L.filter isBad).length
def wearZ (L : List Slt) (z : Int) : UInt32 := if hasZ L z then (at0 L z).r else 0
def total : List Slt → Nat
  | [] => 0
  | s :: L => s.r.toNat + total L
/-- the least of these, from what is the least so far on -/
def least (L : List Slt) : List Int → Option Int → Option Int
  | [], o => o
  | z :: l, o => least L l (if hasZ L z ∧ isBad (at0 L z) = false ∧ (∀ y, o = some y → (at0 L z).r.toNat < (at0 L y).r.toNat) then some z else o)
end Go.Proofs.YtapklelkcicjlaaGreatDoor.Pd.Sl

/-! Stores of slots in memory, the program's and the document's: what their blocks hold. No conditions. -/
namespace Go.Proofs.YtapklelkcicjlaaGreatDoor.Pd.Sl
set_option maxRecDepth 100000
open Go.RowKit Oc Dm W Dw Sr W.Hd
set_option linter.unusedVariables false
set_option maxRecDepth 100000

/-- a plan in plain numbers: where the slots begin, how many there are, how many sectors the device has -/
structure Pln (p : Pn.Pl) (la ns n : Nat) : Prop where
  h8 : p.a8 = (la : Int)
  h9 : p.a9 = (ns : Int)
  h12 : p.a12 = (n : Int)
  hn : la + 2 * ns = n
  hn2 : n ≤ 4096
  hl : 1 ≤ ns
  hl2 : ns ≤ 256
/-- the program's store: its cells -/
def stC (D : Nat) (p : Pn.Pl) (v : Value) : Array Value := #[.pointer (some ⟨D, 0, none⟩), .int .i64 p.a0, .int .i64 p.a1, .int .i64 p.a2, .int .i64 p.a3, .int .i64 p.a4, .int .i64 p.a5, .int .i64 p.a6, .int .i64 p.a7, .int .i64 p.a8, .int .i64 p.a9, .int .i64 p.a10, .int .i64 p.a11, .int .i64 p.a12, v]
def slc (s : Slt) : List Value := [.int .i64 (s.f : Int), .int .u32 (s.r.toNat : Int)]
theorem slc_fits (L : List Slt) : Fits 2 (L.map slc) := fun c hc => by
  obtain ⟨s, _, rfl⟩ := List.mem_map.1 hc
  exact ⟨rfl, fun u hu => by
    simp [slc] at hu
    rcases hu with rfl | rfl <;> rfl⟩
/-- a store of the program's at block t, its row at block g -/
structure SlAt (w : World) (t g D : Nat) (p : Pn.Pl) (L : List Slt) : Prop where
  row : ∃ c, w.heap[t]? = some (.cells (stC D p (.slice (some ⟨g, 0, none⟩) L.length c)) 87 (0, 0)) ∧ OwnS w 114 2 0 (.slice (some ⟨g, 0, none⟩) L.length c) (L.map slc) ∧ c ≤ maxLen ∧ L.length ≤ c
  ne : g ≠ t
  pos : 0 < L.length
  many : L.length ≤ 256
  small : ∀ s ∈ L, s.f ≤ 1000000
/-- the document's store: its cells -/
def rsC (E : Nat) (p : Pn.Pl) (v u : Value) : Array Value := #[.pointer (some ⟨E, 0, none⟩), .int .i64 p.a0, .int .i64 p.a1, .int .i64 p.a2, .int .i64 p.a3, .int .i64 p.a4, .int .i64 p.a5, .int .i64 p.a6, .int .i64 p.a7, .int .i64 p.a8, .int .i64 p.a9, .int .i64 p.a10, .int .i64 p.a11, .int .i64 p.a12, v, u]
def wv (s : Slt) : Value := .int .u32 (s.r.toNat : Int)
def fv (s : Slt) : Value := .int .i64 (s.f : Int)
/-- a store of the document's at block t, its rows at blocks a, b -/
structure RsAt (w : World) (t a b E : Nat) (p : Pn.Pl) (L : List Slt) : Prop where
  row : ∃ ca cb, w.heap[t]? = some (.cells (rsC E p (.slice (some ⟨a, 0, none⟩) L.length ca) (.slice (some ⟨b, 0, none⟩) L.length cb)) 110 (0, 0)) ∧ Rw.OwnV w 30 0 (.slice (some ⟨a, 0, none⟩) L.length ca) (L.map wv) ∧ Rw.OwnV w 3 0 (.slice (some ⟨b, 0, none⟩) L.length cb) (L.map fv)
  ne : a ≠ t ∧ b ≠ t ∧ a ≠ b
  pos : 0 < L.length
  many : L.length ≤ 256
  small : ∀ s ∈ L, s.f ≤ 1000000
section
variable {w w' : World} {t g D a b E : Nat} {p : Pn.Pl} {L : List Slt} {F : Nat → Prop}
theorem SlAt.lt (h : SlAt w t g D p L) : t < w.heap.size ∧ g < w.heap.size := by
  obtain ⟨c, h1, h2, _⟩ := h.row
  exact ⟨lt_of_heap h1, (h2.ge g rfl).2⟩
theorem SlAt.heap (h : SlAt w t g D p L) (h1 : w'.heap[t]? = w.heap[t]?) (h2 : w'.heap[g]? = w.heap[g]?) : SlAt w' t g D p L := by
  obtain ⟨c, r1, r2, r3⟩ := h.row
  exact ⟨⟨c, h1.trans r1, r2.keep (fun k e => by injection e with e; subst e; exact h2), r3⟩, h.ne, h.pos, h.many, h.small⟩
theorem SlAt.kept (h : SlAt w t g D p L) (hc : Chg F w w') (h1 : ¬ F t) (h2 : ¬ F g) : SlAt w' t g D p L := h.heap (hc.block t h.lt.1 h1) (hc.block g h.lt.2 h2)
theorem SlAt.below (h : SlAt w t g D p L) (hb : Below w.heap.size w w') : SlAt w' t g D p L := h.heap (hb.block t h.lt.1) (hb.block g h.lt.2)
theorem RsAt.lt (h : RsAt w t a b E p L) : t < w.heap.size ∧ a < w.heap.size ∧ b < w.heap.size := by
  obtain ⟨ca, cb, h1, h2, h3⟩ := h.row
  exact ⟨lt_of_heap h1, (h2.ge a rfl).2, (h3.ge b rfl).2⟩
theorem RsAt.heap (h : RsAt w t a b E p L) (h1 : w'.heap[t]? = w.heap[t]?) (h2 : w'.heap[a]? = w.heap[a]?) (h3 : w'.heap[b]? = w.heap[b]?) : RsAt w' t a b E p L := by
  obtain ⟨ca, cb, r1, r2, r3⟩ := h.row
  exact ⟨⟨ca, cb, h1.trans r1, r2.keep (fun k e => by injection e with e; subst e; exact h2), r3.keep (fun k e => by injection e with e; subst e; exact h3)⟩, h.ne, h.pos, h.many, h.small⟩
theorem RsAt.kept (h : RsAt w t a b E p L) (hc : Chg F w w') (h1 : ¬ F t) (h2 : ¬ F a) (h3 : ¬ F b) : RsAt w' t a b E p L := h.heap (hc.block t h.lt.1 h1) (hc.block a h.lt.2.1 h2) (hc.block b h.lt.2.2 h3)
theorem RsAt.below (h : RsAt w t a b E p L) (hb : Below w.heap.size w w') : RsAt w' t a b E p L := h.heap (hb.block t h.lt.1) (hb.block a h.lt.2.1) (hb.block b h.lt.2.2)
end
def Tab1 (w : World) (H : Nat → Prop) (T : Option Addr) (D : Nat) (p : Pn.Pl) : Option (List Slt) → Prop
  | none => T = none
  | some L => ∃ t g, T = some ⟨t, 0, none⟩ ∧ H t ∧ H g ∧ SlAt w t g D p L
def Tab2 (w : World) (H : Nat → Prop) (T : Option Addr) (E : Nat) (p : Pn.Pl) : Option (List Slt) → Prop
  | none => T = none
  | some L => ∃ t a b, T = some ⟨t, 0, none⟩ ∧ H t ∧ H a ∧ H b ∧ RsAt w t a b E p L
theorem Tab1.kept {w w' : World} {H F : Nat → Prop} {T : Option Addr} {D : Nat} {p : Pn.Pl} {t : Option (List Slt)} (h : Tab1 w H T D p t) (hc : Chg F w w') (hF : ∀ k, H k → ¬ F k) : Tab1 w' H T D p t := by
  cases t with
  | none => exact h
  | some L => obtain ⟨a, g, e, b, b2, x⟩ := h; exact ⟨a, g, e, b, b2, x.kept hc (hF _ b) (hF _ b2)⟩
theorem Tab2.kept {w w' : World} {H F : Nat → Prop} {T : Option Addr} {D : Nat} {p : Pn.Pl} {t : Option (List Slt)} (h : Tab2 w H T D p t) (hc : Chg F w w') (hF : ∀ k, H k → ¬ F k) : Tab2 w' H T D p t := by
  cases t with
  | none => exact h
  | some L => obtain ⟨a, g, k, e, b, b2, b3, x⟩ := h; exact ⟨a, g, k, e, b, b2, b3, x.kept hc (hF _ b) (hF _ b2) (hF _ b3)⟩
end Go.Proofs.YtapklelkcicjlaaGreatDoor.Pd.Sl

/-! What is asked of a store: Len, has, find, Bad, Wear; of one that nobody made. No conditions. -/
namespace Go.Proofs.YtapklelkcicjlaaGreatDoor.Pd.Sl
set_option maxRecDepth 100000
open Go.RowKit Oc Dm W Dw Sr Gt W.Hd
set_option linter.unusedVariables false
set_option maxRecDepth 100000
attribute [local go_sem ↓] Go.wp_at_zero Go.wp_at_succ

theorem made_nil (w : World) : Calls Tryz.prog 88 #[.pointer none] w fun e w' => e = .returned (.bool false) ∧ w = w' := by
  go_enter Tryz.func88, Tryz.ntmps88
  go_wp2
  go_ret
  exact ⟨rfl, rfl⟩
theorem made_odd (w : World) (T : Nat) (c0 : w.cell? ⟨T, 0, none⟩ = some (.pointer none)) : Calls Tryz.prog 88 #[.pointer (some ⟨T, 0, none⟩)] w fun e w' => e = .returned (.bool false) ∧ w = w' := by
  go_enter Tryz.func88, Tryz.ntmps88
  go_wp2
  go_ret
  exact ⟨rfl, rfl⟩
/-- a store that nobody made -/
def Odd (w : World) (x : Value) : Prop := x = .pointer none ∨ ∃ T, x = .pointer (some ⟨T, 0, none⟩) ∧ w.cell? ⟨T, 0, none⟩ = some (.pointer none)
theorem made_not {w : World} {x : Value} (h : Odd w x) : Calls Tryz.prog 88 #[x] w fun e w' => e = .returned (.bool false) ∧ w = w' := by
  rcases h with rfl | ⟨T, rfl, c⟩
  · exact made_nil w
  · exact made_odd w T c
theorem len_not {w : World} {x : Value} (h : Odd w x) : Calls Tryz.prog 36 #[x] w fun e w' => e = .returned (.int .i64 0) ∧ w = w' := by
  have H := Lib.hid h
  clear h
  go_enter Tryz.func36, Tryz.ntmps36
  go_wp2_with fail
  refine (made_not H.out).mono ?_; rintro e w' ⟨rfl, rfl⟩
  go_wp2
  go_ret
  exact ⟨rfl, rfl⟩
theorem has_not {w : World} {x : Value} (h : Odd w x) (z : Int) : Calls Tryz.prog 66 #[x, .int .i64 z] w fun e w' => e = .returned (.bool false) ∧ w = w' := by
  have H := Lib.hid h
  clear h
  by_cases hz : 0 ≤ z
  · go_enter Tryz.func66, Tryz.ntmps66
    go_wp2_with fail
    refine (len_not H.out).mono ?_; rintro e w' ⟨rfl, rfl⟩
    go_wp2
    go_ret
    exact ⟨by simp; omega, rfl⟩
  · go_enter Tryz.func66, Tryz.ntmps66
    go_wp2_with fail
    go_ret
    exact ⟨rfl, rfl⟩
theorem find_not {w : World} {x : Value} (h : Odd w x) (z : Int) : Calls Tryz.prog 58 #[x, .int .i64 z] w fun e w' => e = .returned (.int .i64 2) ∧ w = w' := by
  have H := Lib.hid h
  clear h
  go_enter Tryz.func58, Tryz.ntmps58
  go_wp2_with fail
  refine (made_not H.out).mono ?_; rintro e w' ⟨rfl, rfl⟩
  go_wp2
  go_ret
  exact ⟨rfl, rfl⟩
section
variable {w w' : World} {t g D : Nat} {p : Pn.Pl} {L : List Slt}
theorem SlAt.cells (h : SlAt w t g D p L) : w.cell? ⟨t, 0, none⟩ = some (.pointer (some ⟨D, 0, none⟩)) ∧ (∃ c, w.cell? ⟨t, 14, none⟩ = some (.slice (some ⟨g, 0, none⟩) L.length c) ∧ L.length ≤ c ∧ c ≤ maxLen) ∧ ∀ j, w.frozen? ⟨t, j, none⟩ = false := by
  obtain ⟨c, h1, h2, h3, h4⟩ := h.row
  refine ⟨?_, ⟨c, ?_, h4, h3⟩, fun j => frozen_of_row w t j _ _ h1⟩ <;> rw [cell_of_row w t _ _ _ (0, 0) h1] <;> rfl
theorem SlAt.at_ (h : SlAt w t g D p L) {i : Nat} {s : Slt} (hs : L[i]? = some s) : w.cell? ⟨g, i * 2, none⟩ = some (.int .i64 (s.f : Int)) ∧ w.cell? ⟨g, i * 2 + 1, none⟩ = some (.int .u32 (s.r.toNat : Int)) ∧ ∀ j, w.frozen? ⟨g, j, none⟩ = false := by
  obtain ⟨c, h1, h2, h3, h4⟩ := h.row
  have hm : (L.map slc)[i]? = some (slc s) := by rw [List.getElem?_map, hs]; rfl
  refine ⟨(h2.cell (by simp) hm (j := 0) rfl).1, (h2.cell (by simp) hm (j := 1) rfl).1, fun j => by have h5 := h2.2; rw [List.length_map] at h5; exact World.ownsRow.frozenAt h5 j⟩
theorem has_get {z : Int} (h : hasZ L z) : ∃ i : Nat, z = (i : Int) ∧ i < L.length ∧ L[i]? = some (at0 L z) := by
  refine ⟨z.toNat, by omega, by omega, ?_⟩
  unfold at0
  rw [List.getD_eq_getElem?_getD, List.getElem?_eq_getElem (by omega)]
  rfl
theorem made_any (h : SlAt w t g D p L) : Calls Tryz.prog 88 #[.pointer (some ⟨t, 0, none⟩)] w fun e w' => e = .returned (.bool true) ∧ w = w' := by
  obtain ⟨c0, _, fr⟩ := h.cells
  clear h
  go_enter Tryz.func88, Tryz.ntmps88
  go_wp2
  go_ret
  exact ⟨rfl, rfl⟩
theorem len_any (h : SlAt w t g D p L) : Calls Tryz.prog 36 #[.pointer (some ⟨t, 0, none⟩)] w fun e w' => e = .returned (.int .i64 (L.length : Int)) ∧ w = w' := by
  have H := Lib.hid h
  obtain ⟨c0, ⟨c, c14, hc1, hc2⟩, fr⟩ := h.cells
  clear h
  go_enter Tryz.func36, Tryz.ntmps36
  go_wp2_with fail
  refine (made_any H.out).mono ?_; rintro e w' ⟨rfl, rfl⟩
  go_wp2
  go_ret
  exact ⟨rfl, rfl⟩
theorem has_any (h : SlAt w t g D p L) (z : Int) : Calls Tryz.prog 66 #[.pointer (some ⟨t, 0, none⟩), .int .i64 z] w fun e w' => e = .returned (.bool (decide (hasZ L z))) ∧ w = w' := by
  have H := Lib.hid h
  clear h
  by_cases hz : 0 ≤ z
  · go_enter Tryz.func66, Tryz.ntmps66
    go_wp2_with fail
    refine (len_any H.out).mono ?_; rintro e w' ⟨rfl, rfl⟩
    go_wp2
    go_ret
    exact ⟨by simp [hz], rfl⟩
  · go_enter Tryz.func66, Tryz.ntmps66
    go_wp2_with fail
    go_ret
    exact ⟨by simp; omega, rfl⟩
theorem has_yes (h : SlAt w t g D p L) {z : Int} (hz : hasZ L z) : Calls Tryz.prog 66 #[.pointer (some ⟨t, 0, none⟩), .int .i64 z] w fun e w' => e = .returned (.bool true) ∧ w = w' :=
  (has_any h z).mono fun e w' ⟨e1, e2⟩ => ⟨by rw [e1, decide_eq_true hz], e2⟩
theorem has_no (h : SlAt w t g D p L) {z : Int} (hz : ¬ hasZ L z) : Calls Tryz.prog 66 #[.pointer (some ⟨t, 0, none⟩), .int .i64 z] w fun e w' => e = .returned (.bool false) ∧ w = w' :=
  (has_any h z).mono fun e w' ⟨e1, e2⟩ => ⟨by rw [e1, decide_eq_false hz], e2⟩
theorem find_yes (h : SlAt w t g D p L) {z : Int} (hz : hasZ L z) : Calls Tryz.prog 58 #[.pointer (some ⟨t, 0, none⟩), .int .i64 z] w fun e w' => e = .returned (.int .i64 0) ∧ w = w' := by
  have H := Lib.hid h
  have HZ := Lib.hid hz
  clear h hz
  go_enter Tryz.func58, Tryz.ntmps58
  go_wp2_with fail
  refine (made_any H.out).mono ?_; rintro e w' ⟨rfl, rfl⟩
  go_wp2_with fail
  refine (has_yes H.out HZ.out).mono ?_; rintro e w' ⟨rfl, rfl⟩
  go_wp2
  go_ret
  exact ⟨rfl, rfl⟩
theorem find_no (h : SlAt w t g D p L) {z : Int} (hz : ¬ hasZ L z) : Calls Tryz.prog 58 #[.pointer (some ⟨t, 0, none⟩), .int .i64 z] w fun e w' => e = .returned (.int .i64 3) ∧ w = w' := by
  have H := Lib.hid h
  have HZ := Lib.hid hz
  clear h hz
  go_enter Tryz.func58, Tryz.ntmps58
  go_wp2_with fail
  refine (made_any H.out).mono ?_; rintro e w' ⟨rfl, rfl⟩
  go_wp2_with fail
  refine (has_no H.out HZ.out).mono ?_; rintro e w' ⟨rfl, rfl⟩
  go_wp2
  go_ret
  exact ⟨rfl, rfl⟩
theorem bad_not (h : SlAt w t g D p L) {z : Int} (hz : ¬ hasZ L z) : Calls Tryz.prog 34 #[.pointer (some ⟨t, 0, none⟩), .int .i64 z] w fun e w' => e = .returned (.bool false) ∧ w = w' := by
  have H := Lib.hid h
  have HZ := Lib.hid hz
  clear h hz
  go_enter Tryz.func34, Tryz.ntmps34
  go_wp2_with fail
  refine (has_no H.out HZ.out).mono ?_; rintro e w' ⟨rfl, rfl⟩
  go_wp2
  go_ret
  exact ⟨rfl, rfl⟩
theorem bad_odd {w : World} {x : Value} (h : Odd w x) (z : Int) : Calls Tryz.prog 34 #[x, .int .i64 z] w fun e w' => e = .returned (.bool false) ∧ w = w' := by
  have H := Lib.hid h
  clear h
  go_enter Tryz.func34, Tryz.ntmps34
  go_wp2_with fail
  refine (has_not H.out z).mono ?_; rintro e w' ⟨rfl, rfl⟩
  go_wp2
  go_ret
  exact ⟨rfl, rfl⟩
theorem bad_yes (h : SlAt w t g D p L) {z : Int} (hz : hasZ L z) : Calls Tryz.prog 34 #[.pointer (some ⟨t, 0, none⟩), .int .i64 z] w fun e w' => e = .returned (.bool (isBad (at0 L z))) ∧ w = w' := by
  have H := Lib.hid h
  have HZ := Lib.hid hz
  obtain ⟨c0, ⟨c, c14, hc1, hc2⟩, fr⟩ := h.cells
  obtain ⟨i, rfl, hi, hg⟩ := has_get hz
  obtain ⟨d0, d1, fg⟩ := h.at_ hg
  have hsm := h.small _ (List.mem_of_getElem? hg)
  generalize at0 L (i : Int) = s at hg d0 d1 hsm ⊢
  have hii : (i : Int) < (L.length : Int) := by omega
  clear h hz
  go_enter Tryz.func34, Tryz.ntmps34
  go_wp2_with fail
  refine (has_yes H.out HZ.out).mono ?_; rintro e w' ⟨rfl, rfl⟩
  go_wp2
  go_ret
  refine ⟨?_, rfl⟩
  unfold isBad
  simp
  omega
theorem wear_yes (h : SlAt w t g D p L) {z : Int} (hz : hasZ L z) : Calls Tryz.prog 14 #[.pointer (some ⟨t, 0, none⟩), .int .i64 z] w fun e w' => e = .returned (.int .u32 ((at0 L z).r.toNat : Int)) ∧ w = w' := by
  have H := Lib.hid h
  have HZ := Lib.hid hz
  obtain ⟨c0, ⟨c, c14, hc1, hc2⟩, fr⟩ := h.cells
  obtain ⟨i, rfl, hi, hg⟩ := has_get hz
  obtain ⟨d0, d1, fg⟩ := h.at_ hg
  generalize at0 L (i : Int) = s at hg d0 d1 ⊢
  have hii : (i : Int) < (L.length : Int) := by omega
  clear h hz
  go_enter Tryz.func14, Tryz.ntmps14
  go_wp2_with fail
  refine (has_yes H.out HZ.out).mono ?_; rintro e w' ⟨rfl, rfl⟩
  go_wp2
  go_ret
  exact ⟨rfl, rfl⟩
theorem wear_no (h : SlAt w t g D p L) {z : Int} (hz : ¬ hasZ L z) : Calls Tryz.prog 14 #[.pointer (some ⟨t, 0, none⟩), .int .i64 z] w fun e w' => e = .returned (.int .u32 0) ∧ w = w' := by
  have H := Lib.hid h
  have HZ := Lib.hid hz
  clear h hz
  go_enter Tryz.func14, Tryz.ntmps14
  go_wp2_with fail
  refine (has_no H.out HZ.out).mono ?_; rintro e w' ⟨rfl, rfl⟩
  go_wp2
  go_ret
  exact ⟨rfl, rfl⟩
theorem wear_odd {w : World} {x : Value} (h : Odd w x) (z : Int) : Calls Tryz.prog 14 #[x, .int .i64 z] w fun e w' => e = .returned (.int .u32 0) ∧ w = w' := by
  have H := Lib.hid h
  clear h
  go_enter Tryz.func14, Tryz.ntmps14
  go_wp2_with fail
  refine (has_not H.out z).mono ?_; rintro e w' ⟨rfl, rfl⟩
  go_wp2
  go_ret
  exact ⟨rfl, rfl⟩
/-- what Wear and Bad tell, of any number -/
theorem wear_any (h : SlAt w t g D p L) (z : Int) : Calls Tryz.prog 14 #[.pointer (some ⟨t, 0, none⟩), .int .i64 z] w fun e w' => e = .returned (.int .u32 ((wearZ L z).toNat : Int)) ∧ w = w' := by
  unfold wearZ
  by_cases hz : hasZ L z
  · rw [if_pos hz]; exact wear_yes h hz
  · rw [if_neg hz]; exact wear_no h hz
theorem bad_any (h : SlAt w t g D p L) (z : Int) : Calls Tryz.prog 34 #[.pointer (some ⟨t, 0, none⟩), .int .i64 z] w fun e w' => e = .returned (.bool (badZ L z)) ∧ w = w' := by
  unfold badZ
  by_cases hz : hasZ L z
  · rw [if_pos hz]; exact bad_yes h hz
  · rw [if_neg hz]; exact bad_not h hz
end
end Go.Proofs.YtapklelkcicjlaaGreatDoor.Pd.Sl

/-! Writes to slots: the functions that write a head and data, and that wear a slot; firstError. No conditions. -/
namespace Go.Proofs.YtapklelkcicjlaaGreatDoor.Pd.Sl
set_option maxRecDepth 100000
open Go.RowKit Oc Dm W Dw Sr Gt W.Hd
set_option linter.unusedVariables false
set_option maxRecDepth 100000
attribute [local go_sem ↓] Go.wp_at_zero Go.wp_at_succ

/-- cells one behind the other, loaded as a struct -/
theorem run_load_cells {P : Program} {w : World} {ty : TypeId} {d : TypeDesc} {k b off : Nat} {cs : List Value} (hu : P.underlying ty = some d) (hd : (match d with | .struct _ | .array _ _ => true | _ => false) = true) (hi : (P.info? ty).map (·.size) = some k) (hk : cs.length = k) (hc : ∀ j v, cs[j]? = some v → w.cell? ⟨b, off + j, none⟩ = some v) :
    (Instr.loadAt ty (.pointer (some ⟨b, off, none⟩))).run P w = .ok (.agg cs.toArray) w := by
  have hl : (loadCells ⟨b, off, none⟩ cs.length).run P w = .ok cs.toArray w :=
    run_loadCells_list (P := P) w ⟨b, off, none⟩ cs (fun j u hv => by
      have hadd : (⟨b, off, none⟩ : Addr).add j = ⟨b, off + j, none⟩ := by unfold Addr.add; split <;> simp_all
      rw [hadd]
      exact hc j u hv)
  rw [hk] at hl
  obtain ⟨i0, hi0, hs⟩ := Option.map_eq_some_iff.1 hi
  have hagg : (isAgg ty).run P w = .ok true w := by
    simp only [isAgg, Sem.run_bind, run_underlying hu, Result.andThen_ok]
    cases d <;> simp at hd <;> rfl
  have hsz : (sizeOf ty).run P w = .ok k w := by simp [sizeOf, typeInfo, hi0, hs]
  simp only [Instr.loadAt, Instr.sureAddr, Sem.run_bind, Sem.run_pure, Result.andThen_ok, loadVar, hagg, if_true, hsz, hl]
/-- a load whose run is known -/
theorem L_ld {P : Program} {ops : Array Oper} {rest : List Oper} {a : Act} {w : World} {Q : Exit → Act → World → Prop} {dst : Option Tmp} {ty0 ty : TypeId} {pos : String} {af : Array Edge} {x : Operand} {v r : Value} (hx : a.eval x = v) (hrun : (Instr.loadAt ty0 v).run P w = .ok r w)
    (hK : wpList P ops Q rest (a.put dst r) w) : wpList P ops Q (⟨dst, .load ty0 x, ty, pos, af, none⟩ :: rest) a w := by
  refine wpList_plain rfl fun K hK' => ?_
  unfold Oper.wp
  simp [execOp, hx, hrun, Result.andThen]
  exact hK' _ _ hK
theorem info_place : (Tryz.prog.info? 84).map (·.size) = some 14 := by kernel_rfl
theorem field_9 (p : Pn.Pl) (w : World) : (Instr.field 41 (.agg #[.int .i64 p.a0, .int .i64 p.a1, .int .i64 p.a2, .int .i64 p.a3, .int .i64 p.a4, .int .i64 p.a5, .int .i64 p.a6, .int .i64 p.a7, .int .i64 p.a8, .int .i64 p.a9, .int .i64 p.a10, .int .i64 p.a11, .int .i64 p.a12]) 9).run Tryz.prog w = .ok (.int .i64 p.a9) w := by kernel_rfl
theorem field_11 (p : Pn.Pl) (w : World) : (Instr.field 41 (.agg #[.int .i64 p.a0, .int .i64 p.a1, .int .i64 p.a2, .int .i64 p.a3, .int .i64 p.a4, .int .i64 p.a5, .int .i64 p.a6, .int .i64 p.a7, .int .i64 p.a8, .int .i64 p.a9, .int .i64 p.a10, .int .i64 p.a11, .int .i64 p.a12]) 11).run Tryz.prog w = .ok (.int .i64 p.a12) w := by kernel_rfl
/-- a place in its box -/
def PBox (w : World) (b D : Nat) (p : Pn.Pl) : Prop := w.heap[b]? = some (.cells #[.pointer (some ⟨D, 0, none⟩), .int .i64 p.a0, .int .i64 p.a1, .int .i64 p.a2, .int .i64 p.a3, .int .i64 p.a4, .int .i64 p.a5, .int .i64 p.a6, .int .i64 p.a7, .int .i64 p.a8, .int .i64 p.a9, .int .i64 p.a10, .int .i64 p.a11, .int .i64 p.a12] 84 (0, 0))
theorem PBox.map {w : World} {b D : Nat} {p : Pn.Pl} (h : PBox w b D p) : (Instr.loadAt 45 (.pointer (some ⟨b, 1, none⟩))).run Tryz.prog w = .ok (.agg #[.int .i64 p.a0, .int .i64 p.a1, .int .i64 p.a2, .int .i64 p.a3, .int .i64 p.a4, .int .i64 p.a5, .int .i64 p.a6, .int .i64 p.a7, .int .i64 p.a8, .int .i64 p.a9, .int .i64 p.a10, .int .i64 p.a11, .int .i64 p.a12]) w :=
  run_load_cells (cs := [.int .i64 p.a0, .int .i64 p.a1, .int .i64 p.a2, .int .i64 p.a3, .int .i64 p.a4, .int .i64 p.a5, .int .i64 p.a6, .int .i64 p.a7, .int .i64 p.a8, .int .i64 p.a9, .int .i64 p.a10, .int .i64 p.a11, .int .i64 p.a12]) Tryz.underlying45 rfl Pn.info_map rfl (fun j v hv => by
    rw [cell_of_row w b _ _ _ _ h]
    have hj : j < 13 := by
      rcases Nat.lt_or_ge j 13 with h | h
      · exact h
      · rw [List.getElem?_eq_none (by simpa using h)] at hv; cases hv
    match j, hj, hv with
    | 0, _, hv => exact hv
    | 1, _, hv => exact hv
    | 2, _, hv => exact hv
    | 3, _, hv => exact hv
    | 4, _, hv => exact hv
    | 5, _, hv => exact hv
    | 6, _, hv => exact hv
    | 7, _, hv => exact hv
    | 8, _, hv => exact hv
    | 9, _, hv => exact hv
    | 10, _, hv => exact hv
    | 11, _, hv => exact hv
    | 12, _, hv => exact hv)
theorem PBox.dev {w : World} {b D : Nat} {p : Pn.Pl} (h : PBox w b D p) : w.cell? ⟨b, 0, none⟩ = some (.pointer (some ⟨D, 0, none⟩)) := by rw [cell_of_row w b _ _ _ _ h]; rfl
theorem slot_any {p : Pn.Pl} {la ns n : Nat} (hp : Pln p la ns n) (i : Nat) (hi : i < ns) (w : World) : Calls Tryz.prog 113 #[(.agg #[.int .i64 p.a0, .int .i64 p.a1, .int .i64 p.a2, .int .i64 p.a3, .int .i64 p.a4, .int .i64 p.a5, .int .i64 p.a6, .int .i64 p.a7, .int .i64 p.a8, .int .i64 p.a9, .int .i64 p.a10, .int .i64 p.a11, .int .i64 p.a12]), .int .i64 (i : Int)] w fun e w' => e = .returned (.tuple #[.int .i64 ((la + 2 * i : Nat) : Int), .int .i64 ((la + 2 * i + 1 : Nat) : Int), .bool true]) ∧ Below w.heap.size w w' := by
  refine (Pn.slot_yes p (i : Int) w (by omega) (by rw [hp.h9]; omega) (by rw [hp.h9]; have := hp.hl2; omega) (by rw [hp.h8]; omega) (by rw [hp.h8]; have := hp.hn; have := hp.hn2; omega)).mono fun e w' ⟨e1, e2⟩ => ⟨?_, e2⟩
  have h1 : p.a8 + 2 * (i : Int) = ((la + 2 * i : Nat) : Int) := by rw [hp.h8]; omega
  have h2 : p.a8 + 2 * (i : Int) + 1 = ((la + 2 * i + 1 : Nat) : Int) := by rw [hp.h8]; omega
  rw [e1, h2, h1]
theorem own_oct {w : World} {B : Nat} {v : Value} {xs : List UInt8} (h : Own w 5 B v xs) (hl : xs.length = 64) : ∃ g c, v = .slice (some ⟨g, 0, none⟩) 64 c ∧ B ≤ g ∧ g < w.heap.size ∧ Oct w (some ⟨g, 0, none⟩) 64 xs := by
  obtain ⟨A, c, hv, _, ho⟩ := h.form hl
  obtain ⟨b, off, e, _⟩ := ho.2 (by decide)
  subst e hv
  have hg := h.ge b rfl
  rcases h.2 with ⟨e1, h0⟩ | ⟨g, cap, cur, e1, hb, _⟩
  · cases e1
  · injection e1 with e1 e2 e3
    injection e1 with e1
    injection e1 with e1 e4
    subst e4
    exact ⟨b, c, rfl, hg.1, hg.2, ho⟩
/-- A DEVICE OF THE PROGRAM's AND ITS STORE on the way, from w0 on -/
structure FJ (w0 : World) (F : Nat → Prop) (D q n N : Nat) (m : Vs) (t g : Nat) (p : Pn.Pl) (L : List Slt) (w : World) : Prop where
  pd : PD w (Ext F w0 w) D q n N m
  sl : SlAt w t g D p L
  chg : Chg (fun b => Al F q b ∨ b = g) w0 w
  base : (∀ k, Al F q k → k < w0.heap.size) ∧ ¬ F q
  ap : ¬ Al F q t ∧ ¬ Al F q g
  lt : t < w0.heap.size ∧ g < w0.heap.size
section
variable {w0 w w' : World} {F : Nat → Prop} {D q n N N' t g b : Nat} {m m' : Vs} {p : Pn.Pl} {L L' : List Slt} {o : Obj}
theorem FJ.start (h : PD w F D q n N m) (hs : SlAt w t g D p L) (h1 : ¬ Al F q t) (h2 : ¬ Al F q g) : FJ w F D q n N m t g p L w :=
  ⟨h.wide (fun _ x => .inl x) (ext_bound (fun k x => h.bound k (.inl x)) (Nat.le_refl _)) (fun x => x.elim h.np (fun y => by omega)), hs, Chg.refl _ _, ⟨h.bound, h.np⟩, ⟨h1, h2⟩, hs.lt⟩
theorem al_ext {k : Nat} (h : Al (Ext F w0 w) q k) (hk : k < w0.heap.size) : Al F q k := h.elim (fun y => y.elim .inl (fun z => absurd z.1 (by omega))) .inr
/-- the device has done something -/
theorem FJ.then2 {wb : World} (h : FJ w0 F D q n N m t g p L w) (hb : Below w.heap.size w wb) (h1 : PD w' (Ext (Ext F w0 w) wb w') D q n N' m') (hc : Chg (Al (Ext F w0 w) q) wb w') : FJ w0 F D q n N' m' t g p L w' := by
  have z1 := h.chg.size
  have z3 := hb.size
  have z2 := hc.size
  refine ⟨h1.wide (fun k x => x.elim (fun y => y.imp id (fun z => ⟨z.1, Nat.lt_of_lt_of_le z.2 (Nat.le_trans z3 z2)⟩)) (fun y => .inr ⟨Nat.le_trans z1 (Nat.le_trans z3 y.1), y.2⟩)) (ext_bound (fun k x => h.base.1 k (.inl x)) (Nat.le_trans z1 (Nat.le_trans z3 z2))) (fun x => x.elim h.base.2 (fun y => by have := h.base.1 q (.inr rfl); omega)), ?_, ?_, h.base, h.ap, h.lt⟩
  · exact (h.sl.below hb).kept hc (fun x => h.ap.1 (al_ext x h.lt.1)) (fun x => h.ap.2 (al_ext x h.lt.2))
  · exact (h.chg.trans (Chg.of_below (F := fun b => Al F q b ∨ b = g) hb) (fun _ _ x => x)).trans hc (fun k hk x => .inl (al_ext x hk))
theorem FJ.below (h : FJ w0 F D q n N m t g p L w) (hb : Below w.heap.size w w') : FJ w0 F D q n N m t g p L w' :=
  ⟨(h.pd.below hb).wide (fun k x => x.imp id (fun y => ⟨y.1, Nat.lt_of_lt_of_le y.2 hb.size⟩)) (ext_bound (fun k x => h.base.1 k (.inl x)) (Nat.le_trans h.chg.size hb.size)) (fun x => x.elim h.base.2 (fun y => by have := h.base.1 q (.inr rfl); omega)), h.sl.below hb, h.chg.trans (Chg.of_below (F := fun b => Al F q b ∨ b = g) hb) (fun _ _ x => x), h.base, h.ap, h.lt⟩
theorem FJ.more (h : FJ w0 F D q n N m t g p L w) (hN : N ≤ N') (hb : N' ≤ 1000000) : FJ w0 F D q n N' m t g p L w := ⟨h.pd.more hN hb, h.sl, h.chg, h.base, h.ap, h.lt⟩
/-- the store's row has turned -/
theorem FJ.row (h : FJ w0 F D q n N m t g p L w) (hs : SlAt w' t g D p L') (hg : w.grownBy w' (some g)) : FJ w0 F D q n N m t g p L' w' := by
  have hc : Chg (fun b => b = g) w w' := Chg.of_grown hg (fun k e _ => by injection e with e; exact e.symm)
  refine ⟨?_, hs, h.chg.trans hc (fun k hk x => .inr x), h.base, h.ap, h.lt⟩
  exact (h.pd.kept hc (fun k x e => h.ap.2 (e ▸ al_ext x (e ▸ h.lt.2)))).wide (fun k x => x.imp id (fun y => ⟨y.1, Nat.lt_of_lt_of_le y.2 hg.size⟩)) (ext_bound (fun k x => h.base.1 k (.inl x)) (Nat.le_trans h.chg.size hg.size)) (fun x => x.elim h.base.2 (fun y => by have := h.base.1 q (.inr rfl); omega))
/-- a block of w0's that is none of these -/
def Out (F : Nat → Prop) (q g b : Nat) : Prop := ¬ Al F q b ∧ b ≠ g
theorem FJ.at_ (h : FJ w0 F D q n N m t g p L w) (e : w0.heap[b]? = some o) (hb : Out F q g b) : w.heap[b]? = some o := (h.chg.block b (lt_of_heap e) (fun x => x.elim hb.1 hb.2)).trans e
/-- what a whole call leaves, from wa on -/
theorem FJ.end_ {wa : World} (h : FJ w0 F D q n N m t g p L w) (hb : Below wa.heap.size wa w0) (hF : ∀ k, Al F q k → k < wa.heap.size) : PD w (Ext F wa w) D q n N m ∧ SlAt w t g D p L ∧ Chg (fun b => Al F q b ∨ b = g) wa w :=
  ⟨h.pd.wide (fun k x => x.imp id (fun y => ⟨Nat.le_trans hb.size y.1, y.2⟩)) (ext_bound (fun k x => hF k (.inl x)) (Nat.le_trans hb.size h.chg.size)) (fun x => x.elim h.base.2 (fun y => by have := hF q (.inr rfl); omega)), h.sl, (Chg.of_below (F := fun b => Al F q b ∨ b = g) hb).trans h.chg (fun _ _ x => x)⟩
/-- both tables stand below these blocks -/
def EBl (w : World) (F : Nat → Prop) (q g : Nat) : Prop := EnvH w ∧ ∀ b, (Al F q b ∨ b = g) → 1 < b ∧ 0 < b
theorem envh_heap {w w' : World} (h : EnvH w) (h1 : w'.heap[1]? = w.heap[1]?) (h2 : w'.heap[0]? = w.heap[0]?) : EnvH w' := by
  obtain ⟨⟨t1, f1, e1⟩, t2, f2, e2⟩ := h
  exact ⟨⟨t1, f1, h1.trans e1⟩, t2, f2, h2.trans e2⟩
theorem EBl.chg {w w' : World} {F : Nat → Prop} {q g : Nat} (h : EBl w F q g) (hc : Chg (fun b => Al F q b ∨ b = g) w w') : EnvH w' := by
  obtain ⟨⟨⟨t1, f1, e1⟩, t2, f2, e2⟩, hb⟩ := h
  exact ⟨⟨t1, f1, (hc.block _ (lt_of_heap e1) (fun x => by have := (hb _ x).1; omega)).trans e1⟩, t2, f2, (hc.block _ (lt_of_heap e2) (fun x => by have := (hb _ x).2; omega)).trans e2⟩
theorem EBl.below {w w' : World} {F : Nat → Prop} {q g : Nat} (h : EBl w F q g) (hb : Below w.heap.size w w') : EBl w' F q g := ⟨h.1.below hb, h.2⟩
end

/-- what is captured of a head's write -/
structure HB (w : World) (F : Nat → Prop) (q g bh bp bs D : Nat) (p : Pn.Pl) (i : Nat) (h : Hd) : Prop where
  hb : w.heap[bh]? = some (.cells #[.bool h.u, .int .i64 h.l, .int .u64 (h.g : Int), .int .u32 (h.s.toNat : Int), .int .u32 (h.r.toNat : Int)] 32 (0, 0))
  pb : PBox w bp D p
  sb : w.heap[bs]? = some (.cells #[.int .i64 (i : Int)] 3 (0, 0))
  o1 : Out F q g bh
  o2 : Out F q g bp
  o3 : Out F q g bs
/-- what is captured of data's write -/
structure DB (w : World) (F : Nat → Prop) (q g bp bs bd D : Nat) (p : Pn.Pl) (i : Nat) (A : Option Addr) (c : Nat) (xs : List UInt8) : Prop where
  pb : PBox w bp D p
  sb : w.heap[bs]? = some (.cells #[.int .i64 (i : Int)] 3 (0, 0))
  db : w.heap[bd]? = some (.cells #[.slice A 64 c] 57 (0, 0))
  oct : Oct w A 64 xs
  o0 : ∀ b off, A = some ⟨b, off, none⟩ → Out F q g b
  o1 : Out F q g bp
  o2 : Out F q g bs
  o3 : Out F q g bd
section
variable {w1 y : World} {F : Nat → Prop} {D q n N t g la ns i bh bp bs bd c : Nat} {m : Vs} {p : Pn.Pl} {L : List Slt} {h : Hd} {A : Option Addr} {xs : List UInt8} {r : UInt32}
set_option maxHeartbeats 2000000 in
theorem layH1 (J : FJ w1 F D q n N m t g p L y) (hB : HB w1 F q g bh bp bs D p i h) (hp : Pln p la ns n) (hi : i < ns) (hm : MayBe h) (he : EBl w1 F q g) (hN : N + 1 ≤ 1000000) :
    Calls Tryz.prog 112 #[.pointer (some ⟨bh, 0, none⟩), .pointer (some ⟨bp, 0, none⟩), .pointer (some ⟨bs, 0, none⟩)] y fun e y' => e = .returned (.int .i64 (wr1 m (la + 2 * i) (sect h)).1) ∧ FJ w1 F D q n (N + 1) (wr1 m (la + 2 * i) (sect h)).2 t g p L y' := by
  have HJ := Lib.hid J
  have EN : Hid (EnvH y) := he.chg J.chg
  have X1 := Lib.hid (J.at_ hB.hb hB.o1)
  have X2 : Hid (PBox y bp D p) := J.at_ hB.pb hB.o2
  have X3 := Lib.hid (J.at_ hB.sb hB.o3)
  have HP := Lib.hid hp
  have HI := Lib.hid hi
  have HM := Lib.hid hm
  clear J he hp hi hm hB
  go_enter Tryz.func112, Tryz.ntmps112
  go_wp2_with ((with_reducible apply L_loadHd); exact rfl; exact X1.out; exact rfl)
  refine (hdput_ok h _ HM.out EN.out).mono ?_; rintro e w2 ⟨v2, rfl, o2, b2⟩
  have O2 := Lib.hid o2
  obtain ⟨k2, c2, rfl, ge2, lt2, s2⟩ := own_oct o2 (sect_length h)
  have S2 := Lib.hid s2
  have G2 : Hid (y.heap.size ≤ k2 ∧ k2 < w2.heap.size) := ⟨ge2, lt2⟩
  have B2 := Lib.hid b2
  have Y2 : Hid (PBox w2 bp D p) := kept_below X2.out b2
  have Y3 := Lib.hid (kept_below X3.out b2)
  clear o2 s2 b2 ge2 lt2
  have y3 : w2.cell? ⟨bs, 0, none⟩ = some (.int .i64 (i : Int)) := by rw [cell_of_row w2 bs _ _ _ _ Y3.out]; rfl
  go_wp2_with ((with_reducible apply L_ld); exact rfl; exact Y2.out.map)
  refine (slot_any HP.out i HI.out _).mono ?_; rintro e w3 ⟨rfl, b3⟩
  have Y4 : Hid (PBox w3 bp D p) := kept_below Y2.out b3
  have B3 := Lib.hid (bthen B2.out b3)
  have P3 := Lib.hid (HJ.out.pd.below (bthen B2.out b3))
  have S3 := Lib.hid (S2.out.below b3)
  have y4 := Y4.out.dev
  clear b3 y3
  go_wp2_with fail
  refine (P3.out.write hN (la + 2 * i) (by have := HP.out.hn; have := HI.out; omega) S3.out (fun b off e x => ?_)).mono ?_
  · injection e with e
    injection e with e
    subst e
    have h1 := G2.out.1
    have h2 := HJ.out.pd.bound k2 x
    omega
  · rintro e w4 ⟨rfl, p4, c4⟩
    have J4 := Lib.hid (HJ.out.then2 B3.out p4 c4)
    clear p4 c4 y4
    go_wp2
    go_ret
    exact ⟨rfl, J4.out⟩
set_option maxHeartbeats 2000000 in
theorem layD1 (J : FJ w1 F D q n N m t g p L y) (hB : DB w1 F q g bp bs bd D p i A c xs) (hp : Pln p la ns n) (hi : i < ns) (hN : N + 1 ≤ 1000000) :
    Calls Tryz.prog 114 #[.pointer (some ⟨bp, 0, none⟩), .pointer (some ⟨bs, 0, none⟩), .pointer (some ⟨bd, 0, none⟩)] y fun e y' => e = .returned (.int .i64 (wr1 m (la + 2 * i + 1) xs).1) ∧ FJ w1 F D q n (N + 1) (wr1 m (la + 2 * i + 1) xs).2 t g p L y' := by
  have HJ := Lib.hid J
  have X1 := Lib.hid (J.at_ hB.db hB.o3)
  have X2 : Hid (PBox y bp D p) := J.at_ hB.pb hB.o1
  have X3 := Lib.hid (J.at_ hB.sb hB.o2)
  have X4 : Hid (Oct y A 64 xs) := hB.oct.heap fun b off hl e => J.chg.block b (hB.oct.lt hl e) (fun x => x.elim (hB.o0 b off e).1 (hB.o0 b off e).2)
  have X5 : Hid (∀ b off, A = some ⟨b, off, none⟩ → ¬ Al (Ext F w1 y) q b) := fun b off e x => (hB.o0 b off e).1 (al_ext x (hB.oct.lt (by decide) e))
  have HP := Lib.hid hp
  have HI := Lib.hid hi
  have x3 : y.cell? ⟨bs, 0, none⟩ = some (.int .i64 (i : Int)) := by rw [cell_of_row y bs _ _ _ _ X3.out]; rfl
  clear J hp hi hB
  go_enter Tryz.func114, Tryz.ntmps114
  go_wp2_with ((with_reducible apply L_ld); exact rfl; exact X2.out.map)
  refine (slot_any HP.out i HI.out _).mono ?_; rintro e w3 ⟨rfl, b3⟩
  have B3 := Lib.hid b3
  have Y4 : Hid (PBox w3 bp D p) := kept_below X2.out b3
  have P3 := Lib.hid (HJ.out.pd.below b3)
  have S3 := Lib.hid (X4.out.below b3)
  have y4 := Y4.out.dev
  have y5 : w3.cell? ⟨bd, 0, none⟩ = some (.slice A 64 c) := by rw [cell_of_row w3 bd _ _ _ _ (kept_below X1.out b3)]; rfl
  clear b3 x3
  go_wp2_with fail
  refine (P3.out.write hN (la + 2 * i + 1) (by have := HP.out.hn; have := HI.out; omega) S3.out X5.out).mono ?_
  rintro e w4 ⟨rfl, p4, c4⟩
  have J4 := Lib.hid (HJ.out.then2 B3.out p4 c4)
  clear p4 c4 y4 y5
  go_wp2
  go_ret
  exact ⟨rfl, J4.out⟩
/-- the device flushes -/
theorem flush1 (J : FJ w1 F D q n N m t g p L y) (hN : N + 1 ≤ 1000000) : Calls Tryz.prog 16 #[.pointer (some ⟨D, 0, none⟩)] y fun e y' => e = .returned (.int .i64 (fl1 m).1) ∧ FJ w1 F D q n (N + 1) (fl1 m).2 t g p L y' :=
  (J.pd.flush hN).mono fun e y' ⟨e1, e2, e3⟩ => ⟨e1, J.then2 (Below.refl _ _) e2 e3⟩
end
/-- one cell of a slot is stored -/
theorem SlAt.set {w : World} {t g D i j : Nat} {p : Pn.Pl} {L : List Slt} {s s' : Slt} {u : Value} (h : SlAt w t g D p L) (hs : L[i]? = some s) (hj : j < 2) (hu : u.oneCell' = true) (e : (slc s).set j u = slc s') (hsm : s'.f ≤ 1000000) :
    SlAt (w.setCell ⟨g, i * 2 + j, none⟩ u) t g D p (L.set i s') ∧ w.grownBy (w.setCell ⟨g, i * 2 + j, none⟩ u) (some g) := by
  obtain ⟨c, h1, h2, h3, h4⟩ := h.row
  have hm : (L.map slc)[i]? = some (slc s) := by rw [List.getElem?_map, hs]; rfl
  obtain ⟨r1, r2⟩ := h2.setCell (by simp) hm hj hu
  rw [e, ← List.map_set] at r1
  refine ⟨⟨⟨c, ?_, ?_, h3, ?_⟩, h.ne, ?_, ?_, fun x hx => ?_⟩, r2⟩
  · rw [List.length_set, heap_setCell_other _ _ _ _ (fun e => h.ne e.symm)]; exact h1
  · rw [List.length_set]; exact r1
  · rw [List.length_set]; exact h4
  · rw [List.length_set]; exact h.pos
  · rw [List.length_set]; exact h.many
  · rcases List.mem_or_eq_of_mem_set hx with hx | hx
    · exact h.small x hx
    · subst hx; exact hsm
section
variable {w1 y : World} {F : Nat → Prop} {D q n N t g i b0 b1 b2 : Nat} {m : Vs} {p : Pn.Pl} {L : List Slt} {s : Slt} {r : UInt32}
set_option maxHeartbeats 2000000 in
/-- the slot is worn -/
theorem wears1 (J : FJ w1 F D q n N m t g p L y) (x0 : w1.heap[b0]? = some (.cells #[.int .u32 (r.toNat : Int)] 30 (0, 0))) (x1 : w1.heap[b1]? = some (.cells #[.pointer (some ⟨t, 0, none⟩)] 48 (0, 0))) (x2 : w1.heap[b2]? = some (.cells #[.int .i64 (i : Int)] 3 (0, 0)))
    (o0 : Out F q g b0) (o1 : Out F q g b1) (o2 : Out F q g b2) (hs : L[i]? = some s) :
    Calls Tryz.prog 61 #[.pointer (some ⟨b0, 0, none⟩), .pointer (some ⟨b1, 0, none⟩), .pointer (some ⟨b2, 0, none⟩)] y fun e y' => e = .returned (.int .i64 0) ∧ FJ w1 F D q n N m t g p (L.set i ⟨s.f, r⟩) y' := by
  have HJ := Lib.hid J
  have HS := Lib.hid hs
  have hii : (i : Int) < (L.length : Int) := by have := (List.getElem?_eq_some_iff.1 hs).1; omega
  have y0 : y.cell? ⟨b0, 0, none⟩ = some (.int .u32 (r.toNat : Int)) := by rw [cell_of_row y b0 _ _ _ _ (J.at_ x0 o0)]; rfl
  have y1 : y.cell? ⟨b1, 0, none⟩ = some (.pointer (some ⟨t, 0, none⟩)) := by rw [cell_of_row y b1 _ _ _ _ (J.at_ x1 o1)]; rfl
  have y2 : y.cell? ⟨b2, 0, none⟩ = some (.int .i64 (i : Int)) := by rw [cell_of_row y b2 _ _ _ _ (J.at_ x2 o2)]; rfl
  obtain ⟨c0, ⟨c, c14, hc1, hc2⟩, fr⟩ := J.sl.cells
  obtain ⟨d0, d1, fg⟩ := J.sl.at_ hs
  clear J x0 x1 x2 o0 o1 o2 hs
  go_enter Tryz.func61, Tryz.ntmps61
  go_upto_region 1 with fail
  refine gate (fun x => x.cell? ⟨b0, 0, none⟩ = some (.int .u32 (r.toNat : Int)) ∧ x.cell? ⟨b1, 0, none⟩ = some (.pointer (some ⟨t, 0, none⟩)) ∧ x.cell? ⟨b2, 0, none⟩ = some (.int .i64 (i : Int)) ∧ x.cell? ⟨t, 14, none⟩ = some (.slice (some ⟨g, 0, none⟩) L.length c)) 8 [0, 1, 2, 3, 4, 5] 3 (by kernel_rfl) (by kernel_rfl) (by kernel_rfl) rfl ?_ ⟨y0, y1, y2, c14⟩ ?_
  · intro d v c a w h
    cases d <;> exact h
  iterate 6
    refine yields_step ?_ rfl rfl ?_ ?_
    rotate_left
    · intro x ⟨z0, z1, z2, z3⟩; go_simp; rfl
  refine Gate.next (i := 6) (by kernel_rfl) rfl rfl (fun K hK => ?_)
  go_simp
  refine hK _ _ (fun _ => ⟨y0, y1, y2, c14⟩) ?_
  clear hK K
  refine Gate.next (i := 7) (by kernel_rfl) rfl rfl (fun K hK => ?_)
  go_simp
  refine hK _ _ (fun _ => ⟨y0, y1, y2, c14⟩) ?_
  clear hK K
  refine Gate.next (i := 8) (by kernel_rfl) rfl rfl (fun K hK => ?_)
  go_simp
  refine hK _ _ (fun h => absurd rfl h) ?_
  clear hK K
  refine Gate.done (by kernel_rfl) ?_
  clear y0 y1 y2 c0 c14 fr d0 d1 fg
  go_wp2
  go_ret
  obtain ⟨r1, r2⟩ := HJ.out.sl.set (s' := ⟨s.f, r⟩) HS.out (j := 1) (by decide) (u := .int .u32 (r.toNat : Int)) rfl rfl (HJ.out.sl.small s (List.mem_of_getElem? HS.out))
  exact ⟨rfl, (HJ.out.row r1 r2).below (bdrew _)⟩
end
end Go.Proofs.YtapklelkcicjlaaGreatDoor.Pd.Sl

/-! firstError: of the functions of a fill, and of those of a free. No conditions. -/
namespace Go.Proofs.YtapklelkcicjlaaGreatDoor.Pd.Sl
set_option maxRecDepth 100000
open Go.RowKit Oc Dm W Dw Sr Gt W.Hd
set_option linter.unusedVariables false
set_option maxRecDepth 100000
attribute [local go_sem ↓] Go.wp_at_zero Go.wp_at_succ

set_option maxHeartbeats 2000000 in
theorem first6 {w : World} {b c h1 p1 s1 n2 t2 s2 D p4 s4 d4 h6 p6 s6 : Nat} (I : Nat → World → Prop) (R : Int → World → Prop)
    (hc : ∀ k y, I k y → y.cell? ⟨b, 0, none⟩ = some (.func (.func 112) #[] #[.pointer (some ⟨h1, 0, none⟩), .pointer (some ⟨p1, 0, none⟩), .pointer (some ⟨s1, 0, none⟩)]) ∧ y.cell? ⟨b, 1, none⟩ = some (.func (.func 61) #[] #[.pointer (some ⟨n2, 0, none⟩), .pointer (some ⟨t2, 0, none⟩), .pointer (some ⟨s2, 0, none⟩)]) ∧ y.cell? ⟨b, 2, none⟩ = some (.func (.func 16) #[.pointer (some ⟨D, 0, none⟩)] #[]) ∧ y.cell? ⟨b, 3, none⟩ = some (.func (.func 114) #[] #[.pointer (some ⟨p4, 0, none⟩), .pointer (some ⟨s4, 0, none⟩), .pointer (some ⟨d4, 0, none⟩)]) ∧ y.cell? ⟨b, 4, none⟩ = some (.func (.func 16) #[.pointer (some ⟨D, 0, none⟩)] #[]) ∧ y.cell? ⟨b, 5, none⟩ = some (.func (.func 112) #[] #[.pointer (some ⟨h6, 0, none⟩), .pointer (some ⟨p6, 0, none⟩), .pointer (some ⟨s6, 0, none⟩)]))
    (c0 : ∀ y, I 0 y → Calls Tryz.prog 112 #[.pointer (some ⟨h1, 0, none⟩), .pointer (some ⟨p1, 0, none⟩), .pointer (some ⟨s1, 0, none⟩)] y fun e y' => ∃ v, e = .returned (.int .i64 v) ∧ (v = 0 → I 1 y') ∧ (v ≠ 0 → R v y'))
    (c1 : ∀ y, I 1 y → Calls Tryz.prog 61 #[.pointer (some ⟨n2, 0, none⟩), .pointer (some ⟨t2, 0, none⟩), .pointer (some ⟨s2, 0, none⟩)] y fun e y' => ∃ v, e = .returned (.int .i64 v) ∧ (v = 0 → I 2 y') ∧ (v ≠ 0 → R v y'))
    (c2 : ∀ y, I 2 y → Calls Tryz.prog 16 #[.pointer (some ⟨D, 0, none⟩)] y fun e y' => ∃ v, e = .returned (.int .i64 v) ∧ (v = 0 → I 3 y') ∧ (v ≠ 0 → R v y'))
    (c3 : ∀ y, I 3 y → Calls Tryz.prog 114 #[.pointer (some ⟨p4, 0, none⟩), .pointer (some ⟨s4, 0, none⟩), .pointer (some ⟨d4, 0, none⟩)] y fun e y' => ∃ v, e = .returned (.int .i64 v) ∧ (v = 0 → I 4 y') ∧ (v ≠ 0 → R v y'))
    (c4 : ∀ y, I 4 y → Calls Tryz.prog 16 #[.pointer (some ⟨D, 0, none⟩)] y fun e y' => ∃ v, e = .returned (.int .i64 v) ∧ (v = 0 → I 5 y') ∧ (v ≠ 0 → R v y'))
    (c5 : ∀ y, I 5 y → Calls Tryz.prog 112 #[.pointer (some ⟨h6, 0, none⟩), .pointer (some ⟨p6, 0, none⟩), .pointer (some ⟨s6, 0, none⟩)] y fun e y' => ∃ v, e = .returned (.int .i64 v) ∧ (v = 0 → I 6 y') ∧ (v ≠ 0 → R v y'))
    (he : ∀ y, I 6 y → R 0 y) (h0 : I 0 w) :
    Calls Tryz.prog 62 #[.slice (some ⟨b, 0, none⟩) 6 c] w fun e w' => ∃ v, e = .returned (.int .i64 v) ∧ R v w' := by
  have HC := Lib.hid hc
  have C0 := Lib.hid c0
  have C1 := Lib.hid c1
  have C2 := Lib.hid c2
  have C3 := Lib.hid c3
  have C4 := Lib.hid c4
  have C5 := Lib.hid c5
  have HE := Lib.hid he
  have H0 := Lib.hid h0
  clear hc c0 c1 c2 c3 c4 c5 he h0
  go_enter Tryz.func62, Tryz.ntmps62
  go_wp2
  go_loopw [8] (fun p wr => ∃ k : Nat, k ≤ 6 ∧ p = .int .i64 (k : Int) ∧ Hid (I k wr)) (fun p _ => 6 - (intOf p).toNat)
  case atStart => exact ⟨0, Nat.zero_le _, rfl, H0⟩
  case round =>
    obtain ⟨k, hk, rfl, IJ⟩ := hrel
    obtain ⟨x0, x1, x2, x3, x4, x5⟩ := HC.out k wr IJ.out
    rcases (show k = 0 ∨ k = 1 ∨ k = 2 ∨ k = 3 ∨ k = 4 ∨ k = 5 ∨ k = 6 by omega) with rfl | rfl | rfl | rfl | rfl | rfl | rfl
    · clear x1 x2 x3 x4 x5
      go_wp2_with fail
      refine (C0.out _ IJ.out).mono ?_; rintro e w2 ⟨v, rfl, a1, a2⟩
      by_cases hv : v = 0
      · subst hv
        have I2 := Lib.hid (a1 rfl)
        clear a1 a2 x0
        go_wp2
        go_roundw
        case rel => exact ⟨1, by omega, rfl, I2⟩
        case measure => simp [intOf]
      · have R2 := Lib.hid (a2 hv)
        clear a1 a2 x0
        go_wp2
        go_ret
        exact ⟨v, rfl, R2.out⟩
    · clear x0 x2 x3 x4 x5
      go_wp2_with fail
      refine (C1.out _ IJ.out).mono ?_; rintro e w2 ⟨v, rfl, a1, a2⟩
      by_cases hv : v = 0
      · subst hv
        have I2 := Lib.hid (a1 rfl)
        clear a1 a2 x1
        go_wp2
        go_roundw
        case rel => exact ⟨2, by omega, rfl, I2⟩
        case measure => simp [intOf]
      · have R2 := Lib.hid (a2 hv)
        clear a1 a2 x1
        go_wp2
        go_ret
        exact ⟨v, rfl, R2.out⟩
    · clear x0 x1 x3 x4 x5
      go_wp2_with fail
      refine (C2.out _ IJ.out).mono ?_; rintro e w2 ⟨v, rfl, a1, a2⟩
      by_cases hv : v = 0
      · subst hv
        have I2 := Lib.hid (a1 rfl)
        clear a1 a2 x2
        go_wp2
        go_roundw
        case rel => exact ⟨3, by omega, rfl, I2⟩
        case measure => simp [intOf]
      · have R2 := Lib.hid (a2 hv)
        clear a1 a2 x2
        go_wp2
        go_ret
        exact ⟨v, rfl, R2.out⟩
    · clear x0 x1 x2 x4 x5
      go_wp2_with fail
      refine (C3.out _ IJ.out).mono ?_; rintro e w2 ⟨v, rfl, a1, a2⟩
      by_cases hv : v = 0
      · subst hv
        have I2 := Lib.hid (a1 rfl)
        clear a1 a2 x3
        go_wp2
        go_roundw
        case rel => exact ⟨4, by omega, rfl, I2⟩
        case measure => simp [intOf]
      · have R2 := Lib.hid (a2 hv)
        clear a1 a2 x3
        go_wp2
        go_ret
        exact ⟨v, rfl, R2.out⟩
    · clear x0 x1 x2 x3 x5
      go_wp2_with fail
      refine (C4.out _ IJ.out).mono ?_; rintro e w2 ⟨v, rfl, a1, a2⟩
      by_cases hv : v = 0
      · subst hv
        have I2 := Lib.hid (a1 rfl)
        clear a1 a2 x4
        go_wp2
        go_roundw
        case rel => exact ⟨5, by omega, rfl, I2⟩
        case measure => simp [intOf]
      · have R2 := Lib.hid (a2 hv)
        clear a1 a2 x4
        go_wp2
        go_ret
        exact ⟨v, rfl, R2.out⟩
    · clear x0 x1 x2 x3 x4
      go_wp2_with fail
      refine (C5.out _ IJ.out).mono ?_; rintro e w2 ⟨v, rfl, a1, a2⟩
      by_cases hv : v = 0
      · subst hv
        have I2 := Lib.hid (a1 rfl)
        clear a1 a2 x5
        go_wp2
        go_roundw
        case rel => exact ⟨6, by omega, rfl, I2⟩
        case measure => simp [intOf]
      · have R2 := Lib.hid (a2 hv)
        clear a1 a2 x5
        go_wp2
        go_ret
        exact ⟨v, rfl, R2.out⟩
    · clear x0 x1 x2 x3 x4 x5
      have R2 := Lib.hid (HE.out _ IJ.out)
      go_wp2
      go_ret
      exact ⟨0, rfl, R2.out⟩
set_option maxHeartbeats 2000000 in
theorem first2 {w : World} {b c h1 p1 s1 D : Nat} (I : Nat → World → Prop) (R : Int → World → Prop)
    (hc : ∀ k y, I k y → y.cell? ⟨b, 0, none⟩ = some (.func (.func 112) #[] #[.pointer (some ⟨h1, 0, none⟩), .pointer (some ⟨p1, 0, none⟩), .pointer (some ⟨s1, 0, none⟩)]) ∧ y.cell? ⟨b, 1, none⟩ = some (.func (.func 16) #[.pointer (some ⟨D, 0, none⟩)] #[]))
    (c0 : ∀ y, I 0 y → Calls Tryz.prog 112 #[.pointer (some ⟨h1, 0, none⟩), .pointer (some ⟨p1, 0, none⟩), .pointer (some ⟨s1, 0, none⟩)] y fun e y' => ∃ v, e = .returned (.int .i64 v) ∧ (v = 0 → I 1 y') ∧ (v ≠ 0 → R v y'))
    (c1 : ∀ y, I 1 y → Calls Tryz.prog 16 #[.pointer (some ⟨D, 0, none⟩)] y fun e y' => ∃ v, e = .returned (.int .i64 v) ∧ (v = 0 → I 2 y') ∧ (v ≠ 0 → R v y'))
    (he : ∀ y, I 2 y → R 0 y) (h0 : I 0 w) :
    Calls Tryz.prog 62 #[.slice (some ⟨b, 0, none⟩) 2 c] w fun e w' => ∃ v, e = .returned (.int .i64 v) ∧ R v w' := by
  have HC := Lib.hid hc
  have C0 := Lib.hid c0
  have C1 := Lib.hid c1
  have HE := Lib.hid he
  have H0 := Lib.hid h0
  clear hc c0 c1 he h0
  go_enter Tryz.func62, Tryz.ntmps62
  go_wp2
  go_loopw [8] (fun p wr => ∃ k : Nat, k ≤ 2 ∧ p = .int .i64 (k : Int) ∧ Hid (I k wr)) (fun p _ => 2 - (intOf p).toNat)
  case atStart => exact ⟨0, Nat.zero_le _, rfl, H0⟩
  case round =>
    obtain ⟨k, hk, rfl, IJ⟩ := hrel
    obtain ⟨x0, x1⟩ := HC.out k wr IJ.out
    rcases (show k = 0 ∨ k = 1 ∨ k = 2 by omega) with rfl | rfl | rfl
    · clear x1
      go_wp2_with fail
      refine (C0.out _ IJ.out).mono ?_; rintro e w2 ⟨v, rfl, a1, a2⟩
      by_cases hv : v = 0
      · subst hv
        have I2 := Lib.hid (a1 rfl)
        clear a1 a2 x0
        go_wp2
        go_roundw
        case rel => exact ⟨1, by omega, rfl, I2⟩
        case measure => simp [intOf]
      · have R2 := Lib.hid (a2 hv)
        clear a1 a2 x0
        go_wp2
        go_ret
        exact ⟨v, rfl, R2.out⟩
    · clear x0
      go_wp2_with fail
      refine (C1.out _ IJ.out).mono ?_; rintro e w2 ⟨v, rfl, a1, a2⟩
      by_cases hv : v = 0
      · subst hv
        have I2 := Lib.hid (a1 rfl)
        clear a1 a2 x1
        go_wp2
        go_roundw
        case rel => exact ⟨2, by omega, rfl, I2⟩
        case measure => simp [intOf]
      · have R2 := Lib.hid (a2 hv)
        clear a1 a2 x1
        go_wp2
        go_ret
        exact ⟨v, rfl, R2.out⟩
    · clear x0 x1
      have R2 := Lib.hid (HE.out _ IJ.out)
      go_wp2
      go_ret
      exact ⟨0, rfl, R2.out⟩
end Go.Proofs.YtapklelkcicjlaaGreatDoor.Pd.Sl

/-! The functions that write a slot's head and data are made; what wear is one more. No conditions. -/
namespace Go.Proofs.YtapklelkcicjlaaGreatDoor.Pd.Sl
set_option maxRecDepth 100000
open Go.RowKit Oc Dm W Dw Sr Gt W.Hd
set_option linter.unusedVariables false
set_option maxRecDepth 100000
attribute [local go_sem ↓] Go.wp_at_zero Go.wp_at_succ

/-- what is made for a head: three boxes -/
def LH (w : World) (D : Nat) (p : Pn.Pl) (i : Nat) (h : Hd) (e : Ending) (w' : World) : Prop :=
  ∃ bh bp bs, e = .returned (.func (.func 112) #[] #[.pointer (some ⟨bh, 0, none⟩), .pointer (some ⟨bp, 0, none⟩), .pointer (some ⟨bs, 0, none⟩)]) ∧ w.heap.size ≤ bh ∧ w.heap.size ≤ bp ∧ w.heap.size ≤ bs ∧
    w'.heap[bh]? = some (.cells #[.bool h.u, .int .i64 h.l, .int .u64 (h.g : Int), .int .u32 (h.s.toNat : Int), .int .u32 (h.r.toNat : Int)] 32 (0, 0)) ∧ PBox w' bp D p ∧ w'.heap[bs]? = some (.cells #[.int .i64 (i : Int)] 3 (0, 0)) ∧ Below w.heap.size w w'
theorem layHead_any (D : Nat) (p : Pn.Pl) (i : Nat) (h : Hd) (w : World) : Calls Tryz.prog 63 #[(.agg #[.pointer (some ⟨D, 0, none⟩), .int .i64 p.a0, .int .i64 p.a1, .int .i64 p.a2, .int .i64 p.a3, .int .i64 p.a4, .int .i64 p.a5, .int .i64 p.a6, .int .i64 p.a7, .int .i64 p.a8, .int .i64 p.a9, .int .i64 p.a10, .int .i64 p.a11, .int .i64 p.a12]), .int .i64 (i : Int), (.agg #[.bool h.u, .int .i64 h.l, .int .u64 (h.g : Int), .int .u32 (h.s.toNat : Int), .int .u32 (h.r.toNat : Int)])] w (LH w D p i h) := by
  go_enter Tryz.func63, Tryz.ntmps63
  go_wp2
  go_ret
  have b1 := balloc w (.cells #[.pointer (some ⟨D, 0, none⟩), .int .i64 p.a0, .int .i64 p.a1, .int .i64 p.a2, .int .i64 p.a3, .int .i64 p.a4, .int .i64 p.a5, .int .i64 p.a6, .int .i64 p.a7, .int .i64 p.a8, .int .i64 p.a9, .int .i64 p.a10, .int .i64 p.a11, .int .i64 p.a12] 84)
  have b2 := balloc (w.alloc (.cells #[.pointer (some ⟨D, 0, none⟩), .int .i64 p.a0, .int .i64 p.a1, .int .i64 p.a2, .int .i64 p.a3, .int .i64 p.a4, .int .i64 p.a5, .int .i64 p.a6, .int .i64 p.a7, .int .i64 p.a8, .int .i64 p.a9, .int .i64 p.a10, .int .i64 p.a11, .int .i64 p.a12] 84)) (.cells #[.int .i64 (i : Int)] 3)
  have b3 := balloc ((w.alloc (.cells #[.pointer (some ⟨D, 0, none⟩), .int .i64 p.a0, .int .i64 p.a1, .int .i64 p.a2, .int .i64 p.a3, .int .i64 p.a4, .int .i64 p.a5, .int .i64 p.a6, .int .i64 p.a7, .int .i64 p.a8, .int .i64 p.a9, .int .i64 p.a10, .int .i64 p.a11, .int .i64 p.a12] 84)).alloc (.cells #[.int .i64 (i : Int)] 3)) (.cells #[.bool h.u, .int .i64 h.l, .int .u64 (h.g : Int), .int .u32 (h.s.toNat : Int), .int .u32 (h.r.toNat : Int)] 32)
  have s1 := World.size_alloc w (.cells #[.pointer (some ⟨D, 0, none⟩), .int .i64 p.a0, .int .i64 p.a1, .int .i64 p.a2, .int .i64 p.a3, .int .i64 p.a4, .int .i64 p.a5, .int .i64 p.a6, .int .i64 p.a7, .int .i64 p.a8, .int .i64 p.a9, .int .i64 p.a10, .int .i64 p.a11, .int .i64 p.a12] 84)
  have s2 := World.size_alloc (w.alloc (.cells #[.pointer (some ⟨D, 0, none⟩), .int .i64 p.a0, .int .i64 p.a1, .int .i64 p.a2, .int .i64 p.a3, .int .i64 p.a4, .int .i64 p.a5, .int .i64 p.a6, .int .i64 p.a7, .int .i64 p.a8, .int .i64 p.a9, .int .i64 p.a10, .int .i64 p.a11, .int .i64 p.a12] 84)) (.cells #[.int .i64 (i : Int)] 3)
  refine ⟨_, _, _, rfl, ?_, ?_, ?_, ?_, ?_, ?_, bthen (bthen b1 b2) b3⟩
  · omega
  · omega
  · omega
  · have := heap_alloc_new ((w.alloc (.cells #[.pointer (some ⟨D, 0, none⟩), .int .i64 p.a0, .int .i64 p.a1, .int .i64 p.a2, .int .i64 p.a3, .int .i64 p.a4, .int .i64 p.a5, .int .i64 p.a6, .int .i64 p.a7, .int .i64 p.a8, .int .i64 p.a9, .int .i64 p.a10, .int .i64 p.a11, .int .i64 p.a12] 84)).alloc (.cells #[.int .i64 (i : Int)] 3)) (.cells #[.bool h.u, .int .i64 h.l, .int .u64 (h.g : Int), .int .u32 (h.s.toNat : Int), .int .u32 (h.r.toNat : Int)] 32)
    rw [s2, s1] at this
    exact this
  · exact kept_below (heap_alloc_new w _) (bthen b2 b3)
  · have := kept_below (heap_alloc_new (w.alloc (.cells #[.pointer (some ⟨D, 0, none⟩), .int .i64 p.a0, .int .i64 p.a1, .int .i64 p.a2, .int .i64 p.a3, .int .i64 p.a4, .int .i64 p.a5, .int .i64 p.a6, .int .i64 p.a7, .int .i64 p.a8, .int .i64 p.a9, .int .i64 p.a10, .int .i64 p.a11, .int .i64 p.a12] 84)) (.cells #[.int .i64 (i : Int)] 3)) b3
    rw [s1] at this
    exact this
/-- what is made for data: three boxes -/
def LD (w : World) (D : Nat) (p : Pn.Pl) (i : Nat) (v : Value) (e : Ending) (w' : World) : Prop :=
  ∃ bp bs bd, e = .returned (.func (.func 114) #[] #[.pointer (some ⟨bp, 0, none⟩), .pointer (some ⟨bs, 0, none⟩), .pointer (some ⟨bd, 0, none⟩)]) ∧ w.heap.size ≤ bp ∧ w.heap.size ≤ bs ∧ w.heap.size ≤ bd ∧
    PBox w' bp D p ∧ w'.heap[bs]? = some (.cells #[.int .i64 (i : Int)] 3 (0, 0)) ∧ w'.heap[bd]? = some (.cells #[v] 57 (0, 0)) ∧ Below w.heap.size w w'
theorem layData_any (D : Nat) (p : Pn.Pl) (i : Nat) (A : Option Addr) (l c : Nat) (w : World) : Calls Tryz.prog 65 #[(.agg #[.pointer (some ⟨D, 0, none⟩), .int .i64 p.a0, .int .i64 p.a1, .int .i64 p.a2, .int .i64 p.a3, .int .i64 p.a4, .int .i64 p.a5, .int .i64 p.a6, .int .i64 p.a7, .int .i64 p.a8, .int .i64 p.a9, .int .i64 p.a10, .int .i64 p.a11, .int .i64 p.a12]), .int .i64 (i : Int), .slice A l c] w (LD w D p i (.slice A l c)) := by
  go_enter Tryz.func65, Tryz.ntmps65
  go_wp2
  go_ret
  have b1 := balloc w (.cells #[.pointer (some ⟨D, 0, none⟩), .int .i64 p.a0, .int .i64 p.a1, .int .i64 p.a2, .int .i64 p.a3, .int .i64 p.a4, .int .i64 p.a5, .int .i64 p.a6, .int .i64 p.a7, .int .i64 p.a8, .int .i64 p.a9, .int .i64 p.a10, .int .i64 p.a11, .int .i64 p.a12] 84)
  have b2 := balloc (w.alloc (.cells #[.pointer (some ⟨D, 0, none⟩), .int .i64 p.a0, .int .i64 p.a1, .int .i64 p.a2, .int .i64 p.a3, .int .i64 p.a4, .int .i64 p.a5, .int .i64 p.a6, .int .i64 p.a7, .int .i64 p.a8, .int .i64 p.a9, .int .i64 p.a10, .int .i64 p.a11, .int .i64 p.a12] 84)) (.cells #[.int .i64 (i : Int)] 3)
  have b3 := balloc ((w.alloc (.cells #[.pointer (some ⟨D, 0, none⟩), .int .i64 p.a0, .int .i64 p.a1, .int .i64 p.a2, .int .i64 p.a3, .int .i64 p.a4, .int .i64 p.a5, .int .i64 p.a6, .int .i64 p.a7, .int .i64 p.a8, .int .i64 p.a9, .int .i64 p.a10, .int .i64 p.a11, .int .i64 p.a12] 84)).alloc (.cells #[.int .i64 (i : Int)] 3)) (.cells #[.slice A l c] 57)
  have s1 := World.size_alloc w (.cells #[.pointer (some ⟨D, 0, none⟩), .int .i64 p.a0, .int .i64 p.a1, .int .i64 p.a2, .int .i64 p.a3, .int .i64 p.a4, .int .i64 p.a5, .int .i64 p.a6, .int .i64 p.a7, .int .i64 p.a8, .int .i64 p.a9, .int .i64 p.a10, .int .i64 p.a11, .int .i64 p.a12] 84)
  have s2 := World.size_alloc (w.alloc (.cells #[.pointer (some ⟨D, 0, none⟩), .int .i64 p.a0, .int .i64 p.a1, .int .i64 p.a2, .int .i64 p.a3, .int .i64 p.a4, .int .i64 p.a5, .int .i64 p.a6, .int .i64 p.a7, .int .i64 p.a8, .int .i64 p.a9, .int .i64 p.a10, .int .i64 p.a11, .int .i64 p.a12] 84)) (.cells #[.int .i64 (i : Int)] 3)
  refine ⟨_, _, _, rfl, ?_, ?_, ?_, ?_, ?_, ?_, bthen (bthen b1 b2) b3⟩
  · omega
  · omega
  · omega
  · exact kept_below (heap_alloc_new w _) (bthen b2 b3)
  · have := kept_below (heap_alloc_new (w.alloc (.cells #[.pointer (some ⟨D, 0, none⟩), .int .i64 p.a0, .int .i64 p.a1, .int .i64 p.a2, .int .i64 p.a3, .int .i64 p.a4, .int .i64 p.a5, .int .i64 p.a6, .int .i64 p.a7, .int .i64 p.a8, .int .i64 p.a9, .int .i64 p.a10, .int .i64 p.a11, .int .i64 p.a12] 84)) (.cells #[.int .i64 (i : Int)] 3)) b3
    rw [s1] at this
    exact this
  · have := heap_alloc_new ((w.alloc (.cells #[.pointer (some ⟨D, 0, none⟩), .int .i64 p.a0, .int .i64 p.a1, .int .i64 p.a2, .int .i64 p.a3, .int .i64 p.a4, .int .i64 p.a5, .int .i64 p.a6, .int .i64 p.a7, .int .i64 p.a8, .int .i64 p.a9, .int .i64 p.a10, .int .i64 p.a11, .int .i64 p.a12] 84)).alloc (.cells #[.int .i64 (i : Int)] 3)) (.cells #[.slice A l c] 57)
    rw [s2, s1] at this
    exact this
/-- the store's place, loaded whole -/
theorem SlAt.place {w : World} {t g D : Nat} {p : Pn.Pl} {L : List Slt} (h : SlAt w t g D p L) : (Instr.loadAt 84 (.pointer (some ⟨t, 0, none⟩))).run Tryz.prog w = .ok (.agg #[.pointer (some ⟨D, 0, none⟩), .int .i64 p.a0, .int .i64 p.a1, .int .i64 p.a2, .int .i64 p.a3, .int .i64 p.a4, .int .i64 p.a5, .int .i64 p.a6, .int .i64 p.a7, .int .i64 p.a8, .int .i64 p.a9, .int .i64 p.a10, .int .i64 p.a11, .int .i64 p.a12]) w := by
  obtain ⟨c, h1, _⟩ := h.row
  refine run_load_cells (cs := [.pointer (some ⟨D, 0, none⟩), .int .i64 p.a0, .int .i64 p.a1, .int .i64 p.a2, .int .i64 p.a3, .int .i64 p.a4, .int .i64 p.a5, .int .i64 p.a6, .int .i64 p.a7, .int .i64 p.a8, .int .i64 p.a9, .int .i64 p.a10, .int .i64 p.a11, .int .i64 p.a12]) Tryz.underlying84 rfl info_place rfl (fun j v hv => ?_)
  rw [Nat.zero_add, cell_of_row w t _ _ _ _ h1]
  have hj : j < 14 := by
    rcases Nat.lt_or_ge j 14 with h | h
    · exact h
    · rw [List.getElem?_eq_none (by simpa using h)] at hv; cases hv
  match j, hj, hv with
  | 0, _, hv => exact hv
  | 1, _, hv => exact hv
  | 2, _, hv => exact hv
  | 3, _, hv => exact hv
  | 4, _, hv => exact hv
  | 5, _, hv => exact hv
  | 6, _, hv => exact hv
  | 7, _, hv => exact hv
  | 8, _, hv => exact hv
  | 9, _, hv => exact hv
  | 10, _, hv => exact hv
  | 11, _, hv => exact hv
  | 12, _, hv => exact hv
  | 13, _, hv => exact hv
theorem u32_succ (r : UInt32) : IntKind.u32.wrap ((r.toNat : Int) + 1) = (((r + 1).toNat : Nat) : Int) := by
  have h := r.toNat_lt
  rw [UInt32.toNat_add]
  show IntKind.u32.wrap _ = (((r.toNat + 1) % 4294967296 : Nat) : Int)
  have e : IntKind.u32.wrap ((r.toNat : Int) + 1) = ((r.toNat : Int) + 1) % 4294967296 := by
    simp [IntKind.wrap, IntKind.signed, IntKind.bits]
  rw [e]
  omega
end Go.Proofs.YtapklelkcicjlaaGreatDoor.Pd.Sl
