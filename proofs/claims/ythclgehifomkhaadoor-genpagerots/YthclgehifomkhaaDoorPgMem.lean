/-
  Octets made as zeros, set one by one, copied into a row of the call's own; the reference's Join of any number of parts. No conditions.
-/
import Derived.Test.YthclgehifomkhaaDoorCrcSeal
import Derived.Laws.CopyOwn
namespace Go.Proofs.YthclgehifomkhaaDoor.Oc
open Go.RowKit
set_option linter.unusedVariables false

theorem zeros_map (n : Nat) : (List.replicate n (0 : UInt8)).map ov = List.replicate n (Value.int .u8 0) := by
  rw [List.map_replicate]
  rfl
theorem wpList_make_zero {P : Program} {w : World} {ops : Array Oper} {rest : List Oper} {o : Oper} {a : Go.Act} {Q : Exit → Go.Act → World → Prop} (hgd : o.guard = none) (l c : Operand) (t : TypeId) (hop : o.op = Op.makeSlice t l c)
    {e : TypeId} (hT : ByteTy P t e) (L C : Int) (n : Nat) (hl : a.eval l = .int .i64 L) (hc : a.eval c = .int .i64 C) (hL : L = (n : Int)) (hC : C = (n : Int)) (hn : n ≤ 1000000000000)
    (hK : ∀ w', Own w' e w.heap.size (.slice (some ⟨w.heap.size, 0, none⟩) n n) (List.replicate n 0) → Below w.heap.size w w' → wpList P ops Q rest (a.put o.dst (.slice (some ⟨w.heap.size, 0, none⟩) n n)) w') : wpList P ops Q (o :: rest) a w := by
  obtain ⟨i, hi, hz0, hz1, hz2⟩ := info_parts hT.info
  refine wpList_make_full w hgd l c t hop w.heap.size e i (.int .u8 0) 1 hT.sl hi hz0 hz1 .i64 .i64 L C n hl hc hL hC (by rw [hz2]; omega) (by unfold maxLen; omega) (Nat.le_refl _) fun w' h1 h2 => hK w' ?_ ?_
  · unfold Own
    rw [List.length_replicate, zeros_map]
    rwa [show (Value.int .u8 0).cells = #[.int .u8 0] from rfl, Nat.mul_one, toList_madeCells_one] at h1
  · exact (Below.refl _ _).grown h2 (Nat.le_refl _) (fun _ h => by cases h)

theorem own_set {w : World} {e : TypeId} {B g cap n : Nat} {xs : List UInt8} (h : Own w e B (.slice (some ⟨g, 0, none⟩) n cap) xs) (hn : xs.length = n) (j : Nat) (x : UInt8) {z : Int} (hz : z = (x.toNat : Int)) :
    Own (w.setCell ⟨g, j, none⟩ (.int .u8 z)) e B (.slice (some ⟨g, 0, none⟩) n cap) (xs.set j x) ∧ w.grownBy (w.setCell ⟨g, j, none⟩ (.int .u8 z)) (some g) := by
  subst hn hz
  obtain ⟨h1, h2⟩ := World.ownsRow.stored (w := w) (base := B) (e := e) (size := 1) (xs := xs.map ov) h j (ov x)
  refine ⟨?_, h2⟩
  unfold Own
  rw [List.length_set, List.map_set]
  exact h1
theorem own_at {w : World} {e : TypeId} {B g cap n j : Nat} {xs : List UInt8} (h : Own w e B (.slice (some ⟨g, 0, none⟩) n cap) xs) (hn : xs.length = n) (hj : j < n) : (∃ z, w.cell? ⟨g, j, none⟩ = some (.int .u8 z)) ∧ w.frozen? ⟨g, j, none⟩ = false := by
  subst hn
  refine ⟨⟨(xs[j].toNat : Int), ?_⟩, World.ownsRow.frozenAt (base := B) (e := e) (size := 1) (xs := xs.map ov) h j⟩
  have := World.ownsRow.cellAt (w := w) (base := B) (e := e) (size := 1) (xs := xs.map ov) h j (by omega)
  rw [this, List.getElem?_map, List.getElem?_eq_getElem hj]
  rfl

theorem splice_front {α : Type} (X Y cs : List α) (off : Nat) (h : off + cs.length ≤ X.length) : splice (X ++ Y) off cs = splice X off cs ++ Y := by
  unfold splice
  rw [List.take_append_of_le_length (by omega), List.drop_append_of_le_length (by omega)]
  simp
/-- copy of octets into a row of the call's own, all of which fit -/
theorem wpList_copy_oct {P : Program} {w : World} {ops : Array Oper} {rest : List Oper} {o : Oper} {a : Go.Act} {Q : Exit → Go.Act → World → Prop} (hgd : o.guard = none) (d s : Operand) (t : TypeId)
    (ho : o.op = .call { callee := .builtin .copy, args := #[d, s], argTypes := #[t, t] }) {e : TypeId} (hT : ByteTy P t e)
    {w0 : World} {g n cap off dl dc : Nat} {xs : List UInt8} (hd : a.eval d = .slice (some ⟨g, off, none⟩) dl dc) (hown : Own w e w0.heap.size (.slice (some ⟨g, 0, none⟩) n cap) xs) (hxl : xs.length = n) (hb : Below w0.heap.size w0 w) (hdl : off + dl = n)
    {A : Option Addr} {m : Nat} (c : Nat) {ys : List UInt8} (hs : a.eval s = .slice A m c) (hr : Oct w A m ys) (hle : m ≤ dl)
    (h : ∀ w', Own w' e w0.heap.size (.slice (some ⟨g, 0, none⟩) n cap) (xs.take off ++ (ys ++ xs.drop (off + m))) → Below w0.heap.size w0 w' → wpList P ops Q rest (a.put o.dst (goInt m)) w') : wpList P ops Q (o :: rest) a w := by
  obtain ⟨i, hi, hz0, hz1, hz2⟩ := info_parts hT.info
  have hyl := hr.len
  rcases hown.2 with ⟨h0, _⟩ | ⟨g', cap', cur, he, hB, hh, hn, hm, hsz, htk⟩
  · cases h0
  · injection he with he he2 he3
    injection he with he
    injection he with he
    subst he he3
    have hcs : (ys.map ov).length = m := by rw [List.length_map, hyl]
    have hL : cur.toList.length = cap := by simp at hsz; simp [hsz]
    refine wpList_copy_splice hgd d s t t ho e hT.sl (by rw [hi]; simp [hz1]) _ A dl dc m c hd hs g off cur.toList e (by simpa using hh) (ys.map ov) (by rw [hcs]; exact (Nat.min_eq_left hle).symm) (fun hp => ⟨rfl, ?_⟩) (by rw [hcs, hL]; omega) (ov_one ys) w0.heap.size w0 hb hB ?_
    · obtain ⟨b, off2, rfl, hc⟩ := hr.2 (by omega)
      refine ⟨_, rfl, fun j v hv => ?_⟩
      rw [List.getElem?_map] at hv
      rcases hx : ys[j]? with _ | x
      · rw [hx] at hv; cases hv
      · rw [hx] at hv
        injection hv with hv
        subst hv
        rw [Go.WideShapes.add_plain]
        exact hc j x hx
    · intro w' hg' hb'
      rw [hcs]
      refine h w' ?_ hb'
      have hnl : (xs.take off ++ (ys ++ xs.drop (off + m))).length = n := by simp; omega
      refine ⟨by simp, .inr ⟨g, cap, _, by rw [hnl], hB, hg'.out, by omega, hm, ?_, ?_⟩⟩
      · rw [List.size_toArray, length_splice _ _ _ (by rw [hcs, hL]; omega), hL, Nat.mul_one]
      · rw [hnl, Nat.mul_one]
        have htk2 : cur.toList.take n = xs.map ov := by rw [← hxl]; simpa using htk
        show (splice cur.toList off (ys.map ov)).take n = _
        have hX : (cur.toList.take n).length = n := by rw [List.length_take, hL]; omega
        rw [← List.take_append_drop n cur.toList, splice_front _ _ _ _ (by rw [hX, hcs]; omega), List.take_append_of_le_length (by rw [length_splice _ _ _ (by rw [hX, hcs]; omega), hX]; exact Nat.le_refl _),
          List.take_of_length_le (by rw [length_splice _ _ _ (by rw [hX, hcs]; omega), hX]; exact Nat.le_refl _), htk2]
        unfold splice
        rw [hcs]
        simp [List.map_append, List.map_take, List.map_drop]
/-- the same, the operation written out: so that it is tried at a copy alone -/
theorem wpList_copy_at {P : Program} {w : World} {ops : Array Oper} {rest : List Oper} {a : Go.Act} {Q : Exit → Go.Act → World → Prop} {dst : Option Nat} {d s : Operand} {t ty : TypeId} {pos : String} {after : Array Edge} {e : TypeId} (w0 : World) (hT : ByteTy P t e)
    {g n cap off dl dc : Nat} {xs : List UInt8} (hd : a.eval d = .slice (some ⟨g, off, none⟩) dl dc) (hown : Own w e w0.heap.size (.slice (some ⟨g, 0, none⟩) n cap) xs) (hxl : xs.length = n) (hb : Below w0.heap.size w0 w) (hdl : off + dl = n)
    {A : Option Addr} {m c : Nat} {ys : List UInt8} (hs : a.eval s = .slice A m c) (hr : Oct w A m ys) (hle : m ≤ dl)
    (h : ∀ w', Own w' e w0.heap.size (.slice (some ⟨g, 0, none⟩) n cap) (xs.take off ++ (ys ++ xs.drop (off + m))) → Below w0.heap.size w0 w' → wpList P ops Q rest (a.put dst (goInt m)) w') :
    wpList P ops Q ({ dst := dst, op := .call { callee := .builtin .copy, args := #[d, s], argTypes := #[t, t] }, type := ty, pos := pos, after := after, guard := none } :: rest) a w :=
  wpList_copy_oct rfl d s t rfl hT hd hown hxl hb hdl c hs hr hle h
end Go.Proofs.YthclgehifomkhaaDoor.Oc

namespace Go.Proofs.YthclgehifomkhaaDoor.W
open Go.RowKit Oc
set_option linter.unusedVariables false

/-- a part of what is joined: a slice, and what it reads as -/
structure Part where
  A : Option Addr
  n : Nat
  c : Nat
  xs : List UInt8
/-- parts, one behind the other -/
def joined : List Part → List UInt8
  | [] => []
  | p :: ps => p.xs ++ joined ps
theorem joined_append (ps qs : List Part) : joined (ps ++ qs) = joined ps ++ joined qs := by
  induction ps with
  | nil => rfl
  | cons p ps ih => simp [joined, ih]
theorem joined_take (ps : List Part) (j : Nat) (p : Part) (h : ps[j]? = some p) : joined (ps.take (j + 1)) = joined (ps.take j) ++ p.xs := by
  rw [List.take_add_one, h, joined_append]
  simp [joined]
theorem joined_len (ps : List Part) (h : ∀ (j : Nat) (p : Part), ps[j]? = some p → p.xs.length ≤ 1000000) : (joined ps).length ≤ 1000000 * ps.length := by
  induction ps with
  | nil => simp [joined]
  | cons p ps ih =>
    have h1 := h 0 p rfl
    have h2 := ih fun j q hq => h (j + 1) q hq
    simp [joined]
    omega

set_option maxHeartbeats 1000000 in
theorem join_any (ps : List Part) (b m cc : Nat) (w : World) (hb : b < w.heap.size) (hm : ps.length = m) (hm2 : m ≤ 1000)
    (hp : ∀ (j : Nat) (p : Part), ps[j]? = some p → w.cell? ⟨b, j, none⟩ = some (.slice p.A p.n p.c) ∧ Oct w p.A p.n p.xs ∧ p.n ≤ 1000000) :
    Calls Tryd.prog 22 #[.slice (some ⟨b, 0, none⟩) m cc] w (Made w (joined ps)) := by
  have HP := Lib.hid hp
  have HM := Lib.hid hm
  clear hp hm
  go_enter Tryd.func22, Tryd.ntmps22
  go_wp2
  go_loopw [3, 4] (fun v q wr => ∃ j : Nat, j ≤ m ∧ q = .int .i64 j ∧ Hid (Own wr 5 w.heap.size v (joined (ps.take j))) ∧ Hid (Below w.heap.size w wr)) (fun _ q _ => m - (intOf q).toNat)
  case atStart => exact ⟨0, by omega, rfl, Own.nil _ _ _, Below.refl _ _⟩
  case round =>
    obtain ⟨j, hj, rfl, OJ, BJ⟩ := hrel
    by_cases hlt : j < m
    · obtain ⟨p, hpj⟩ : ∃ p, ps[j]? = some p := ⟨_, List.getElem?_eq_getElem (by rw [HM.out]; exact hlt)⟩
      obtain ⟨hc0, ho, hn⟩ := HP.out j p hpj
      have hc := (BJ.out.cell (p := ⟨b, j, none⟩) hb).trans hc0
      have hl := joined_len (ps.take j) fun i q hq => by
        have hq2 : ps[i]? = some q := by
          rw [List.getElem?_take] at hq
          split at hq
          · exact hq
          · cases hq
        have h3 := HP.out i q hq2
        rw [h3.2.1.len]; exact h3.2.2
      have hl2 : (joined (ps.take j)).length ≤ 1000000000 := by
        rw [List.length_take] at hl
        omega
      have HJ := Lib.hid (joined_take ps j p hpj)
      have HO := Lib.hid ho
      have HL := Lib.hid hl2
      clear hpj hc0 ho hl hl2
      go_wp2_with (at_builtin; refine wpList_append_to rfl _ _ 26 rfl bt rfl OJ.out BJ.out _ rfl (HO.out.below BJ.out) (by have := HL.out; omega) ?_; intro v3 w3 o3 b3; have O3 := Lib.hid o3; have B3 := Lib.hid b3; clear o3 b3)
      go_roundw
      case rel => exact ⟨j + 1, by omega, by go_num, by rw [HJ.out]; exact O3, B3⟩
      case measure => simp [intOf]; omega
    · have : j = m := by omega
      subst this
      go_wp2
      go_ret
      refine ⟨_, rfl, ?_, BJ.out⟩
      have e : ps.take j = ps := List.take_of_length_le (by rw [HM.out]; exact Nat.le_refl _)
      have := OJ.out
      rwa [e] at this
end Go.Proofs.YthclgehifomkhaaDoor.W
