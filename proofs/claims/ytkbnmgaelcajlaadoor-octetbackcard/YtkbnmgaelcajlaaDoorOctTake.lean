/-
  Contracts of Reader.Bytes where there are as many, and of the reference's Take. No conditions.
-/
import Derived.Test.YtkbnmgaelcajlaaDoorOctReader
namespace Go.Proofs.YtkbnmgaelcajlaaDoor.W
open Go.RowKit Oc
set_option linter.unusedVariables false

/-- what Bytes leaves where there are as many -/
def Got (w : World) (R : Nat) (ys xs : List UInt8) (e : Ending) (w' : World) : Prop :=
  ∃ v, e = .returned v ∧ Own w' 5 w.heap.size v ys ∧ Rd w' 52 R xs true ∧ w.grownBy w' (some R)

theorem own_set {w w' : World} {e : TypeId} {B R : Nat} {v : Value} {xs : List UInt8} (h : Own w e B v xs) (hR : R < B) (hg : w.grownBy w' (some R)) : Own w' e B v xs :=
  h.keep fun g hg' => hg.block g (h.ge g hg').2 (fun e => by injection e with e; have := (h.ge g hg').1; omega)

theorem got {w w1 : World} {R : Nat} {xs ys : List UInt8} {v : Value} {u : Value} (hR : R < w.heap.size) (ho : Own w1 5 w.heap.size v ys) (hb : Below w.heap.size w w1)
    (h : Rd (w1.setCell ⟨R, 0, none⟩ u) 52 R xs true ∧ w1.grownBy (w1.setCell ⟨R, 0, none⟩ u) (some R)) : Got w R ys xs (.returned v) (w1.setCell ⟨R, 0, none⟩ u) :=
  ⟨v, rfl, own_set ho hR h.2, h.1, grown_trans (grown_of_below hb _) h.2⟩

set_option maxHeartbeats 1000000 in
theorem bytes_take {w : World} {R : Nat} {xs : List UInt8} (k : Nat) (h : Rd w 52 R xs true) (hn : xs.length ≤ 1000000000) (hk : k ≤ xs.length) :
    Calls Tryd.prog 18 #[.pointer (some ⟨R, 0, none⟩), .int .i64 (k : Int)] w (Got w R (xs.take k) (xs.drop k)) := by
  have H := Lib.hid h
  have hR := h.lt
  obtain ⟨A, c, hh, hc, ho⟩ := h
  have HO := Lib.hid ho
  obtain ⟨c0, c1, f0, f1⟩ := pair_cell hh
  have HH := Lib.hid hh
  clear hh f0 f1 c1 ho
  go_enter Tryd.func18, Tryd.ntmps18
  go_wp2_with fail
  refine (bad_rd H.out).mono ?_; rintro e w' ⟨rfl, rfl⟩
  go_wp2_with (at_builtin; refine wpList_append_to (w0 := w) rfl _ _ 22 rfl bt rfl (Own.nil _ _ _) (Below.refl _ _) _ rfl (HO.out.take hk) (by simp; omega) ?_; intro v1 w1 o1 b1; obtain ⟨d0, d1, g0, g1⟩ := pair_cell ((b1.block R hR).trans HH.out); rw [List.nil_append] at o1; obtain ⟨A1, c1, rfl, l1, s1⟩ := o1.form (n := k) (by rw [List.length_take]; omega); have S1 := Lib.hid s1; have O1 := Lib.hid o1; have B1 := Lib.hid b1; clear o1 b1 s1 d1 g1)
  all_goals (go_ret; first | exact got hR O1.out B1.out (rd_cut ((B1.out.block R hR).trans HH.out) (HO.out.below B1.out) hc hk) | exact got hR O1.out B1.out (rd_cut_end ((B1.out.block R hR).trans HH.out) hc hk ‹_›))

theorem tbytes_none {w : World} {R : Nat} {xs : List UInt8} {g : Bool} (k : Int) (h : Rd w 38 R xs g) (hk : ¬ (g = false ∧ 0 ≤ k ∧ k ≤ xs.length)) :
    Calls Tryd.prog 19 #[.pointer (some ⟨R, 0, none⟩), .int .i64 k] w (Turned w 38 R (.slice none 0 0) [] true) := by
  obtain ⟨A, c, hh, hc, ho⟩ := h
  obtain ⟨c0, c1, f0, f1⟩ := pair_cell hh
  have HH := Lib.hid hh
  clear hh ho
  cases g
  · by_cases h0 : k < 0
    · clear hk
      go_enter Tryd.func19, Tryd.ntmps19
      go_wp2
      go_ret
      exact ⟨rfl, rd_spoil' HH.out⟩
    · have h2 : (xs.length : Int) < k := by simp at hk; omega
      clear hk
      go_enter Tryd.func19, Tryd.ntmps19
      go_wp2
      go_ret
      exact ⟨rfl, rd_spoil' HH.out⟩
  · clear hk
    go_enter Tryd.func19, Tryd.ntmps19
    go_wp2
    go_ret
    exact ⟨rfl, rd_spoil' HH.out⟩

/-- what Take.Bytes leaves where there are as many -/
def TGot (w : World) (R k : Nat) (ys xs : List UInt8) (e : Ending) (w' : World) : Prop :=
  ∃ A c, e = .returned (.slice A k c) ∧ Oct w' A k ys ∧ Rd w' 38 R xs false ∧ w.grownBy w' (some R)

theorem tgot {w : World} {R k c : Nat} {A A' : Option Addr} {xs ys : List UInt8} {u : Value} {l c' : Nat} {g : Bool} (hR : w.heap[R]? = some (.cells #[.slice A' l c', .bool g] 38 (0, 0))) (ho : Oct w A k ys)
    (h : Rd (w.setCell ⟨R, 0, none⟩ u) 38 R xs false ∧ w.grownBy (w.setCell ⟨R, 0, none⟩ u) (some R)) : TGot w R k ys xs (.returned (.slice A k c)) (w.setCell ⟨R, 0, none⟩ u) :=
  ⟨A, c, rfl, ho.grown h.2 (ho.apart hR), h.1, h.2⟩

set_option maxHeartbeats 1000000 in
theorem tbytes_take {w : World} {R : Nat} {xs : List UInt8} (k : Nat) (h : Rd w 38 R xs false) (hk : k ≤ xs.length) :
    Calls Tryd.prog 19 #[.pointer (some ⟨R, 0, none⟩), .int .i64 (k : Int)] w (TGot w R k (xs.take k) (xs.drop k)) := by
  obtain ⟨A, c, hh, hc, ho⟩ := h
  obtain ⟨c0, c1, f0, f1⟩ := pair_cell hh
  have HH := Lib.hid hh
  have HO := Lib.hid ho
  clear hh ho
  go_enter Tryd.func19, Tryd.ntmps19
  go_wp2
  all_goals (go_ret; first | exact tgot HH.out (HO.out.take hk) (rd_cut HH.out HO.out hc hk) | exact tgot HH.out (HO.out.take hk) (rd_cut_end HH.out hc hk ‹_›))

theorem tu_none {w : World} {R : Nat} {xs : List UInt8} {g : Bool} (k : Int) (h : Rd w 38 R xs g) (hk : ¬ (1 ≤ k ∧ k ≤ 8)) :
    Calls Tryd.prog 17 #[.pointer (some ⟨R, 0, none⟩), .int .i64 k] w (Turned w 38 R (.int .u64 0) [] true) := by
  obtain ⟨A, c, hh, hc, ho⟩ := h
  obtain ⟨c0, c1, f0, f1⟩ := pair_cell hh
  have HH := Lib.hid hh
  clear hh ho
  by_cases h0 : k < 1
  · clear hk
    go_enter Tryd.func17, Tryd.ntmps17
    go_wp2
    go_ret
    exact ⟨rfl, rd_spoil' HH.out⟩
  · have h2 : 8 < k := by omega
    clear hk
    go_enter Tryd.func17, Tryd.ntmps17
    go_wp2
    go_ret
    exact ⟨rfl, rd_spoil' HH.out⟩

theorem tu_fail {w : World} {R : Nat} {xs : List UInt8} {g : Bool} (k : Int) (h : Rd w 38 R xs g) (h1 : 1 ≤ k) (h8 : k ≤ 8) (hk : ¬ (g = false ∧ k ≤ xs.length)) :
    Calls Tryd.prog 17 #[.pointer (some ⟨R, 0, none⟩), .int .i64 k] w (Turned w 38 R (.int .u64 0) [] true) := by
  have H := Lib.hid h
  have HK := Lib.hid hk
  clear h hk
  go_enter Tryd.func17, Tryd.ntmps17
  go_wp2_with fail
  refine (tbytes_none k H.out (fun h => HK.out ⟨h.1, h.2.2⟩)).mono ?_; rintro e w' ⟨rfl, hr, hg⟩
  have HR := Lib.hid hr
  have HG := Lib.hid hg
  clear hr hg
  go_wp2_with fail
  refine (of_any _ _ _ [] _ (by omega) (Oct.nil _ _) 0 rfl).mono ?_; rintro e w2 ⟨rfl, rfl⟩
  go_wp2
  go_ret
  exact ⟨rfl, HR.out, HG.out⟩

theorem tu_take {w : World} {R : Nat} {xs : List UInt8} (k : Nat) (h : Rd w 38 R xs false) (h1 : 1 ≤ k) (h8 : k ≤ 8) (hk : k ≤ xs.length) (u : Nat) (hu : num (xs.take k) = u) :
    Calls Tryd.prog 17 #[.pointer (some ⟨R, 0, none⟩), .int .i64 (k : Int)] w (Turned w 38 R (.int .u64 (u : Int)) (xs.drop k) false) := by
  have H := Lib.hid h
  have HU := Lib.hid hu
  clear h hu
  go_enter Tryd.func17, Tryd.ntmps17
  go_wp2_with fail
  refine (tbytes_take k H.out hk).mono ?_; rintro e w' ⟨A, c, rfl, ho, hr, hg⟩
  have HO := Lib.hid ho
  have HR := Lib.hid hr
  have HG := Lib.hid hg
  clear ho hr hg
  go_wp2_with fail
  refine (of_any _ _ _ _ _ h8 HO.out u HU.out).mono ?_; rintro e w2 ⟨rfl, rfl⟩
  go_wp2
  go_ret
  exact ⟨rfl, HR.out, HG.out⟩
end Go.Proofs.YtkbnmgaelcajlaaDoor.W
