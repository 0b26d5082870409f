/-
  Contracts of the readers: octet's Read, Left, Done, spoil, U, Bytes, and the reference's Take. No conditions.
-/
import Derived.Test.YthclgehifomkhaaDoorOctPut
namespace Go.Proofs.YthclgehifomkhaaDoor.W
open Go.RowKit Oc
set_option linter.unusedVariables false

theorem bad_rd {w : World} {R : Nat} {xs : List UInt8} {g : Bool} (h : Rd w 62 R xs g) :
    Calls Tryd.prog 42 #[.pointer (some ⟨R, 0, none⟩)] w fun e w' => e = .returned (.bool (!g)) ∧ w = w' := by
  obtain ⟨A, c, hh, _⟩ := h
  exact bad_any R _ g w hh

theorem spoil_any {w : World} {R : Nat} {u v : Value} (h : w.heap[R]? = some (.cells #[u, v] 62 (0, 0))) :
    Calls Tryd.prog 44 #[.pointer (some ⟨R, 0, none⟩)] w fun e w' => e = .returned (.tuple #[]) ∧ w' = (w.setCell ⟨R, 0, none⟩ (.slice none 0 0)).setCell ⟨R, 1, none⟩ (.bool false) := by
  obtain ⟨c0, c1, f0, f1⟩ := pair_cell h
  have H := Lib.hid h
  clear h
  go_enter Tryd.func44, Tryd.ntmps44
  go_wp2
  go_end0
  exact ⟨rfl, rfl⟩

/-- what a call leaves that turns one pair -/
def Turned (w : World) (T : TypeId) (R : Nat) (v : Value) (xs : List UInt8) (g : Bool) (e : Ending) (w' : World) : Prop := e = .returned v ∧ Rd w' T R xs g ∧ w.grownBy w' (some R)
/-- what Read leaves -/
def NewRd (w : World) (xs : List UInt8) (e : Ending) (w' : World) : Prop :=
  ∃ R, e = .returned (.pointer (some ⟨R, 0, none⟩)) ∧ w.heap.size ≤ R ∧ Rd w' 62 R xs true ∧ Below w.heap.size w w'

theorem read_any (A : Option Addr) (n c : Nat) (xs : List UInt8) (w : World) (hn : n ≤ 1000000000) (ho : Oct w A n xs) :
    Calls Tryd.prog 36 #[.slice A n c] w (NewRd w xs) := by
  have HO := Lib.hid ho
  clear ho
  go_enter Tryd.func36, Tryd.ntmps36
  go_wp2_with (at_builtin; refine wpList_append_to (w0 := w) rfl _ _ 26 rfl bt rfl (Own.nil _ _ _) (Below.refl _ _) _ rfl HO.out (by simp; omega) ?_; intro v1 w1 o1 b1; obtain ⟨A1, c1, rfl, l1, s1⟩ := o1.slice; have S1 := Lib.hid s1; have B1 := Lib.hid b1; clear o1 b1 s1)
  go_ret
  exact ⟨_, rfl, B1.out.size, rd_new S1.out l1 _ _, B1.out.alloc B1.out.size _⟩

theorem u_nil (k : Int) (w : World) : Calls Tryd.prog 37 #[.pointer none, .int .i64 k] w fun e w' => e = .returned (.int .u64 0) ∧ w = w' := by
  go_enter Tryd.func37, Tryd.ntmps37
  go_wp2_with fail
  refine (bad_nil _).mono ?_; rintro e w' ⟨rfl, rfl⟩
  go_wp2
  go_ret
  exact ⟨rfl, rfl⟩
theorem u_bad {w : World} {R : Nat} {xs : List UInt8} (k : Int) (h : Rd w 62 R xs false) : Calls Tryd.prog 37 #[.pointer (some ⟨R, 0, none⟩), .int .i64 k] w fun e w' => e = .returned (.int .u64 0) ∧ w = w' := by
  have H := Lib.hid h
  clear h
  go_enter Tryd.func37, Tryd.ntmps37
  go_wp2_with fail
  refine (bad_rd H.out).mono ?_; rintro e w' ⟨rfl, rfl⟩
  go_wp2
  go_ret
  exact ⟨rfl, rfl⟩

theorem len_drop (xs : List UInt8) (k : Nat) : xs.length - k = (xs.drop k).length := by rw [List.length_drop]

set_option maxHeartbeats 1000000 in
theorem u_take {w : World} {R : Nat} {xs : List UInt8} (k : Nat) (h : Rd w 62 R xs true) (hn : xs.length ≤ 1000000000) (h1 : 1 ≤ k) (h8 : k ≤ 8) (hk : k ≤ xs.length) (u : Nat) (hu : num (xs.take k) = u) :
    Calls Tryd.prog 37 #[.pointer (some ⟨R, 0, none⟩), .int .i64 (k : Int)] w (Turned w 62 R (.int .u64 (u : Int)) (xs.drop k) true) := by
  have H := Lib.hid h
  have HU := Lib.hid hu
  obtain ⟨A, c, hh, hc, ho⟩ := h
  have HO := Lib.hid ho
  obtain ⟨c0, c1, f0, f1⟩ := pair_cell hh
  have HH := Lib.hid hh
  clear hh f1 c1 ho hu
  go_enter Tryd.func37, Tryd.ntmps37
  go_wp2_with fail
  refine (bad_rd H.out).mono ?_; rintro e w' ⟨rfl, rfl⟩
  go_wp2_with fail
  refine (at_yes _ _ _ _ 0 k _ hn HO.out h1 h8 (by omega) u (by simpa using HU.out)).mono ?_; rintro e w' ⟨rfl, rfl⟩
  go_wp2
  all_goals (go_ret; first | exact ⟨rfl, rd_cut HH.out HO.out hc hk⟩ | exact ⟨rfl, rd_cut_end HH.out hc hk ‹_›⟩)

set_option maxHeartbeats 1000000 in
theorem u_fail {w : World} {R : Nat} {xs : List UInt8} (k : Int) (h : Rd w 62 R xs true) (hn : xs.length ≤ 1000000000) (hk : ¬ (1 ≤ k ∧ k ≤ 8 ∧ k ≤ xs.length)) :
    Calls Tryd.prog 37 #[.pointer (some ⟨R, 0, none⟩), .int .i64 k] w (Turned w 62 R (.int .u64 0) [] false) := by
  have H := Lib.hid h
  have HK := Lib.hid hk
  obtain ⟨A, c, hh, hc, ho⟩ := h
  obtain ⟨c0, c1, f0, f1⟩ := pair_cell hh
  have HH := Lib.hid hh
  clear hh f1 c1 ho hk
  go_enter Tryd.func37, Tryd.ntmps37
  go_wp2_with fail
  refine (bad_rd H.out).mono ?_; rintro e w' ⟨rfl, rfl⟩
  go_wp2_with fail
  refine (at_no _ _ _ 0 k _ hn (fun h => HK.out (by omega))).mono ?_; rintro e w' ⟨rfl, rfl⟩
  go_wp2_with fail
  refine (spoil_any HH.out).mono ?_; rintro e w' ⟨rfl, hw⟩
  have HW := Lib.hid hw
  clear hw
  go_wp2
  go_ret
  have e := HW.out
  subst e
  exact ⟨rfl, rd_spoil HH.out⟩

end Go.Proofs.YthclgehifomkhaaDoor.W
