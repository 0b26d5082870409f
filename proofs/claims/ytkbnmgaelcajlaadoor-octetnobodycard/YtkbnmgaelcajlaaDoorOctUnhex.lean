/-
  Contracts of octet.Unhex and of the reference's Unhex. No conditions.
-/
import Derived.Test.YtkbnmgaelcajlaaDoorOctHex
namespace Go.Proofs.YtkbnmgaelcajlaaDoor.W
open Go.RowKit Oc
set_option linter.unusedVariables false

/-- what Unhex leaves -/
def Un (w : World) (r : Option (List UInt8)) (e : Ending) (w' : World) : Prop :=
  Below w.heap.size w w' ∧ match r with
    | some out => ∃ v, e = .returned (.tuple #[v, .bool true]) ∧ Own w' 5 w.heap.size v out
    | none => e = .returned (.tuple #[.slice none 0 0, .bool false])
theorem un_some {w w' : World} {r : Option (List UInt8)} {out : List UInt8} {v : Value} (h : r = some out) (hb : Below w.heap.size w w') (ho : Own w' 5 w.heap.size v out) : Un w r (.returned (.tuple #[v, .bool true])) w' := by
  subst h; exact ⟨hb, v, rfl, ho⟩
theorem un_none {w w' : World} {r : Option (List UInt8)} (h : r = none) (hb : Below w.heap.size w w') : Un w r (.returned (.tuple #[.slice none 0 0, .bool false])) w' := by
  subst h; exact ⟨hb, rfl⟩

theorem str_at (s : ByteArray) (k : Nat) (h : k < s.size) : s.data.toList[k]? = some s[k] := by
  have h' : k < s.data.toList.length := by simpa using h
  rw [List.getElem?_eq_getElem h']
  rfl

theorem join_dig {x y : Nat} (hx : x < 16) (hy : y < 16) : bits BinOp.or IntKind.u8 ((x : Int) * 16) (y : Int) = ((join16 x y).toNat : Int) := by
  have e : (x : Int) * 16 = ((16 * x : Nat) : Int) := by omega
  rw [e, u8_or_nat _ _ (by omega) (by omega), nat_join 4 (16 * x) y (by omega) (by omega)]
  unfold join16
  simp
  omega

set_option maxHeartbeats 2000000 in
theorem unhex_any (s : ByteArray) (r : Option (List UInt8)) (w : World) (hs : s.size ≤ 1000000000) (he : Env w) (hr : unhex s.data.toList = r) :
    Calls Tryd.prog 24 #[.string s] w (Un w r) := by
  have HE := Lib.hid he
  have HR := Lib.hid hr
  clear he hr
  have hln : Hid (s.data.toList.length = s.size) := by show _ = _; simp
  by_cases hodd : s.size % 2 = 0
  · have hte : ((s.size : Int) % 2 != 0) = false := by simp; omega
    go_enter Tryd.func24, Tryd.ntmps24
    go_wp2_with (at_make; refine wpList_make_oct rfl _ _ 22 rfl bt _ (s.size / 2) rfl rfl (by omega) (by omega) ?_; intro w1 o1 b1; have O1 := Lib.hid o1; have B1 := Lib.hid b1; clear o1 b1)
    go_loopw [4, 5] (fun v q wr => ∃ (k : Nat) (out : List UInt8), 2 * k ≤ s.size ∧ q = .int .i64 ((2 * k : Nat) : Int) ∧ Hid (unhex (s.data.toList.take (2 * k)) = some out) ∧ Hid (Own wr 5 w.heap.size v out) ∧ Hid (Below w.heap.size w wr)) (fun _ q _ => s.size - (intOf q).toNat)
    case atStart => exact ⟨0, [], by omega, rfl, rfl, O1, B1⟩
    case round =>
      obtain ⟨k, out, hk, rfl, EU, OJ, BJ⟩ := hrel
      by_cases hlt : 2 * k < s.size
      · have hlt2 : 2 * k + 1 < s.size := by omega
        have ha := str_at s (2 * k) hlt
        have hb := str_at s (2 * k + 1) hlt2
        have HA := Lib.hid ha
        have HB := Lib.hid hb
        have EJ := Lib.hid (HE.out.below BJ.out)
        have hol : Hid (out.length = k) := by
          have := unhex_length EU.out
          rw [List.length_take, hln.out] at this
          show _ = _
          omega
        clear ha hb
        obtain ⟨m, em⟩ : ∃ m, 2 * k = m := ⟨_, rfl⟩
        have EM := Lib.hid em
        clear em
        rcases da : dig s[2 * k] with _ | x
        · have DA := Lib.hid da
          clear da
          go_wp2_with fail
          refine (digit_no _ _ EJ.out DA.out).mono ?_; rintro e w' ⟨rfl, rfl⟩
          rcases db : dig s[2 * k + 1] with _ | y
          · have DB := Lib.hid db
            clear db
            go_wp2_with fail
            refine (digit_no _ _ EJ.out DB.out).mono ?_; rintro e w' ⟨rfl, rfl⟩
            go_wp2
            go_ret2
            exact un_none (HR.out.symm.trans (unhex_fail EU.out HA.out HB.out (pair_none_l DA.out))) BJ.out
          · have DB := Lib.hid db
            clear db
            go_wp2_with fail
            refine (digit_yes _ _ _ EJ.out DB.out).mono ?_; rintro e w' ⟨rfl, rfl⟩
            go_wp2
            go_ret2
            exact un_none (HR.out.symm.trans (unhex_fail EU.out HA.out HB.out (pair_none_l DA.out))) BJ.out
        · have DA := Lib.hid da
          have hx := dig_lt da
          clear da
          go_wp2_with fail
          refine (digit_yes _ _ _ EJ.out DA.out).mono ?_; rintro e w' ⟨rfl, rfl⟩
          rcases db : dig s[2 * k + 1] with _ | y
          · have DB := Lib.hid db
            clear db
            go_wp2_with fail
            refine (digit_no _ _ EJ.out DB.out).mono ?_; rintro e w' ⟨rfl, rfl⟩
            go_wp2
            go_ret2
            exact un_none (HR.out.symm.trans (unhex_fail EU.out HA.out HB.out (pair_none_r DB.out))) BJ.out
          · have DB := Lib.hid db
            have hy := dig_lt db
            clear db
            go_wp2_with fail
            refine (digit_yes _ _ _ EJ.out DB.out).mono ?_; rintro e w' ⟨rfl, rfl⟩
            go_wp2_with (at_builtin; refine wpList_append_to rfl _ _ 22 rfl bt rfl (OJ.out.alloc _) (BJ.out.alloc BJ.out.size _) _ rfl (Oct.one _ _ (join16 x y) _ (join_dig hx hy)) (by rw [hol.out]; omega) ?_; intro v3 w3 o3 b3; have O3 := Lib.hid o3; have B3 := Lib.hid b3; clear o3 b3)
            go_roundw
            case rel => exact ⟨k + 1, _, by omega, by go_num, unhex_two EU.out HA.out HB.out (pair_some DA.out DB.out), O3, B3⟩
            case measure => simp [intOf]; omega
      · have e2 : 2 * k = s.size := by omega
        have hf : Hid (unhex s.data.toList = some out) := by
          have := EU.out
          rw [e2, List.take_of_length_le (by rw [hln.out]; exact Nat.le_refl _)] at this
          exact this
        clear e2
        go_wp2
        go_ret2
        exact un_some (HR.out.symm.trans hf.out) BJ.out OJ.out
  · have hte : ((s.size : Int) % 2 != 0) = true := by simp; omega
    have hn : Hid (unhex s.data.toList = none) := unhex_odd (by rw [hln.out]; exact hodd)
    go_enter Tryd.func24, Tryd.ntmps24
    go_wp2
    go_ret2
    exact un_none (HR.out.symm.trans hn.out) (Below.refl _ _)

/-- what the reference's digit tells -/
def rdig (c : UInt8) : Int := ((dig c).getD 16 : Nat)
theorem rdigit_q (c : UInt8) (w : World) (n : Nat) : Calls Tryd.prog 31 #[.int .u8 (c.toNat : Int)] (w.drewN n) fun e w' => e = .returned (.int .i64 (rdig c)) ∧ ∃ m, w' = w.drewN m := by
  refine Calls.quiet_of_same ?_
  rcases h : dig c with _ | k
  · refine (rdigit_no c _ h).mono fun e w' he => ⟨?_, he.2.symm⟩
    rw [he.1]; unfold rdig; rw [h]; rfl
  · refine (rdigit_yes c k _ h).mono fun e w' he => ⟨?_, he.2.symm⟩
    rw [he.1]; unfold rdig; rw [h]; rfl
theorem below_drewN {B : Nat} {a w : World} (h : Below B a w) (n : Nat) : Below B a (w.drewN n) := ⟨h.os, h.tape, h.output, h.size, h.block⟩
theorem join_add {x y : Nat} (hx : x < 16) (hy : y < 16) : 16 * (x : Int) + (y : Int) = ((join16 x y).toNat : Int) := by
  unfold join16
  simp
  omega

theorem index_str (s : ByteArray) (k : Nat) (i : Int) (a : UInt8) (ha : s.data.toList[k]? = some a) (hi : i = (k : Int)) (w : World) : (Instr.index 9 (.string s) (.int .i64 i)).run Tryd.prog w = .ok (.int .u8 (a.toNat : Int)) w := by
  subst hi
  obtain ⟨h, e⟩ := List.getElem?_eq_some_iff.1 ha
  have h2 : k < s.size := by simpa using h
  have e2 : s[k]? = some a := by rw [getElem?_pos s k h2]; exact congrArg some e
  have e3 : (if (0 : Int) ≤ (k : Int) then s[(k : Int).toNat]? else none) = some a := by rw [if_pos (by omega)]; simpa using e2
  simp only [Instr.index, asIntOf, Sem.run_bind, Sem.run_pure, Result.andThen, run_underlying Tryd.underlying9, e3]

set_option maxHeartbeats 2000000 in
theorem runhex_any (s : ByteArray) (r : Option (List UInt8)) (w : World) (hs : s.size ≤ 1000000000) (hr : unhex s.data.toList = r) :
    Calls Tryd.prog 26 #[.string s] w (Un w r) := by
  have HR := Lib.hid hr
  clear hr
  have hln : Hid (s.data.toList.length = s.size) := by show _ = _; simp
  by_cases hodd : s.size % 2 = 0
  · have hte : ((s.size : Int) % 2 != 0) = false := by simp; omega
    go_enter Tryd.func26, Tryd.ntmps26
    go_wp2
    go_loopw [4, 5] (fun v q wr => ∃ (k : Nat) (out : List UInt8), 2 * k ≤ s.size ∧ q = .int .i64 ((2 * k : Nat) : Int) ∧ Hid (unhex (s.data.toList.take (2 * k)) = some out) ∧ Hid (Own wr 5 w.heap.size v out) ∧ Hid (Below w.heap.size w wr)) (fun _ q _ => s.size - (intOf q).toNat)
    case atStart => exact ⟨0, [], by omega, rfl, rfl, Own.nil _ _ _, Below.refl _ _⟩
    case round =>
      obtain ⟨k, out, hk, rfl, EU, OJ, BJ⟩ := hrel
      by_cases hlt : 2 * k < s.size
      · have hlt2 : 2 * k + 1 < s.size := by omega
        have HA := Lib.hid (str_at s (2 * k) hlt)
        have HB := Lib.hid (str_at s (2 * k + 1) hlt2)
        have hol : Hid (out.length = k) := by
          have := unhex_length EU.out
          rw [List.length_take, hln.out] at this
          show _ = _
          omega
        have hi1 : IntKind.i64.wrap (2 * (k : Int) + 1) = 2 * (k : Int) + 1 := IntWalk.i64_in _ (by omega)
        obtain ⟨a, ea⟩ : ∃ a, s[2 * k] = a := ⟨_, rfl⟩
        obtain ⟨b, eb⟩ : ∃ b, s[2 * k + 1] = b := ⟨_, rfl⟩
        have HA := Lib.hid (show s.data.toList[2 * k]? = some a by rw [← ea]; exact HA.out)
        have HB := Lib.hid (show s.data.toList[2 * k + 1]? = some b by rw [← eb]; exact HB.out)
        clear ea eb
        have i1 := index_str s (2 * k) (2 * (k : Int)) a HA.out (by omega)
        have i2 := index_str s (2 * k + 1) (2 * (k : Int) + 1) b HB.out (by omega)
        rcases da : dig a with _ | x
        · have ra : rdig a = 16 := by unfold rdig; rw [da]; rfl
          have DA := Lib.hid da
          clear da
          go_wp2
          go_quiet ((go_at_call 31; exact rdigit_q _ _ _))
          go_wp2
          go_ret2
          exact un_none (HR.out.symm.trans (unhex_fail EU.out HA.out HB.out (pair_none_l DA.out))) (below_drewN BJ.out _)
        · have ra : rdig a = (x : Int) := by unfold rdig; rw [da]; rfl
          have DA := Lib.hid da
          have hx := dig_lt da
          clear da
          rcases db : dig b with _ | y
          · have rb : rdig b = 16 := by unfold rdig; rw [db]; rfl
            have DB := Lib.hid db
            clear db
            go_wp2
            go_quiet ((go_at_call 31; exact rdigit_q _ _ _))
            go_wp2
            go_ret2
            exact un_none (HR.out.symm.trans (unhex_fail EU.out HA.out HB.out (pair_none_r DB.out))) (below_drewN BJ.out _)
          · have rb : rdig b = (y : Int) := by unfold rdig; rw [db]; rfl
            have DB := Lib.hid db
            have hy := dig_lt db
            clear db
            go_wp2
            go_quiet ((go_at_call 31; exact rdigit_q _ _ _))
            clear i1 i2 hi1
            go_wp2_with (at_builtin; refine wpList_append_to rfl _ _ 22 rfl bt rfl ((OJ.out.drewN _).alloc _) ((below_drewN BJ.out _).alloc (below_drewN BJ.out _).size _) _ rfl (Oct.one _ _ (join16 x y) _ (join_add hx hy)) (by rw [hol.out]; omega) ?_; intro v3 w3 o3 b3; have O3 := Lib.hid o3; have B3 := Lib.hid b3; clear o3 b3)
            go_roundw
            case rel => exact ⟨k + 1, _, by omega, by go_num, unhex_two EU.out HA.out HB.out (pair_some DA.out DB.out), O3, B3⟩
            case measure => simp [intOf]; omega
      · have e2 : 2 * k = s.size := by omega
        have hf : Hid (unhex s.data.toList = some out) := by
          have := EU.out
          rw [e2, List.take_of_length_le (by rw [hln.out]; exact Nat.le_refl _)] at this
          exact this
        clear e2
        go_wp2
        go_ret2
        exact un_some (HR.out.symm.trans hf.out) BJ.out OJ.out
  · have hte : ((s.size : Int) % 2 != 0) = true := by simp; omega
    have hn : Hid (unhex s.data.toList = none) := unhex_odd (by rw [hln.out]; exact hodd)
    go_enter Tryd.func26, Tryd.ntmps26
    go_wp2
    go_ret2
    exact un_none (HR.out.symm.trans hn.out) (Below.refl _ _)
end Go.Proofs.YtkbnmgaelcajlaaDoor.W
