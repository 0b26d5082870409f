/-
  Contracts of crc.Apart and of the reference's. No conditions.
-/
import Derived.Test.YtnbpmnnppkehpaaDoorCrcSeal
namespace Go.Proofs.YtnbpmnnppkehpaaDoor.W
open Go.RowKit Oc
set_option linter.unusedVariables false

theorem run_index_text (s : ByteArray) (k : Nat) (a : UInt8) (ha : s.data.toList[k]? = some a) (w : World) : (Instr.index 9 (.string s) (.int .u8 (k : Int))).run Tryd.prog w = .ok (.int .u8 (a.toNat : Int)) w := by
  obtain ⟨h, e⟩ := List.getElem?_eq_some_iff.1 ha
  have h2 : k < s.size := by simpa using h
  have e2 : s[k]? = some a := by rw [getElem?_pos s k h2]; exact congrArg some e
  have e3 : (if (0 : Int) ≤ (k : Int) then s[(k : Int).toNat]? else none) = some a := by rw [if_pos (by omega)]; simpa using e2
  simp only [Instr.index, asIntOf, Sem.run_bind, Sem.run_pure, Result.andThen, run_underlying Tryd.underlying9, e3]
theorem wpList_index_text {w : World} {ops : Array Oper} {rest : List Oper} {o : Oper} {a : Act} {Q : Exit → Act → World → Prop} (hgd : o.guard = none) (x i : Operand) (ho : o.op = .index 9 x i) (s : ByteArray) (hx : a.eval x = .string s)
    (u : Nat) (hi : a.eval i = .int .u8 (u : Int)) (g : Nat → Nat) (hg : ∀ k : Fin 256, s.data.toList[k.val]? = some (UInt8.ofNat (g k.val))) (hu : u < 256) (hgu : g u < 256) (h : wpList Tryd.prog ops Q rest (a.put o.dst (.int .u8 (g u : Int))) w) : wpList Tryd.prog ops Q (o :: rest) a w := by
  refine wpList_plain hgd fun K hK => ?_
  have e := run_index_text s u _ (hg ⟨u, hu⟩) w
  have e2 : (UInt8.ofNat (g u)).toNat = g u := by simp; omega
  simp only [e2] at e
  unfold Oper.wp execOp
  simp only [ho, hx, hi, e, Sem.run_bind, Sem.run_pure, Result.andThen_ok]
  exact hK _ _ h
theorem low_lt (u : Nat) : low u < 256 := by
  unfold low
  repeat' split
  all_goals omega
theorem high_lt (u : Nat) : high u < 256 := by
  unfold high
  repeat' split
  all_goals omega

theorem tz_any (u : Nat) (w : World) (hu : u < 256) : Calls Tryd.prog 26 #[.int .u8 (u : Int)] w fun e w' => e = .returned (.int .i64 (low u : Int)) ∧ w = w' := by
  have hl := low_lt u
  go_enter Tryd.func26, Tryd.ntmps26
  go_wp2_with (refine wpList_index_text rfl _ _ rfl _ rfl u rfl low (by decide +kernel) hu hl ?_)
  go_ret
  exact ⟨rfl, rfl⟩
theorem len_any (u : Nat) (w : World) (hu : u < 256) : Calls Tryd.prog 27 #[.int .u8 (u : Int)] w fun e w' => e = .returned (.int .i64 (high u : Int)) ∧ w = w' := by
  have hl := high_lt u
  go_enter Tryd.func27, Tryd.ntmps27
  go_wp2_with (refine wpList_index_text rfl _ _ rfl _ rfl u rfl high (by decide +kernel) hu hl ?_)
  go_ret
  exact ⟨rfl, rfl⟩

/-- what a call leaves that only reads -/
def Tells (w : World) (v : Value) (e : Ending) (w' : World) : Prop := e = .returned v ∧ ∃ k, w' = w.drewN k

theorem apart_no (A A2 : Option Addr) (n n2 c c2 : Nat) (w : World) (hn : n ≤ 1000000) (hn2 : n2 ≤ 1000000) (h : n ≠ n2) :
    Calls Tryd.prog 18 #[.slice A n c, .slice A2 n2 c2] w (Tells w (.tuple #[.int .i64 0, .bool false])) := by
  have hne : (n : Int) ≠ (n2 : Int) := by omega
  go_enter Tryd.func18, Tryd.ntmps18
  go_wp2
  go_ret2
  exact ⟨rfl, 0, rfl⟩
theorem rapart_no (A A2 : Option Addr) (n n2 c c2 : Nat) (w : World) (hn : n ≤ 1000000) (hn2 : n2 ≤ 1000000) (h : n ≠ n2) :
    Calls Tryd.prog 19 #[.slice A n c, .slice A2 n2 c2] w fun e w' => e = .returned (.tuple #[.int .i64 0, .bool false]) ∧ w = w' := by
  have hne : (n : Int) ≠ (n2 : Int) := by omega
  go_enter Tryd.func19, Tryd.ntmps19
  go_wp2
  go_ret2
  exact ⟨rfl, rfl⟩

theorem ret_bool {p q : Bool} (h : p = q) : Ending.returned (.bool p) = .returned (.bool q) := by rw [h]
theorem odd_int (a : Nat) : (((a : Int) % 2) == 1) = decide (a % 2 = 1) := by
  by_cases h : a % 2 = 1
  · rw [decide_eq_true h]; simp; omega
  · rw [decide_eq_false h]; simp; omega
theorem ret_pair {a b : Int} {g : Bool} (h : a = b) : Ending.returned (.tuple #[.int .i64 a, .bool g]) = .returned (.tuple #[.int .i64 b, .bool g]) := by rw [h]
theorem drew_drew (w : World) (a b : Nat) : (w.drewN a).drewN b = w.drewN (a + b) := by simp [World.drewN, Nat.add_assoc]
theorem half_more (x j : Nat) : x / 2 ^ j / 2 = x / 2 ^ (j + 1) := by rw [Nat.div_div_eq_div_mul, Nat.pow_succ]
set_option maxHeartbeats 1000000 in
theorem bit_any (A : Option Addr) (n c i : Nat) (xs : List UInt8) (g : Bool) (w : World) (hn : n ≤ 1000000) (ho : Oct w A n xs) (hi : i < 8 * n) (hg : (num xs).testBit i = g) :
    Calls Tryd.prog 28 #[.slice A n c, .int .i64 (i : Int)] w fun e w' => e = .returned (.bool g) ∧ w = w' := by
  obtain ⟨b, off, x, rfl, hx, hcell⟩ := ho.at_ (k := i / 8) (by omega)
  rw [num_bit' xs i x hx] at hg
  have HG := Lib.hid hg
  have hxl : x.toNat < 256 := by have := x.toNat_lt; omega
  obtain ⟨z, hz⟩ : ∃ z, x.toNat = z := ⟨_, rfl⟩
  rw [hz] at hcell HG hxl
  clear hx hg hz ho
  go_enter Tryd.func28, Tryd.ntmps28
  go_wp2
  go_loop [5, 6] (fun s q => ∃ j a : Nat, j ≤ i % 8 ∧ q = .int .i64 j ∧ s = .int .u8 a ∧ a < 256 ∧ Hid (z / 2 ^ j = a)) (fun _ q => i % 8 - (intOf q).toNat)
  case atStart => exact ⟨0, z, by omega, rfl, rfl, hxl, by show _ = _; simp⟩
  case round =>
    obtain ⟨j, a, hj, rfl, rfl, ha, E⟩ := hrel
    by_cases hlt : j < i % 8
    · go_wp2
      go_round
      case rel => exact ⟨j + 1, a / 2, by omega, rfl, by go_num, by omega, by show _ = _; rw [← half_more, E.out]⟩
      case measure => simp [intOf]; omega
    · have hje : j = i % 8 := by omega
      rw [hje] at E
      clear hje
      go_wp2
      go_ret
      exact ⟨ret_bool (by rw [odd_int, ← HG.out, E.out]), rfl⟩

/-- the end that the program keeps -/
def endOf (f l : Int) : Int := if f < 0 then -1 else l + 1
theorem endOf_none {f l : Int} (h : f < 0) : endOf f l = -1 := if_pos h
theorem endOf_some {f l : Int} (h : ¬ f < 0) : endOf f l = l + 1 := if_neg h

set_option maxHeartbeats 2000000 in
theorem apart_any (A A2 : Option Addr) (n c c2 : Nat) (xs ys : List UInt8) (f l : Int) (w : World) (hn : n ≤ 1000000) (ho : Oct w A n xs) (ho2 : Oct w A2 n ys) (hs : Span (8 * n) (num xs ^^^ num ys) f l) :
    Calls Tryd.prog 18 #[.slice A n c, .slice A2 n c2] w (Tells w (.tuple #[.int .i64 (gap f l), .bool true])) := by
  have HO := Lib.hid ho
  have HO2 := Lib.hid ho2
  have HS := Lib.hid hs
  clear ho ho2 hs
  go_enter Tryd.func18, Tryd.ntmps18
  go_wp2
  go_loopw [6, 7, 17] (fun s6 s7 q wr => ∃ (j : Nat) (f' l' : Int), j ≤ n ∧ -1 ≤ f' ∧ f' < 8 * j ∧ -1 ≤ l' ∧ l' < 8 * j ∧ q = .int .i64 j ∧ s6 = .int .i64 f' ∧ s7 = .int .i64 (endOf f' l') ∧ Hid (Span (8 * j) (num xs ^^^ num ys) f' l') ∧ Hid (∃ k, wr = w.drewN k)) (fun _ _ q _ => n - (intOf q).toNat)
  case atStart => exact ⟨0, -1, -1, by omega, by omega, by omega, by omega, by omega, rfl, rfl, rfl, Span.zero _, 0, rfl⟩
  case round =>
    obtain ⟨j, f', l', hj, hf1, hf2, hl1, hl2, rfl, rfl, rfl, SP, DW⟩ := hrel
    by_cases hlt : j < n
    · have o1 : Oct wr A n xs := by obtain ⟨k, e⟩ := DW.out; rw [e]; exact HO.out.drewN k
      have o2 : Oct wr A2 n ys := by obtain ⟨k, e⟩ := DW.out; rw [e]; exact HO2.out.drewN k
      obtain ⟨b, off, x, rfl, hx, hcell⟩ := o1.at_ hlt
      obtain ⟨b2, off2, y, rfl, hy, hcell2⟩ := o2.at_ hlt
      obtain ⟨u, hu⟩ : ∃ u, x.toNat ^^^ y.toNat = u := ⟨_, rfl⟩
      have hul : u < 256 := by
        rw [← hu]
        have h1 := x.toNat_lt
        have h2 := y.toNat_lt
        exact Nat.xor_lt_two_pow (n := 8) (by omega) (by omega)
      have e1 : bits BinOp.xor IntKind.u8 (x.toNat : Int) (y.toNat : Int) = (u : Int) := by rw [u8_xor_nat _ _ (by have := x.toNat_lt; omega) (by have := y.toNat_lt; omega), hu]
      have HX := Lib.hid hx
      have HY := Lib.hid hy
      have HU := Lib.hid hu
      clear hx hy hu o1 o2
      by_cases h0 : u = 0
      · subst h0
        have SP2 := Lib.hid (span_alike SP.out HX.out HY.out HU.out)
        go_wp2_with fail
        go_quiet (fail)
        go_wp2
        go_roundw
        case rel => exact ⟨j + 1, f', l', by omega, hf1, by omega, hl1, by omega, rfl, rfl, rfl, SP2, by obtain ⟨k, e⟩ := DW.out; exact ⟨k + nq, by rw [e, drew_drew]⟩⟩
        case measure => simp [intOf]; omega
      · have SP2 := Lib.hid (span_unlike SP.out HX.out HY.out u HU.out h0)
        have hlo : low u < 8 := (low_high u hul h0).1
        have hhi : 1 ≤ high u ∧ high u ≤ 8 := ⟨(low_high u hul h0).2.1, (low_high u hul h0).2.2.1⟩
        obtain ⟨lo, elo⟩ : ∃ lo, low u = lo := ⟨_, rfl⟩
        obtain ⟨hi, ehi⟩ : ∃ hi, high u = hi := ⟨_, rfl⟩
        have T1 : Hid (∀ w : World, Calls Tryd.prog 26 #[.int .u8 (u : Int)] w fun e w' => e = .returned (.int .i64 (lo : Int)) ∧ w = w') := fun w => by rw [← elo]; exact tz_any u w hul
        have T2 : Hid (∀ w : World, Calls Tryd.prog 27 #[.int .u8 (u : Int)] w fun e w' => e = .returned (.int .i64 (hi : Int)) ∧ w = w') := fun w => by rw [← ehi]; exact len_any u w hul
        rw [elo, ehi] at SP2
        rw [elo] at hlo
        rw [ehi] at hhi
        obtain ⟨hh1, hh2⟩ := hhi
        clear elo ehi
        by_cases hf : f' < 0
        · rw [if_pos hf] at SP2
          go_wp2_with fail
          go_quiet (fail)
          go_wp2_with fail
          refine (T1.out _).mono ?_; rintro e w' ⟨rfl, rfl⟩
          go_wp2_with fail
          refine (T2.out _).mono ?_; rintro e w' ⟨rfl, rfl⟩
          go_wp2
          go_roundw
          case rel => exact ⟨j + 1, _, _, by omega, by omega, by omega, by omega, by omega, rfl, by go_num, by rw [endOf_some (by omega)]; go_num, SP2, by obtain ⟨k, e⟩ := DW.out; exact ⟨k + nq, by rw [e, drew_drew]⟩⟩
          case measure => simp [intOf]; omega
        · rw [if_neg hf] at SP2
          go_wp2_with fail
          go_quiet (fail)
          go_wp2_with fail
          refine (T2.out _).mono ?_; rintro e w' ⟨rfl, rfl⟩
          go_wp2
          go_roundw
          case rel => exact ⟨j + 1, _, _, by omega, by omega, by omega, by omega, by omega, rfl, rfl, by rw [endOf_some (by omega)]; go_num, SP2, by obtain ⟨k, e⟩ := DW.out; exact ⟨k + nq, by rw [e, drew_drew]⟩⟩
          case measure => simp [intOf]; omega
    · have : j = n := by omega
      subst this
      obtain ⟨rfl, rfl⟩ := SP.out.uniq HS.out
      have hb := SP.out.lo
      have he : -1 ≤ endOf f' l' ∧ endOf f' l' ≤ 8 * j := by unfold endOf; split <;> omega
      obtain ⟨he1, he2⟩ := he
      have hgap : endOf f' l' - f' = gap f' l' := by unfold endOf gap; split <;> omega
      have HG := Lib.hid hgap
      clear hgap hb
      go_wp2
      go_ret2
      exact ⟨ret_pair HG.out, DW.out⟩

set_option maxHeartbeats 2000000 in
theorem rapart_any (A A2 : Option Addr) (n c c2 : Nat) (xs ys : List UInt8) (f l : Int) (w : World) (hn : n ≤ 1000000) (ho : Oct w A n xs) (ho2 : Oct w A2 n ys) (hs : Span (8 * n) (num xs ^^^ num ys) f l) :
    Calls Tryd.prog 19 #[.slice A n c, .slice A2 n c2] w fun e w' => e = .returned (.tuple #[.int .i64 (gap f l), .bool true]) ∧ w = w' := by
  have HO := Lib.hid ho
  have HO2 := Lib.hid ho2
  have HS := Lib.hid hs
  clear ho ho2 hs
  go_enter Tryd.func19, Tryd.ntmps19
  go_wp2
  go_loop [6, 7, 8] (fun s6 s7 q => ∃ (j : Nat) (f' l' : Int), j ≤ 8 * n ∧ -1 ≤ f' ∧ f' < j ∧ -1 ≤ l' ∧ l' < j ∧ q = .int .i64 j ∧ s6 = .int .i64 f' ∧ s7 = .int .i64 l' ∧ Hid (Span j (num xs ^^^ num ys) f' l')) (fun _ _ q => 8 * n - (intOf q).toNat)
  case atStart => exact ⟨0, -1, -1, by omega, by omega, by omega, by omega, by omega, rfl, rfl, rfl, Span.zero _⟩
  case round =>
    obtain ⟨j, f', l', hj, hf1, hf2, hl1, hl2, rfl, rfl, rfl, SP⟩ := hrel
    by_cases hlt : j < 8 * n
    · have hx := Nat.testBit_xor (num xs) (num ys) j
      obtain ⟨p, hp⟩ : ∃ p, (num xs).testBit j = p := ⟨_, rfl⟩
      obtain ⟨q, hq⟩ : ∃ q, (num ys).testBit j = q := ⟨_, rfl⟩
      rw [hp, hq] at hx
      have B1 := Lib.hid (bit_any A n c j xs p w hn HO.out hlt hp)
      have B2 := Lib.hid (bit_any A2 n c2 j ys q w hn HO2.out hlt hq)
      clear hp hq
      by_cases hpq : p = q
      · subst hpq
        have hx2 : (num xs ^^^ num ys).testBit j = false := by rw [hx]; cases p <;> rfl
        have SP2 := Lib.hid (SP.out.none hx2)
        clear hx hx2
        go_wp2_with fail
        refine B1.out.mono ?_; rintro e w' ⟨rfl, rfl⟩
        go_wp2_with fail
        refine B2.out.mono ?_; rintro e w' ⟨rfl, rfl⟩
        go_wp2
        go_round
        case rel => exact ⟨j + 1, f', l', by omega, hf1, by omega, hl1, by omega, rfl, rfl, rfl, SP2⟩
        case measure => simp [intOf]; omega
      · have hx2 : (num xs ^^^ num ys).testBit j = true := by
          rw [hx]
          cases p <;> cases q <;> first | rfl | exact absurd rfl hpq
        have SP2 := Lib.hid (SP.out.one hx2)
        clear hx hx2
        by_cases hf : f' < 0
        · rw [if_pos hf] at SP2
          cases p <;> cases q <;> try exact absurd rfl hpq
          · go_wp2_with fail
            refine B1.out.mono ?_; rintro e w' ⟨rfl, rfl⟩
            go_wp2_with fail
            refine B2.out.mono ?_; rintro e w' ⟨rfl, rfl⟩
            go_wp2
            go_round
            case rel => exact ⟨j + 1, _, _, by omega, by omega, by omega, by omega, by omega, rfl, rfl, rfl, SP2⟩
            case measure => simp [intOf]; omega
          · go_wp2_with fail
            refine B1.out.mono ?_; rintro e w' ⟨rfl, rfl⟩
            go_wp2_with fail
            refine B2.out.mono ?_; rintro e w' ⟨rfl, rfl⟩
            go_wp2
            go_round
            case rel => exact ⟨j + 1, _, _, by omega, by omega, by omega, by omega, by omega, rfl, rfl, rfl, SP2⟩
            case measure => simp [intOf]; omega
        · rw [if_neg hf] at SP2
          cases p <;> cases q <;> try exact absurd rfl hpq
          · go_wp2_with fail
            refine B1.out.mono ?_; rintro e w' ⟨rfl, rfl⟩
            go_wp2_with fail
            refine B2.out.mono ?_; rintro e w' ⟨rfl, rfl⟩
            go_wp2
            go_round
            case rel => exact ⟨j + 1, _, _, by omega, by omega, by omega, by omega, by omega, rfl, rfl, rfl, SP2⟩
            case measure => simp [intOf]; omega
          · go_wp2_with fail
            refine B1.out.mono ?_; rintro e w' ⟨rfl, rfl⟩
            go_wp2_with fail
            refine B2.out.mono ?_; rintro e w' ⟨rfl, rfl⟩
            go_wp2
            go_round
            case rel => exact ⟨j + 1, _, _, by omega, by omega, by omega, by omega, by omega, rfl, rfl, rfl, SP2⟩
            case measure => simp [intOf]; omega
    · have : j = 8 * n := by omega
      subst this
      obtain ⟨rfl, rfl⟩ := SP.out.uniq HS.out
      by_cases hf : f' < 0
      · have HG := Lib.hid (gap_none (l := l') hf)
        go_wp2
        go_ret2
        exact ⟨ret_pair HG.out.symm, rfl⟩
      · have HG := Lib.hid (gap_some (l := l') hf)
        go_wp2
        go_ret2
        exact ⟨ret_pair HG.out.symm, rfl⟩
end Go.Proofs.YtnbpmnnppkehpaaDoor.W
