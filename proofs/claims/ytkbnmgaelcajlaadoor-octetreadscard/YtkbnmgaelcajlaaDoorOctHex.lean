/-
  Contracts of octet.Hex and of the reference's Hex. No conditions.
-/
import Derived.Test.YtkbnmgaelcajlaaDoorOctDigit
import Derived.Deep.RegionHeld3
import Derived.Deep.QuietTactic
import Derived.BigQuiet
namespace Go.Proofs.YtkbnmgaelcajlaaDoor.W
open Go.RowKit Oc
set_option linter.unusedVariables false

theorem ret_str {a b : ByteArray} (h : a = b) : Ending.returned (.string a) = .returned (.string b) := by rw [h]

set_option maxHeartbeats 1000000 in
theorem hex_any (A : Option Addr) (n c : Nat) (xs : List UInt8) (w : World) (hn : n ≤ 1000000000) (ho : Oct w A n xs) (he : Env w) :
    Calls Tryd.prog 25 #[.slice A n c] w fun e w' => e = .returned (.string (bstr (hexOf xs))) ∧ Below w.heap.size w w' := by
  have HO := Lib.hid ho
  have HE := Lib.hid he
  have hxl := Lib.hid ho.len
  clear ho he
  go_enter Tryd.func25, Tryd.ntmps25
  go_wp2_with (at_make; refine wpList_make_oct rfl _ _ 22 rfl bt _ (2 * n) rfl rfl (by omega) (by omega) ?_; intro w1 o1 b1; have O1 := Lib.hid o1; have B1 := Lib.hid b1; clear o1 b1)
  go_loopw [3, 12] (fun v q wr => ∃ j : Nat, j ≤ n ∧ q = .int .i64 j ∧ Hid (Own wr 5 w.heap.size v (hexOf (xs.take j))) ∧ Hid (Below w.heap.size w wr)) (fun _ q _ => n - (intOf q).toNat)
  case atStart => exact ⟨0, by omega, rfl, O1, B1⟩
  case round =>
    obtain ⟨j, hj, rfl, OJ, BJ⟩ := hrel
    by_cases hlt : j < n
    · obtain ⟨b, off, x, rfl, hx, hcell⟩ := (HO.out.below BJ.out).at_ (k := j) hlt
      have EJ := HE.out.below BJ.out
      have hxx := x.toNat_lt
      obtain ⟨p, ep⟩ : ∃ p, x.toNat / 16 = p := ⟨_, rfl⟩
      obtain ⟨q, eq⟩ : ∃ q, x.toNat % 16 = q := ⟨_, rfl⟩
      have hp : p < 16 := by omega
      have hq : q < 16 := by omega
      have h1 : (x.toNat : Int) / 16 = (p : Int) := by omega
      have h2 : bits BinOp.and IntKind.u8 (x.toNat : Int) 15 = (q : Int) := by
        have := u8_and_nat x.toNat 15 (by omega) (by omega)
        rw [nat_mask4, eq] at this
        exact this
      have hp1 : (p : Int) < 16 := by omega
      have hq1 : (q : Int) < 16 := by omega
      have t1 := EJ.cell hp
      have t2 := EJ.cell hq
      have HX := Lib.hid hx
      have EP := Lib.hid ep
      have EQ := Lib.hid eq
      have HEJ := Lib.hid EJ
      clear hx EJ ep eq
      go_wp2
      go_region_held3 (fun w' => w'.cell? ⟨0, p, none⟩ = some (.int .u8 ((hexd p).toNat : Int)) ∧ w'.cell? ⟨0, q, none⟩ = some (.int .u8 ((hexd q).toNat : Int)))
        (first
          | go_keep
          | exact ⟨(HE.out.below b3).cell hp, (HE.out.below b3).cell hq⟩)
        ((refine step_append_to (by rfl) _ _ 22 (by rfl) bt (by rfl) ((OJ.out.alloc _).drew) ((BJ.out.alloc BJ.out.size _).drew) _ (by rfl) ((Oct.cells _ 5 [hexd p, hexd q] _ rfl).drew) (by rw [hexOf_length, List.length_take, hxl.out]; show _ + 2 ≤ _; omega) ?_; intro v3 w3 o3 b3))
      go_wp2
      go_roundw
      case rel => exact ⟨j + 1, by omega, by go_num, by show Own _ _ _ _ _; rw [hexOf_take xs j x HX.out, EP.out, EQ.out]; exact o3, b3⟩
      case measure => simp [intOf]; omega
    · have : j = n := by omega
      subst this
      obtain ⟨A3, c3, rfl, l3, s3⟩ := OJ.out.slice
      have hcv := s3.conv bt Tryd.underlying9 c3
      clear s3
      have ht : Hid (xs.take j = xs) := List.take_of_length_le (by rw [hxl.out]; exact Nat.le_refl _)
      go_wp2
      go_ret
      exact ⟨ret_str (by rw [ht.out]), BJ.out⟩

def digs : ByteArray := { data := #[48, 49, 50, 51, 52, 53, 54, 55, 56, 57, 97, 98, 99, 100, 101, 102] }
theorem digs_at {k : Nat} (h : k < 16) : digs.extract k (k + 1) = bstr [hexd k] := by
  have : ∀ k : Fin 16, (digs.extract k.val (k.val + 1)).data = (bstr [hexd k.val]).data := by decide +kernel
  exact ByteArray.ext (this ⟨k, h⟩)
theorem slice_digs {k : Nat} (h : k < 16) (w : World) : (Instr.slice 9 (.string { data := #[48, 49, 50, 51, 52, 53, 54, 55, 56, 57, 97, 98, 99, 100, 101, 102] }) (some (.int .u8 (k : Int))) (some (.int .u8 ((k : Int) + 1))) none).run Tryd.prog w = .ok (.string (bstr [hexd k])) w := by
  rw [← digs_at h]
  have h0 : (0 : Int) ≤ (k : Int) := by omega
  have h1 : (k : Int) + 1 ≤ 16 := by omega
  have e : ((k : Int) + 1).toNat = k + 1 := by omega
  have hs : (ByteArray.mk #[48, 49, 50, 51, 52, 53, 54, 55, 56, 57, 97, 98, 99, 100, 101, 102]).size = 16 := rfl
  simp [Instr.slice, run_underlying Tryd.underlying9, Instr.sliceBounds, hs, h0, h1, e, go_sem]
  rw [if_pos (by omega)]
  rfl
theorem run_add (w : World) (a b : List UInt8) (h : a.length + b.length ≤ 9223372036854775807) : (Op.stringOp .add (bstr a) (bstr b)).run Tryd.prog w = .ok (.string (bstr (a ++ b))) w := by
  rw [run_string_add_sum w (bstr a) (bstr b) (by simpa [bstr, ByteArray.size] using h)]
  congr 2

set_option maxHeartbeats 2000000 in
theorem rhex_any (A : Option Addr) (n c : Nat) (xs : List UInt8) (w : World) (hn : n ≤ 1000000000) (ho : Oct w A n xs) :
    Calls Tryd.prog 27 #[.slice A n c] w fun e w' => e = .returned (.string (bstr (hexOf xs))) ∧ ∃ m, w' = w.drewN m := by
  have HO := Lib.hid ho
  have hxl := Lib.hid ho.len
  clear ho
  go_enter Tryd.func27, Tryd.ntmps27
  go_wp2
  go_loopw [4, 5] (fun v q wr => ∃ j m : Nat, j ≤ n ∧ q = .int .i64 j ∧ v = .string (bstr (hexOf (xs.take j))) ∧ Hid (wr = w.drewN m)) (fun _ q _ => n - (intOf q).toNat)
  case atStart => exact ⟨0, 0, by omega, rfl, rfl, rfl⟩
  case round =>
    obtain ⟨j, m, hj, rfl, rfl, EW⟩ := hrel
    by_cases hlt : j < n
    · have hw := EW.out
      subst hw
      obtain ⟨b, off, x, rfl, hx, hcell⟩ := HO.out.at_ (k := j) hlt
      have hxx := x.toNat_lt
      obtain ⟨p, ep⟩ : ∃ p, x.toNat / 16 = p := ⟨_, rfl⟩
      obtain ⟨q, eq⟩ : ∃ q, x.toNat % 16 = q := ⟨_, rfl⟩
      have hp : p < 16 := by omega
      have hq : q < 16 := by omega
      have HX := Lib.hid hx
      have EP := Lib.hid ep
      have EQ := Lib.hid eq
      obtain ⟨S, es⟩ : ∃ S, bstr (hexOf (xs.take j)) = S := ⟨_, rfl⟩
      obtain ⟨S2, es2⟩ : ∃ S2, bstr (hexOf (xs.take (j + 1))) = S2 := ⟨_, rfl⟩
      obtain ⟨S1, es1⟩ : ∃ S1, bstr (hexOf (xs.take j) ++ [hexd p]) = S1 := ⟨_, rfl⟩
      have hl : (hexOf (xs.take j)).length ≤ 2000000000 := by rw [hexOf_length, List.length_take, hxl.out]; omega
      have a1 : ∀ w, (Op.stringOp .add S (bstr [hexd p])).run Tryd.prog w = .ok (.string S1) w := fun w => by rw [← es, ← es1]; exact run_add w _ _ (by simp; omega)
      have a2 : ∀ w, (Op.stringOp .add S1 (bstr [hexd q])).run Tryd.prog w = .ok (.string S2) w := fun w => by
        rw [← es1, ← es2, hexOf_take xs j x hx, ep, eq, show hexOf (xs.take j) ++ [hexd p, hexd q] = hexOf (xs.take j) ++ [hexd p] ++ [hexd q] by simp]; exact run_add w _ _ (by simp; omega)
      rw [es]
      have ES := Lib.hid es2
      have d1 := slice_digs hp
      have d2 := slice_digs hq
      have h1 : IntKind.u8.wrap ((x.toNat : Int) / 16) = (p : Int) := by rw [IntKind.wrap_u8']; omega
      have h2 : Int.tmod (x.toNat : Int) 16 = (q : Int) := by rw [Int.tmod_eq_emod_of_nonneg (by omega)]; omega
      have h3 : IntKind.u8.wrap ((p : Int) + 1) = (p : Int) + 1 := by rw [IntKind.wrap_u8']; omega
      have h4 : IntKind.u8.wrap ((q : Int) + 1) = (q : Int) + 1 := by rw [IntKind.wrap_u8']; omega
      clear hx ep eq es es1 es2 hl HX EP EQ
      go_wp2
      go_quiet (fail)
      go_wp2
      go_roundw
      case rel => exact ⟨j + 1, m + _, by omega, by go_num, by rw [ES.out], by show _ = _; rfl⟩
      case measure => simp [intOf]; omega
    · have : j = n := by omega
      subst this
      have ht : Hid (xs.take j = xs) := List.take_of_length_le (by rw [hxl.out]; exact Nat.le_refl _)
      go_wp2
      go_ret
      exact ⟨ret_str (by rw [ht.out]), m, EW.out⟩
end Go.Proofs.YtkbnmgaelcajlaaDoor.W
