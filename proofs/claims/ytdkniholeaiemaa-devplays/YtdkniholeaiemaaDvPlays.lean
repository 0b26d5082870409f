/-
  The walk of the statement on any calls of two devices. No conditions.
-/
import Derived.Test.YtdkniholeaiemaaDvAfter
import Derived.Test.YtdkniholeaiemaaDvSame2
namespace Go.Proofs.Ytdkniholeaiemaa.W
open Go.RowKit Oc Dm Gt Tn
set_option linter.unusedVariables false
set_option maxRecDepth 100000
section
variable {o : Nat → Nat} {w w' w'' : World} {T N : Nat} {ns : Nat → Nat}
theorem after_same (h : After o w T ns N w') : Calls Try.prog 9 #[.pointer (some ⟨T, 0, none⟩)] w' fun e w'' => e = .returned (.bool true) ∧ After o w T ns N w'' := by
  have h0 := h
  obtain ⟨o', p, q, D, E, s, d, m, x⟩ := h
  exact (same_any m).mono fun e w'' ⟨h1, h2⟩ => ⟨h1, h0.then h2⟩
end
set_option maxHeartbeats 8000000 in
theorem plays_walk (xa xb : Nat) (hxa : xa ≤ 255) (hxb : xb ≤ 255) (A : Option Addr) (n2 c2 : Nat) (L : Nat → ActV) (w : World) (ha : Acts w A n2 L) :
    Calls Try.prog 3 #[.int .u8 (xa : Int), .int .u8 (xb : Int), .slice A n2 c2] w fun e w' => e = .returned (.bool true) ∧ Below w.heap.size w w' := by
  have HA := Lib.hid ha
  obtain ⟨fa, hfa⟩ : ∃ f : Nat, (xa : Int) % 10 = (f : Int) := ⟨xa % 10, by omega⟩
  obtain ⟨fb, hfb⟩ : ∃ f : Nat, (xb : Int) % 10 = (f : Int) := ⟨xb % 10, by omega⟩
  have hfa2 : fa < 10 := by omega
  have hfb2 : fb < 10 := by omega
  clear ha
  go_enter Try.func3, Try.ntmps3
  go_wp2_with fail
  refine (begin_mid w fa fb (by omega) (by omega)).mono ?_; rintro e w1 ⟨T, rfl, af1⟩
  have AF1 := Lib.hid af1
  clear af1
  generalize two fa fb = ns at AF1
  go_wp2_with fail
  go_loopw [9] (fun q9 wr => ∃ i : Nat, i ≤ n2 ∧ i ≤ 40 ∧ q9 = .int .i64 (i : Int) ∧ Hid (After (fun _ => 0) w T ns i wr)) (fun q9 _ => 40 - (intOf q9).toNat)
  case atStart => exact ⟨0, by omega, by omega, rfl, AF1⟩
  case round =>
    obtain ⟨i, hi, hi2, rfl, AI⟩ := hrel
    clear AF1
    have hlen : i < n2 ∧ i < 40 ∨ n2 ≤ i ∨ (i < n2 ∧ 40 ≤ i) := by omega
    rcases hlen with ⟨hl1, hl2⟩ | hend
    · obtain ⟨b, off, rfl, act⟩ := HA.out i hl1
      have ACT := Lib.hid act
      have c := act_cells_at act AI.out.all
      have HDO := Lib.hid (fun hN => after_do AI.out hN act)
      clear act HA
      generalize L i = la at ACT c HDO
      obtain ⟨z0, z1, z2, z3, z4, z5, z6, z7, z8, z9, fa', fl, fc, fs⟩ := la
      obtain ⟨c0, c1, c2', c3, c4, c5, c6, c7, c8, c9, c10⟩ := c
      have hi40 : (i : Int) < 40 := by omega
      have hin : (i : Int) < (n2 : Int) := by omega
      go_wp2_with fail
      refine (HDO.out (by omega)).mono ?_; rintro e w2 ⟨rfl, af2⟩
      have AF2 := Lib.hid af2
      clear af2 c0 c1 c2' c3 c4 c5 c6 c7 c8 c9 c10 HDO AI
      go_wp2_with fail
      refine (after_same AF2.out).mono ?_; rintro e w3 ⟨rfl, af3⟩
      have AF3 := Lib.hid af3
      clear af3 AF2
      go_wp2
      go_roundw
      case rel => exact ⟨i + 1, by omega, by omega, by go_num, AF3⟩
      case measure => simp [intOf]; omega
    · rcases hend with hend | ⟨hend, hend2⟩
      all_goals
        go_wp2_with fail
        refine (after_same AI.out).mono ?_; rintro e w2 ⟨rfl, af2⟩
        have AF2 := Lib.hid af2
        clear af2
        go_wp2_with fail
        refine (awake_any _).mono ?_; rintro e w6 ⟨rfl, b6⟩
        have B6 := Lib.hid (bthen AF2.out.all b6)
        clear b6
        go_wp2
        go_ret
        exact ⟨rfl, B6.out⟩
theorem plays_law (W : World) (a0 : Int) (w0 : (Lit.int .u8 a0).wf = true) (a1 : Int) (w1 : (Lit.int .u8 a1).wf = true) (D : Option Addr) (n c : Nat) (L : Nat → ActV) (hl : n ≤ c) (hm : c ≤ maxLen) (h : Acts W D n L) :
    Calls Try.prog 3 #[.int .u8 a0, .int .u8 a1, .slice D n c] W fun e w' => e = .returned (.bool true) ∧ Below W.heap.size W w' := by
  simp [Lit.wf, IntKind.min, IntKind.max, IntKind.signed, IntKind.bits] at w0 w1
  obtain ⟨x, rfl⟩ := Int.eq_ofNat_of_zero_le w0.1
  obtain ⟨y, rfl⟩ := Int.eq_ofNat_of_zero_le w1.1
  exact plays_walk x y (by omega) (by omega) D n c L W h
end Go.Proofs.Ytdkniholeaiemaa.W
