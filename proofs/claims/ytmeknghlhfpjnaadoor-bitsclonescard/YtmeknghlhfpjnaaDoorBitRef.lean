/-
  Contracts of the reference's functions on rows of bools, and of its Same. No conditions.
-/
import Derived.Test.YtmeknghlhfpjnaaDoorBitNew
namespace Go.Proofs.YtmeknghlhfpjnaaDoor.W
open Go.RowKit Bt Rw
set_option linter.unusedVariables false

theorem bt : ElTy Tryd.prog 27 4 (.bool false) 1 := ⟨Tryd.underlying27, by kernel_rfl, rfl, by decide⟩
/-- bools as cells -/
def bv (l : List Bool) : List Value := l.map Value.bool
theorem bv_len (l : List Bool) : (bv l).length = l.length := by simp [bv]
theorem bv_at {l : List Bool} {k : Nat} (h : k < l.length) : (bv l)[k]? = some (.bool (inn l k)) := by
  unfold bv; rw [List.getElem?_map, inn_get h]; rfl
theorem bv_one (l : List Bool) : ∀ u ∈ bv l, u.oneCell' = true := by
  intro u hu
  obtain ⟨x, _, rfl⟩ := List.mem_map.1 hu
  rfl

set_option maxHeartbeats 1000000 in
theorem rcount_any (A : Option Addr) (n c : Nat) (l : List Bool) (w : World) (hs : Sl w A n (bv l)) (hn : l.length = n) (hl : n ≤ 4096) (r : Nat) (hr : cnt l = r) :
    Calls Tryd.prog 24 #[.slice A n c] w fun e w' => e = .returned (.int .i64 (r : Int)) ∧ w = w' := by
  have HS := Lib.hid hs
  have HR := Lib.hid hr
  have HN := Lib.hid hn
  clear hs hr hn
  go_enter Tryd.func24, Tryd.ntmps24
  go_wp2
  go_loop [3, 4] (fun y q => ∃ j a : Nat, j ≤ n ∧ q = .int .i64 j ∧ y = .int .i64 a ∧ a ≤ j ∧ Hid (cnt (l.take j) = a)) (fun _ q => n - (intOf q).toNat)
  case atStart => exact ⟨0, 0, by omega, rfl, rfl, by omega, rfl⟩
  case round =>
    obtain ⟨j, a, hj, rfl, rfl, ha, E⟩ := hrel
    by_cases hlt : j < n
    · obtain ⟨b, off, rfl, hcell⟩ := HS.out.at_ (bv_at (l := l) (k := j) (by rw [HN.out]; exact hlt))
      have e := cnt_succ l j (by rw [HN.out]; exact hlt)
      rw [E.out] at e
      cases hx : inn l j
      · rw [hx] at hcell e
        have E2 := Lib.hid e
        clear e hx
        go_wp2
        go_round
        case rel => exact ⟨j + 1, a, by omega, by go_num, rfl, by omega, E2⟩
        case measure => simp [intOf]; omega
      · rw [hx] at hcell e
        have E2 := Lib.hid e
        clear e hx
        go_wp2
        go_round
        case rel => exact ⟨j + 1, a + 1, by omega, by go_num, by go_num, by omega, E2⟩
        case measure => simp [intOf]; omega
    · have : j = n := by omega
      subst this
      have e : a = r := by rw [← HR.out, ← E.out, ← HN.out, List.take_length]
      subst e
      go_wp2
      go_ret
      exact ⟨rfl, rfl⟩

theorem rhas_any (A : Option Addr) (n c : Nat) (l : List Bool) (w : World) (hs : Sl w A n (bv l)) (hn : l.length = n) (i : Int) (b : Bool) (hb : hasI l i = b) :
    Calls Tryd.prog 22 #[.slice A n c, .int .i64 i] w fun e w' => e = .returned (.bool b) ∧ w = w' := by
  by_cases h0 : i < 0
  · have e : b = false := by rw [← hb, hasI]; have : ¬ 0 ≤ i := by omega
                             simp [this]
    subst e
    clear hs hb hn
    go_enter Tryd.func22, Tryd.ntmps22
    go_wp2
    go_ret
    exact ⟨rfl, rfl⟩
  · obtain ⟨k, rfl⟩ := Int.eq_ofNat_of_zero_le (show 0 ≤ i by omega)
    by_cases h1 : k < n
    · obtain ⟨bk, off, rfl, hcell⟩ := hs.at_ (bv_at (l := l) (k := k) (by rw [hn]; exact h1))
      have e : inn l k = b := by rw [← hb, hasI, Int.toNat_natCast]; simp
      rw [e] at hcell
      clear hs hb hn e h0
      go_enter Tryd.func22, Tryd.ntmps22
      go_wp2
      go_ret
      exact ⟨rfl, rfl⟩
    · have e : b = false := by rw [← hb, hasI, Int.toNat_natCast, inn_ge (by omega), Bool.and_false]
      subst e
      clear hs hb hn h0
      have h2 : n ≤ k := by omega
      clear h1
      go_enter Tryd.func22, Tryd.ntmps22
      go_wp2
      go_ret
      exact ⟨rfl, rfl⟩

set_option maxHeartbeats 1000000 in
theorem rnext_any (A : Option Addr) (n c : Nat) (l : List Bool) (w : World) (hs : Sl w A n (bv l)) (hn : l.length = n) (hl : n ≤ 4096) (i : Int) (b : Bool) (r : Int) (ok : Bool) (hx : Nx l i.toNat b r ok) :
    Calls Tryd.prog 23 #[.slice A n c, .int .i64 i, .bool b] w fun e w' => e = .returned (.tuple #[.int .i64 r, .bool ok]) ∧ w = w' := by
  have HS := Lib.hid hs
  have HN := Lib.hid hn
  have hmx := max_zero i
  obtain ⟨k0, hk0⟩ : ∃ k0, i.toNat = k0 := ⟨_, rfl⟩
  rw [hk0] at hmx hx
  have HX := Lib.hid hx
  clear hs hn hx hk0
  go_enter Tryd.func23, Tryd.ntmps23
  go_wp2
  go_loop [8] (fun q => ∃ j : Nat, (j ≤ n ∨ j = k0) ∧ q = .int .i64 j ∧ k0 ≤ j ∧ Hid (Nobody l b k0 j)) (fun q => n - (intOf q).toNat)
  case atStart => exact ⟨k0, by omega, rfl, by omega, fun m h1 h2 => by omega⟩
  case round =>
    obtain ⟨j, hj, rfl, hkj, NB⟩ := hrel
    by_cases hlt : j < n
    · obtain ⟨bk, off, rfl, hcell⟩ := HS.out.at_ (bv_at (l := l) (k := j) (by rw [HN.out]; exact hlt))
      by_cases hb : inn l j = b
      · have HR := Lib.hid (HX.out.yes hkj (by rw [HN.out]; exact hlt) hb fun q h1 h2 => NB.out q h1 h2 (by rw [HN.out]; omega))
        rw [hb] at hcell
        have hbb : (b == b) = true := by simp
        clear hb
        go_wp2
        go_ret2
        exact ⟨ret_pair HR.out.1.symm HR.out.2.symm, rfl⟩
      · have hb2 := flip_eq hb
        have NB2 : Hid (Nobody l b k0 (j + 1)) := fun q h1 h2 h3 => by
          by_cases e : q = j
          · subst e; exact hb2
          · exact NB.out q h1 (by omega) h3
        rw [hb2] at hcell
        have hbb : (!b == b) = false := by cases b <;> rfl
        clear hb hb2
        go_wp2
        go_round
        case rel => exact ⟨j + 1, by omega, by go_num, by omega, NB2⟩
        case measure => simp [intOf]; omega
    · have HR := Lib.hid (HX.out.no fun q h1 h2 => NB.out q h1 (by rw [HN.out] at h2; omega) h2)
      have h2 : n ≤ j := by omega
      clear hlt
      go_wp2
      go_ret2
      exact ⟨ret_pair HR.out.1.symm HR.out.2.symm, rfl⟩
end Go.Proofs.YtmeknghlhfpjnaaDoor.W
