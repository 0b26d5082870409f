/-
  Contracts of the reference's Put, and of Blank on both sides. No conditions.
-/
import Derived.Test.YthclgehifomkhaaDoorPgWalks
namespace Go.Proofs.YthclgehifomkhaaDoor.W
open Go.RowKit Oc
set_option linter.unusedVariables false

theorem three_cells (w : World) (u v x : Value) (T : TypeId) (b : Nat) (hb : b = w.heap.size) : ∀ (j : Nat) (y : Value), [u, v, x][j]? = some y → (w.alloc (.cells #[u, v, x] T)).cell? ⟨b, j, none⟩ = some y := by
  subst hb
  intro j y hy
  rw [cell_of_row _ _ _ _ _ _ (heap_alloc_new w (.cells #[u, v, x] T))]
  simpa using hy
theorem body_joined (k : Nat) (ps : List UInt8) (A1 A2 A3 : Option Addr) (c1 n2 c2 n3 c3 : Nat) : joined [⟨A1, 2, c1, [213, UInt8.ofNat k]⟩, ⟨A2, n2, c2, ps⟩, ⟨A3, n3, c3, List.replicate (58 - ps.length) 0⟩] = body k ps := by
  simp [joined, body]

set_option maxHeartbeats 1000000 in
theorem rput_any (A : Option Addr) (n c : Nat) (ps : List UInt8) (k : Int) (w : World) (hn : n ≤ 1000000) (ho : Oct w A n ps) :
    Calls Tryd.prog 21 #[.int .i64 k, .slice A n c] w (PTold w k ps) := by
  have HO := Lib.hid ho
  have hl := ho.len
  by_cases hk : Right k
  · by_cases h58 : 58 < n
    · have hq := Lib.hid (putE_long hk (n := ps.length) (by omega))
      have HK := Lib.hid hk
      clear ho hl hk
      go_enter Tryd.func21, Tryd.ntmps21
      go_wp2_with fail
      refine (rright_yes k _ HK.out).mono ?_; rintro e w' ⟨rfl, rfl⟩
      go_wp2
      go_ret2
      exact ptold_no hq.out (by decide) (Below.refl _ _)
    · obtain ⟨κ, rfl⟩ : ∃ κ : Nat, k = (κ : Int) := ⟨k.toNat, by unfold Right at hk; omega⟩
      have hκ : κ ≤ 7 := by unfold Right at hk; omega
      have HK := Lib.hid hk
      have HL := Lib.hid hl
      have HN : Hid (ps.length ≤ 58) := by show _ ≤ _; omega
      have HB : Hid ((body κ ps).length = 60) := body_length κ ps HN.out
      obtain ⟨m, hm⟩ : ∃ m, m = 58 - n := ⟨_, rfl⟩
      have hm2 : (58 : Int) - (n : Int) = (m : Int) := by omega
      have HM : Hid (58 - ps.length = m) := by show _ = _; omega
      have hκb : (κ : Int) = ((UInt8.ofNat κ).toNat : Int) := by simp; omega
      have HKB := Lib.hid hκb
      have hm3 : m ≤ 58 := by omega
      clear ho hl hk hκb hm
      go_enter Tryd.func21, Tryd.ntmps21
      go_wp2_with fail
      refine (rright_yes _ _ HK.out).mono ?_; rintro e w' ⟨rfl, rfl⟩
      go_wp2_with (at_make; refine wpList_make_zero rfl _ _ 26 rfl bt _ _ m rfl rfl (by omega) (by omega) (by omega) ?_; intro w1 o1 b1; have O1 := Lib.hid o1; have B1 := Lib.hid b1; clear o1 b1)
      have hz : Oct w1 (some ⟨w.heap.size, 0, none⟩) 2 [213, UInt8.ofNat κ] := (Oct.cells w 5 [213, UInt8.ofNat κ] #[.int .u8 213, .int .u8 (κ : Int)] (by rw [HKB.out]; rfl)).below B1.out
      have Z := Lib.hid hz
      have B1' : Hid (Below w.heap.size w w1) := bthen (balloc _ _) B1.out
      obtain ⟨A3, c3, hv3, l3, s3⟩ := O1.out.form (n := m) (by rw [List.length_replicate])
      injection hv3 with hv3 hv4 hv5
      have S3 := Lib.hid s3
      have HA := Lib.hid hv3
      clear hz hv3 hv4 hv5 s3
      have hj := join_any [⟨some ⟨w.heap.size, 0, none⟩, 2, 2, [213, UInt8.ofNat κ]⟩, ⟨A, n, c, ps⟩, ⟨some ⟨(w.alloc (.cells #[.int .u8 213, .int .u8 (κ : Int)] 5)).heap.size, 0, none⟩, m, m, List.replicate m 0⟩] w1.heap.size 3 3
        (w1.alloc (.cells #[.slice (some ⟨w.heap.size, 0, none⟩) 2 2, .slice A n c, .slice (some ⟨(w.alloc (.cells #[.int .u8 213, .int .u8 (κ : Int)] 5)).heap.size, 0, none⟩) m m] 26)) (by simp) rfl (by decide) (by
          intro j p hp
          match j, hp with
          | 0, hp => injection hp with hp; subst hp; exact ⟨three_cells w1 _ _ _ _ _ rfl 0 _ rfl, Z.out.alloc _, by show 2 ≤ _; omega⟩
          | 1, hp => injection hp with hp; subst hp; exact ⟨three_cells w1 _ _ _ _ _ rfl 1 _ rfl, (HO.out.below B1'.out).alloc _, hn⟩
          | 2, hp => injection hp with hp; subst hp; exact ⟨three_cells w1 _ _ _ _ _ rfl 2 _ rfl, by rw [HA.out]; exact S3.out.alloc _, by show m ≤ _; omega⟩)
      have ej := body_joined κ ps (some ⟨w.heap.size, 0, none⟩) A (some ⟨(w.alloc (.cells #[.int .u8 213, .int .u8 (κ : Int)] 5)).heap.size, 0, none⟩) 2 n c m m
      rw [HM.out] at ej
      rw [ej] at hj
      have hsz : (w.alloc (.cells #[.int .u8 213, .int .u8 (κ : Int)] 5)).heap.size = w.heap.size + 1 := by simp
      rw [hsz] at hj
      have HJ := Lib.hid hj
      clear hj ej
      refine HJ.out.mono ?_; rintro e w2 ⟨v2, rfl, o2, b2⟩
      obtain ⟨A2, c2, rfl, l2, s2⟩ := o2.form (n := 60) HB.out
      have S2 := Lib.hid s2
      have B2 : Hid (Below w.heap.size w w2) := bthen (bthen B1'.out (balloc _ _)) b2
      clear o2 b2 s2
      go_wp2_with fail
      refine (rseal_any _ _ _ _ _ (by omega) S2.out).mono ?_; rintro e w3 ⟨v3, rfl, o3, b3⟩
      have O3 := Lib.hid (o3.more B2.out.size)
      have B3 := Lib.hid (bthen B2.out b3)
      clear o3 b3
      go_wp2
      go_ret2
      exact ptold_ok HK.out HN.out rfl O3.out B3.out
  · have hq := Lib.hid (putE_arg hk ps.length)
    have HK := Lib.hid hk
    clear ho hl hk
    go_enter Tryd.func21, Tryd.ntmps21
    go_wp2_with fail
    refine (rright_no k _ HK.out).mono ?_; rintro e w' ⟨rfl, rfl⟩
    go_wp2
    go_ret2
    exact ptold_no hq.out (by decide) (Below.refl _ _)

end Go.Proofs.YthclgehifomkhaaDoor.W
