/-
  Contract of the reference's Masks. No conditions but bounds of the numbers.
-/
import Derived.Test.YtpaakakkcbahcaaPnMask
namespace Go.Proofs.Ytpaakakkcbahcaa.W
open Go.RowKit Num Rw Mk
set_option linter.unusedVariables false

theorem pow_u8 {M : Nat} (h : M ≤ 7) : 2 ^ M < 256 := by
  have := Nat.pow_le_pow_right (n := 2) (by decide) h
  omega
theorem mkv_new {L i : Nat} (h : L ≤ i) (hn : i = L ∨ i % 8 = 0) : mkv L (i + 1) (cnt L (i + 1)) = (mkv L i (cnt L i) ++ [Value.int .u8 0]).set (cnt L i) (.int .u8 ((2 ^ (i % 8) : Nat) : Int)) := by
  rw [List.set_append_right _ _ (by rw [mkv_len]; exact Nat.le_refl _), mkv_len, Nat.sub_self, List.set_cons_zero]
  unfold mkv
  rw [mks_new h hn, List.map_append]
  simp only [List.map_cons, List.map_nil]
  rw [ov_of (pow_u8 (by omega))]
theorem mkv_old {L i : Nat} (h : L < i) (hn : ¬ i % 8 = 0) : mkv L (i + 1) (cnt L (i + 1)) = (mkv L i (cnt L i)).set (cnt L i - 1) (.int .u8 ((mk L i (i / 8) + 2 ^ (i % 8) : Nat) : Int)) := by
  unfold mkv
  rw [mks_old h hn, List.map_set, ov_of (by rw [← mk_more h hn]; exact mk_lt _ _ _)]
theorem mkv_at {L i j : Nat} (hj : j < cnt L i) : (mkv L i (cnt L i))[j]? = some (.int .u8 ((mk L i (L / 8 + j) : Nat) : Int)) := by
  have : (mks L i (cnt L i))[j]? = some (UInt8.ofNat (mk L i (L / 8 + j))) := by simp [mks, hj]
  unfold mkv
  rw [List.getElem?_map, this]
  simp only [Option.map_some]
  rw [ov_of (mk_lt _ _ _)]
theorem exs_at {L c j : Nat} (hj : j < c) : (exs L c)[j]? = some (.int .i64 ((L / 8 + j : Nat) : Int)) := by simp [exs, hj]
/-- nothing is among them below L, or from H on -/
theorem same_rows {L H i : Nat} (h : i < L ∨ H ≤ i) : cnt L (min (i + 1) H) = cnt L (min i H) ∧ ∀ c, c = cnt L (min i H) → mkv L (min (i + 1) H) c = mkv L (min i H) c := by
  rcases h with h | h
  · rw [cnt_zero (show min (i + 1) H ≤ L by omega), cnt_zero (show min i H ≤ L by omega)]
    exact ⟨rfl, fun c e => by subst e; rfl⟩
  · rw [show min (i + 1) H = min i H by omega]
    exact ⟨rfl, fun _ _ => rfl⟩

set_option maxRecDepth 100000 in
set_option maxHeartbeats 16000000 in
theorem rmasks_any (p : Pl) (lba n : Int) (nb L : Nat) (E : Int) (h0 : p.a0 = nb) (hb : nb ≤ 512) (hL : (if lba < 0 then 0 else lba) = (L : Int)) (hE : (if (nb : Int) < sat (lba + n) then (nb : Int) else sat (lba + n)) = E) (w : World) (h1 : -9223372036854775808 ≤ lba) (h2 : lba ≤ 9223372036854775807) (h3 : -9223372036854775808 ≤ n) (h4 : n ≤ 9223372036854775807) :
    Calls Try.prog 25 #[(.agg #[.int .i64 p.a0, .int .i64 p.a1, .int .i64 p.a2, .int .i64 p.a3, .int .i64 p.a4, .int .i64 p.a5, .int .i64 p.a6, .int .i64 p.a7, .int .i64 p.a8, .int .i64 p.a9, .int .i64 p.a10, .int .i64 p.a11, .int .i64 p.a12]), .int .i64 lba, .int .i64 n] w fun e w' => ∃ v1 v2, e = .returned (.tuple #[v1, v2]) ∧ OwnV w' 3 w.heap.size v1 (exs L (cnt L E.toNat)) ∧ OwnV w' 5 w.heap.size v2 (mkv L E.toNat (cnt L E.toNat)) ∧ Below w.heap.size w w' := by
  have H0 := Lib.hid h0
  have hEn : E ≤ nb := by split at hE <;> omega
  have HI : Hid (∀ i : Nat, i < nb → ((L ≤ i ∧ i < E.toNat) ↔ (lba ≤ (i : Int) ∧ (i : Int) < lba + n))) := by
    intro i hi
    have hs : ((i : Int) < sat (lba + n)) ↔ (i : Int) < lba + n := by
      by_cases c1 : 9223372036854775807 < lba + n
      · rw [sat_hi _ c1]; omega
      · by_cases c2 : lba + n < -9223372036854775808
        · rw [sat_lo _ c2]; omega
        · rw [sat_in _ (by omega) (by omega)]
    split at hL <;> split at hE <;> omega
  clear h0 hL hE
  obtain ⟨H, hH⟩ : ∃ H, E.toNat = H := ⟨_, rfl⟩
  rw [hH] at HI ⊢
  have hHn : H ≤ nb := by omega
  clear hH
  go_enter Try.func25, Try.ntmps25
  go_wp2
  have Z := Lib.hid (balloc w (.cells #[.int .i64 p.a0, .int .i64 p.a1, .int .i64 p.a2, .int .i64 p.a3, .int .i64 p.a4, .int .i64 p.a5, .int .i64 p.a6, .int .i64 p.a7, .int .i64 p.a8, .int .i64 p.a9, .int .i64 p.a10, .int .i64 p.a11, .int .i64 p.a12] 28))
  have Y0 : Hid (∀ wr, Below (w.alloc (.cells #[.int .i64 p.a0, .int .i64 p.a1, .int .i64 p.a2, .int .i64 p.a3, .int .i64 p.a4, .int .i64 p.a5, .int .i64 p.a6, .int .i64 p.a7, .int .i64 p.a8, .int .i64 p.a9, .int .i64 p.a10, .int .i64 p.a11, .int .i64 p.a12] 28)).heap.size (w.alloc (.cells #[.int .i64 p.a0, .int .i64 p.a1, .int .i64 p.a2, .int .i64 p.a3, .int .i64 p.a4, .int .i64 p.a5, .int .i64 p.a6, .int .i64 p.a7, .int .i64 p.a8, .int .i64 p.a9, .int .i64 p.a10, .int .i64 p.a11, .int .i64 p.a12] 28)) wr → wr.cell? ⟨w.heap.size, 0, none⟩ = some (.int .i64 (nb : Int))) := fun wr b => by rw [← H0.out]; exact box_cell b rfl
  generalize w.alloc (.cells #[.int .i64 p.a0, .int .i64 p.a1, .int .i64 p.a2, .int .i64 p.a3, .int .i64 p.a4, .int .i64 p.a5, .int .i64 p.a6, .int .i64 p.a7, .int .i64 p.a8, .int .i64 p.a9, .int .i64 p.a10, .int .i64 p.a11, .int .i64 p.a12] 28) = w0 at Z Y0 ⊢
  go_loopw [8, 9, 10] (fun v1 v2 q wr => ∃ i : Nat, i ≤ nb ∧ q = .int .i64 (i : Int) ∧ Hid (OwnV wr 3 w0.heap.size v1 (exs L (cnt L (min i H)))) ∧ Hid (OwnV wr 5 w0.heap.size v2 (mkv L (min i H) (cnt L (min i H)))) ∧ Hid (Below w0.heap.size w0 wr)) (fun _ _ q _ => nb - (intOf q).toNat)
  case atStart => exact ⟨0, by omega, rfl, by rw [show min 0 H = 0 by omega, cnt_zero (Nat.zero_le _)]; exact OwnV.nil _ _ _, by rw [show min 0 H = 0 by omega, cnt_zero (Nat.zero_le _)]; exact OwnV.nil _ _ _, Below.refl _ _⟩
  case round =>
    obtain ⟨i, hi, rfl, O1, O2, BJ⟩ := hrel
    have y0 := Y0.out _ BJ.out
    by_cases hlt : i < nb
    case neg =>
      have hin : i = nb := by omega
      subst hin
      have hmin : min i H = H := by omega
      rw [hmin] at O1 O2
      go_wp2
      go_ret2
      exact ⟨_, _, rfl, O1.out.more Z.out.size, O2.out.more Z.out.size, bthen Z.out BJ.out⟩
    have hI := HI.out i hlt
    by_cases d1 : (i : Int) < lba
    · have q1 : 0 ≤ lba := by omega
      have hout : i < L ∨ H ≤ i := by omega
      have SR := Lib.hid (same_rows hout)
      clear hI hout
      go_wp2
      go_roundw
      case rel => exact ⟨i + 1, by omega, by go_num, by show OwnV _ _ _ _ _; rw [SR.out.1]; exact O1.out, by show OwnV _ _ _ _ _; rw [SR.out.1, SR.out.2 _ rfl]; exact O2.out, BJ⟩
      case measure => simp [intOf]; omega
    by_cases d2 : lba < 0
    · by_cases d3 : n < 1
      · by_cases d4 : wrap64 (lba + n) ≤ (i : Int)
        · have hout : i < L ∨ H ≤ i := by omega
          have SR := Lib.hid (same_rows hout)
          clear hI hout
          go_wp2
          go_roundw
          case rel => exact ⟨i + 1, by omega, by go_num, by show OwnV _ _ _ _ _; rw [SR.out.1]; exact O1.out, by show OwnV _ _ _ _ _; rw [SR.out.1, SR.out.2 _ rfl]; exact O2.out, BJ⟩
          case measure => simp [intOf]; omega
        · have hout : i < L ∨ H ≤ i := by omega
          have SR := Lib.hid (same_rows hout)
          clear hI hout
          go_wp2
          go_roundw
          case rel => exact ⟨i + 1, by omega, by go_num, by show OwnV _ _ _ _ _; rw [SR.out.1]; exact O1.out, by show OwnV _ _ _ _ _; rw [SR.out.1, SR.out.2 _ rfl]; exact O2.out, BJ⟩
          case measure => simp [intOf]; omega
      · by_cases d4 : lba + n ≤ (i : Int)
        · have hout : i < L ∨ H ≤ i := by omega
          have SR := Lib.hid (same_rows hout)
          clear hI hout
          go_wp2
          go_roundw
          case rel => exact ⟨i + 1, by omega, by go_num, by show OwnV _ _ _ _ _; rw [SR.out.1]; exact O1.out, by show OwnV _ _ _ _ _; rw [SR.out.1, SR.out.2 _ rfl]; exact O2.out, BJ⟩
          case measure => simp [intOf]; omega
        · have hin : L ≤ i ∧ i < H := hI.2 (by omega)
          clear hI
          obtain ⟨hLi, hiH⟩ := hin
          have hmin : min i H = i := by omega
          rw [hmin] at O1 O2
          obtain ⟨X, hXX⟩ : ∃ X, i / 8 = X := ⟨_, rfl⟩
          obtain ⟨M, hMM⟩ : ∃ M, i % 8 = M := ⟨_, rfl⟩
          have hX : (i : Int) / 8 = (X : Int) := by omega
          have hM : (i : Int) % 8 = (M : Int) := by omega
          have hM7 : M ≤ 7 := by omega
          have hC5 : cnt L i ≤ 512 := by have := cnt_le (L := L) (i := i); omega
          have HXX := Lib.hid hXX
          have HMM := Lib.hid hMM
          by_cases c0 : i = L
          · have hC : cnt L i = 0 := cnt_zero (by omega)
            have NW := Lib.hid (cnt_new hLi (.inl c0))
            have MN := Lib.hid (mkv_new hLi (.inl c0))
            have HC := Lib.hid hC
            rw [hC] at O1 O2
            clear hXX hMM hmin c0 hC hC5 hLi
            obtain ⟨A1, k1, rfl, l1, m1, s1⟩ := O1.out.form (n := 0) (exs_len _ _)
            clear l1 m1 s1
            go_wp2
            go_loop [12, 13] (fun s q => ∃ t a : Nat, t ≤ M ∧ q = .int .i64 (t : Int) ∧ s = .int .u8 (a : Int) ∧ a < 256 ∧ Hid (a = 2 ^ t)) (fun _ q => M - (intOf q).toNat)
            case atStart => exact ⟨0, 1, by omega, rfl, rfl, by omega, rfl⟩
            case round =>
              obtain ⟨t, a, ht, rfl, rfl, ha, EA⟩ := hrel
              by_cases htl : t < M
              · have ha2 : a * 2 < 256 := by have := pow_u8 (M := t + 1) (by omega); rw [Nat.pow_succ, ← EA.out] at this; exact this
                go_wp2
                go_round
                case rel => exact ⟨t + 1, a * 2, by omega, rfl, by go_num, ha2, by show _ = _; rw [Nat.pow_succ, EA.out]⟩
                case measure => simp [intOf]; omega
              · have hte : t = M := by omega
                have EA2 : Hid (a = 2 ^ M) := by rw [← hte]; exact EA
                go_wp2_with (first
                  | (at_builtin; refine wpList_append_two rfl _ _ 56 rfl it rfl O1.out O2.out (by decide) BJ.out _ rfl rfl (by rw [exs_len]; omega) ?_; intro v3 w1 o1 o2 b1; have P1 := Lib.hid o1; have P2 := Lib.hid o2; have B1 := Lib.hid b1; clear o1 o2 b1)
                  | (at_builtin; refine wpList_append_two rfl _ _ 57 rfl bt8 rfl P2.out P1.out (by decide) B1.out _ rfl rfl (by rw [mkv_len]; omega) ?_; intro v4 w2 o2 o1 b2; obtain ⟨g, cap, rfl, hg, hc⟩ := o2.here (n := 1) (by rw [List.length_append, mkv_len]; rfl) (by omega); obtain ⟨hcell, hfr⟩ := o2.cell (j := 0) (u := .int .u8 0) (by rw [List.length_append, mkv_len]; rfl) (by rw [List.getElem?_append_right (by rw [mkv_len]; exact Nat.le_refl _), mkv_len, Nat.sub_self]; rfl); have Q1 := Lib.hid o1; have Q2 := Lib.hid o2; have B2 := Lib.hid b2; clear o1 o2 b2))
                go_roundw
                case rel =>
                  obtain ⟨o2, g2⟩ := Q2.out.set (j := 0) (by rw [List.length_append, mkv_len]; rfl) (.int .u8 (a : Int))
                  obtain ⟨c1, c2⟩ := NW.out
                  refine ⟨i + 1, by omega, by go_num, ?_, ?_, B2.out.grown g2 B2.out.size fun k e => by injection e with e; omega⟩
                  · show OwnV _ _ _ _ _
                    rw [show min (i + 1) H = i + 1 by omega, c1, HC.out, exs_succ, show L / 8 + (0) = X by have := c2; rw [HC.out] at this; omega]
                    exact far Q2.out Q1.out (by decide) g2
                  · show OwnV _ _ _ _ _
                    rw [show min (i + 1) H = i + 1 by omega, MN.out, HC.out, HMM.out, ← EA2.out]
                    exact o2
                case measure => simp [intOf]; omega
          · by_cases c8 : i % 8 = 0
            · obtain ⟨hC1, hC2⟩ := cnt_last (show L < i by omega)
              obtain ⟨k, hk⟩ : ∃ k, cnt L i = k + 1 := ⟨cnt L i - 1, by omega⟩
              have NW := Lib.hid (cnt_new hLi (.inr c8))
              have MN := Lib.hid (mkv_new hLi (.inr c8))
              have HC := Lib.hid hk
              rw [hk] at O1 O2
              have hne : ¬ ((L / 8 + k : Nat) : Int) = (X : Int) := by omega
              have hk5 : k ≤ 512 := by omega
              clear hXX hMM hmin c0 hC5 hLi c8 hC1 hC2 hk
              obtain ⟨A1, k1, rfl, l1, m1, s1⟩ := O1.out.form (n := k + 1) (exs_len _ _)
              obtain ⟨bk, off, rfl, hcl⟩ := s1.at_ (exs_at (L := L) (c := k + 1) (j := k) (by omega))
              obtain ⟨Y, hY⟩ : ∃ Y : Nat, L / 8 + k = Y := ⟨_, rfl⟩
              rw [hY] at hcl hne
              have HY := Lib.hid hY
              have hne2 : ((Y : Int) != (X : Int)) = true := by simp; omega
              have hne3 : ¬ Y = X := by omega
              have hne4 : ((Y : Int) == (X : Int)) = false := by simp; omega
              clear l1 m1 s1 hY
              go_wp2
              go_loop [12, 13] (fun s q => ∃ t a : Nat, t ≤ M ∧ q = .int .i64 (t : Int) ∧ s = .int .u8 (a : Int) ∧ a < 256 ∧ Hid (a = 2 ^ t)) (fun _ q => M - (intOf q).toNat)
              case atStart => exact ⟨0, 1, by omega, rfl, rfl, by omega, rfl⟩
              case round =>
                obtain ⟨t, a, ht, rfl, rfl, ha, EA⟩ := hrel
                by_cases htl : t < M
                · have ha2 : a * 2 < 256 := by have := pow_u8 (M := t + 1) (by omega); rw [Nat.pow_succ, ← EA.out] at this; exact this
                  go_wp2
                  go_round
                  case rel => exact ⟨t + 1, a * 2, by omega, rfl, by go_num, ha2, by show _ = _; rw [Nat.pow_succ, EA.out]⟩
                  case measure => simp [intOf]; omega
                · have hte : t = M := by omega
                  have EA2 : Hid (a = 2 ^ M) := by rw [← hte]; exact EA
                  go_wp2_with (first
                    | (at_builtin; refine wpList_append_two rfl _ _ 56 rfl it rfl O1.out O2.out (by decide) BJ.out _ rfl rfl (by rw [exs_len]; omega) ?_; intro v3 w1 o1 o2 b1; have P1 := Lib.hid o1; have P2 := Lib.hid o2; have B1 := Lib.hid b1; clear o1 o2 b1)
                    | (at_builtin; refine wpList_append_two rfl _ _ 57 rfl bt8 rfl P2.out P1.out (by decide) B1.out _ rfl rfl (by rw [mkv_len]; omega) ?_; intro v4 w2 o2 o1 b2; obtain ⟨g, cap, rfl, hg, hc⟩ := o2.here (n := k + 1 + 1) (by rw [List.length_append, mkv_len]; rfl) (by omega); obtain ⟨hcell, hfr⟩ := o2.cell (j := k + 1) (u := .int .u8 0) (by rw [List.length_append, mkv_len]; rfl) (by rw [List.getElem?_append_right (by rw [mkv_len]; exact Nat.le_refl _), mkv_len, Nat.sub_self]; rfl); have Q1 := Lib.hid o1; have Q2 := Lib.hid o2; have B2 := Lib.hid b2; clear o1 o2 b2))
                  go_roundw
                  case rel =>
                    obtain ⟨o2, g2⟩ := Q2.out.set (j := k + 1) (by rw [List.length_append, mkv_len]; rfl) (.int .u8 (a : Int))
                    obtain ⟨c1, c2⟩ := NW.out
                    refine ⟨i + 1, by omega, by go_num, ?_, ?_, B2.out.grown g2 B2.out.size fun k e => by injection e with e; omega⟩
                    · show OwnV _ _ _ _ _
                      rw [show min (i + 1) H = i + 1 by omega, c1, HC.out, exs_succ, show L / 8 + (k + 1) = X by have := c2; rw [HC.out] at this; omega]
                      exact far Q2.out Q1.out (by decide) g2
                    · show OwnV _ _ _ _ _
                      rw [show min (i + 1) H = i + 1 by omega, MN.out, HC.out, HMM.out, ← EA2.out]
                      exact o2
                  case measure => simp [intOf]; omega
            · have hLlt : L < i := by omega
              have CO := Lib.hid (cnt_old hLlt c8)
              have MO := Lib.hid (mkv_old hLlt c8)
              obtain ⟨k, hk⟩ : ∃ k, cnt L i = k + 1 := ⟨cnt L i - 1, by have := CO.out; omega⟩
              have hkx : L / 8 + k = X := by have := CO.out; omega
              obtain ⟨m, hm⟩ : ∃ m, mk L i X = m := ⟨_, rfl⟩
              have HMO := Lib.hid (show mk L (i + 1) X = m + 2 ^ M by rw [← hXX, mk_more hLlt c8, hXX, hm, hMM])
              have hcm := mkv_at (L := L) (i := i) (j := k) (by omega)
              have HC := Lib.hid hk
              have HMK := Lib.hid hm
              rw [hk] at O1 O2 hcm
              rw [hkx, hm] at hcm
              have hk5 : k ≤ 512 := by omega
              clear hXX hMM hmin c0 hC5 hLi c8 hk hm hLlt
              obtain ⟨A1, k1, rfl, l1, m1, s1⟩ := O1.out.form (n := k + 1) (exs_len _ _)
              obtain ⟨bk, off, rfl, hcl⟩ := s1.at_ (exs_at (L := L) (c := k + 1) (j := k) (by omega))
              rw [hkx] at hcl
              obtain ⟨g, cap, rfl, hg, hc⟩ := O2.out.here (n := k + 1) (mkv_len _ _ _) (by omega)
              obtain ⟨hcell, hfr⟩ := O2.out.cell (j := k) (u := .int .u8 (m : Int)) (mkv_len _ _ _) hcm
              clear l1 m1 s1 hkx hcm
              go_wp2
              go_loop [12, 13] (fun s q => ∃ t a : Nat, t ≤ M ∧ q = .int .i64 (t : Int) ∧ s = .int .u8 (a : Int) ∧ a < 256 ∧ Hid (a = 2 ^ t)) (fun _ q => M - (intOf q).toNat)
              case atStart => exact ⟨0, 1, by omega, rfl, rfl, by omega, rfl⟩
              case round =>
                obtain ⟨t, a, ht, rfl, rfl, ha, EA⟩ := hrel
                by_cases htl : t < M
                · have ha2 : a * 2 < 256 := by have := pow_u8 (M := t + 1) (by omega); rw [Nat.pow_succ, ← EA.out] at this; exact this
                  go_wp2
                  go_round
                  case rel => exact ⟨t + 1, a * 2, by omega, rfl, by go_num, ha2, by show _ = _; rw [Nat.pow_succ, EA.out]⟩
                  case measure => simp [intOf]; omega
                · have hte : t = M := by omega
                  have EA2 : Hid (a = 2 ^ M) := by rw [← hte]; exact EA
                  have hsum : m + a < 256 := by rw [EA2.out, ← HMO.out]; exact mk_lt _ _ _
                  go_wp2
                  go_roundw
                  case rel =>
                    obtain ⟨o2, g2⟩ := O2.out.set (j := k) (by rw [mkv_len]) (.int .u8 ((m : Int) + (a : Int)))
                    obtain ⟨c1, c2, c3⟩ := CO.out
                    refine ⟨i + 1, by omega, by go_num, ?_, ?_, BJ.out.grown g2 BJ.out.size fun k e => by injection e with e; omega⟩
                    · show OwnV _ _ _ _ _
                      rw [show min (i + 1) H = i + 1 by omega, c1, HC.out]
                      exact far O2.out O1.out (by decide) g2
                    · show OwnV _ _ _ _ _
                      rw [show min (i + 1) H = i + 1 by omega, MO.out, HC.out, HMM.out, HXX.out, HMK.out, ← EA2.out]
                      rw [show ((m + a : Nat) : Int) = (m : Int) + (a : Int) by omega]
                      exact o2
                  case measure => simp [intOf]; omega
    · by_cases d4 : n ≤ (i : Int) - lba
      · have hout : i < L ∨ H ≤ i := by omega
        have SR := Lib.hid (same_rows hout)
        clear hI hout
        go_wp2
        go_roundw
        case rel => exact ⟨i + 1, by omega, by go_num, by show OwnV _ _ _ _ _; rw [SR.out.1]; exact O1.out, by show OwnV _ _ _ _ _; rw [SR.out.1, SR.out.2 _ rfl]; exact O2.out, BJ⟩
        case measure => simp [intOf]; omega
      · have d3 : ¬ n < 1 := by omega
        have hin : L ≤ i ∧ i < H := hI.2 (by omega)
        clear hI
        obtain ⟨hLi, hiH⟩ := hin
        have hmin : min i H = i := by omega
        rw [hmin] at O1 O2
        obtain ⟨X, hXX⟩ : ∃ X, i / 8 = X := ⟨_, rfl⟩
        obtain ⟨M, hMM⟩ : ∃ M, i % 8 = M := ⟨_, rfl⟩
        have hX : (i : Int) / 8 = (X : Int) := by omega
        have hM : (i : Int) % 8 = (M : Int) := by omega
        have hM7 : M ≤ 7 := by omega
        have hC5 : cnt L i ≤ 512 := by have := cnt_le (L := L) (i := i); omega
        have HXX := Lib.hid hXX
        have HMM := Lib.hid hMM
        by_cases c0 : i = L
        · have hC : cnt L i = 0 := cnt_zero (by omega)
          have NW := Lib.hid (cnt_new hLi (.inl c0))
          have MN := Lib.hid (mkv_new hLi (.inl c0))
          have HC := Lib.hid hC
          rw [hC] at O1 O2
          clear hXX hMM hmin c0 hC hC5 hLi
          obtain ⟨A1, k1, rfl, l1, m1, s1⟩ := O1.out.form (n := 0) (exs_len _ _)
          clear l1 m1 s1
          go_wp2
          go_loop [12, 13] (fun s q => ∃ t a : Nat, t ≤ M ∧ q = .int .i64 (t : Int) ∧ s = .int .u8 (a : Int) ∧ a < 256 ∧ Hid (a = 2 ^ t)) (fun _ q => M - (intOf q).toNat)
          case atStart => exact ⟨0, 1, by omega, rfl, rfl, by omega, rfl⟩
          case round =>
            obtain ⟨t, a, ht, rfl, rfl, ha, EA⟩ := hrel
            by_cases htl : t < M
            · have ha2 : a * 2 < 256 := by have := pow_u8 (M := t + 1) (by omega); rw [Nat.pow_succ, ← EA.out] at this; exact this
              go_wp2
              go_round
              case rel => exact ⟨t + 1, a * 2, by omega, rfl, by go_num, ha2, by show _ = _; rw [Nat.pow_succ, EA.out]⟩
              case measure => simp [intOf]; omega
            · have hte : t = M := by omega
              have EA2 : Hid (a = 2 ^ M) := by rw [← hte]; exact EA
              go_wp2_with (first
                | (at_builtin; refine wpList_append_two rfl _ _ 56 rfl it rfl O1.out O2.out (by decide) BJ.out _ rfl rfl (by rw [exs_len]; omega) ?_; intro v3 w1 o1 o2 b1; have P1 := Lib.hid o1; have P2 := Lib.hid o2; have B1 := Lib.hid b1; clear o1 o2 b1)
                | (at_builtin; refine wpList_append_two rfl _ _ 57 rfl bt8 rfl P2.out P1.out (by decide) B1.out _ rfl rfl (by rw [mkv_len]; omega) ?_; intro v4 w2 o2 o1 b2; obtain ⟨g, cap, rfl, hg, hc⟩ := o2.here (n := 1) (by rw [List.length_append, mkv_len]; rfl) (by omega); obtain ⟨hcell, hfr⟩ := o2.cell (j := 0) (u := .int .u8 0) (by rw [List.length_append, mkv_len]; rfl) (by rw [List.getElem?_append_right (by rw [mkv_len]; exact Nat.le_refl _), mkv_len, Nat.sub_self]; rfl); have Q1 := Lib.hid o1; have Q2 := Lib.hid o2; have B2 := Lib.hid b2; clear o1 o2 b2))
              go_roundw
              case rel =>
                obtain ⟨o2, g2⟩ := Q2.out.set (j := 0) (by rw [List.length_append, mkv_len]; rfl) (.int .u8 (a : Int))
                obtain ⟨c1, c2⟩ := NW.out
                refine ⟨i + 1, by omega, by go_num, ?_, ?_, B2.out.grown g2 B2.out.size fun k e => by injection e with e; omega⟩
                · show OwnV _ _ _ _ _
                  rw [show min (i + 1) H = i + 1 by omega, c1, HC.out, exs_succ, show L / 8 + (0) = X by have := c2; rw [HC.out] at this; omega]
                  exact far Q2.out Q1.out (by decide) g2
                · show OwnV _ _ _ _ _
                  rw [show min (i + 1) H = i + 1 by omega, MN.out, HC.out, HMM.out, ← EA2.out]
                  exact o2
              case measure => simp [intOf]; omega
        · by_cases c8 : i % 8 = 0
          · obtain ⟨hC1, hC2⟩ := cnt_last (show L < i by omega)
            obtain ⟨k, hk⟩ : ∃ k, cnt L i = k + 1 := ⟨cnt L i - 1, by omega⟩
            have NW := Lib.hid (cnt_new hLi (.inr c8))
            have MN := Lib.hid (mkv_new hLi (.inr c8))
            have HC := Lib.hid hk
            rw [hk] at O1 O2
            have hne : ¬ ((L / 8 + k : Nat) : Int) = (X : Int) := by omega
            have hk5 : k ≤ 512 := by omega
            clear hXX hMM hmin c0 hC5 hLi c8 hC1 hC2 hk
            obtain ⟨A1, k1, rfl, l1, m1, s1⟩ := O1.out.form (n := k + 1) (exs_len _ _)
            obtain ⟨bk, off, rfl, hcl⟩ := s1.at_ (exs_at (L := L) (c := k + 1) (j := k) (by omega))
            obtain ⟨Y, hY⟩ : ∃ Y : Nat, L / 8 + k = Y := ⟨_, rfl⟩
            rw [hY] at hcl hne
            have HY := Lib.hid hY
            have hne2 : ((Y : Int) != (X : Int)) = true := by simp; omega
            have hne3 : ¬ Y = X := by omega
            have hne4 : ((Y : Int) == (X : Int)) = false := by simp; omega
            clear l1 m1 s1 hY
            go_wp2
            go_loop [12, 13] (fun s q => ∃ t a : Nat, t ≤ M ∧ q = .int .i64 (t : Int) ∧ s = .int .u8 (a : Int) ∧ a < 256 ∧ Hid (a = 2 ^ t)) (fun _ q => M - (intOf q).toNat)
            case atStart => exact ⟨0, 1, by omega, rfl, rfl, by omega, rfl⟩
            case round =>
              obtain ⟨t, a, ht, rfl, rfl, ha, EA⟩ := hrel
              by_cases htl : t < M
              · have ha2 : a * 2 < 256 := by have := pow_u8 (M := t + 1) (by omega); rw [Nat.pow_succ, ← EA.out] at this; exact this
                go_wp2
                go_round
                case rel => exact ⟨t + 1, a * 2, by omega, rfl, by go_num, ha2, by show _ = _; rw [Nat.pow_succ, EA.out]⟩
                case measure => simp [intOf]; omega
              · have hte : t = M := by omega
                have EA2 : Hid (a = 2 ^ M) := by rw [← hte]; exact EA
                go_wp2_with (first
                  | (at_builtin; refine wpList_append_two rfl _ _ 56 rfl it rfl O1.out O2.out (by decide) BJ.out _ rfl rfl (by rw [exs_len]; omega) ?_; intro v3 w1 o1 o2 b1; have P1 := Lib.hid o1; have P2 := Lib.hid o2; have B1 := Lib.hid b1; clear o1 o2 b1)
                  | (at_builtin; refine wpList_append_two rfl _ _ 57 rfl bt8 rfl P2.out P1.out (by decide) B1.out _ rfl rfl (by rw [mkv_len]; omega) ?_; intro v4 w2 o2 o1 b2; obtain ⟨g, cap, rfl, hg, hc⟩ := o2.here (n := k + 1 + 1) (by rw [List.length_append, mkv_len]; rfl) (by omega); obtain ⟨hcell, hfr⟩ := o2.cell (j := k + 1) (u := .int .u8 0) (by rw [List.length_append, mkv_len]; rfl) (by rw [List.getElem?_append_right (by rw [mkv_len]; exact Nat.le_refl _), mkv_len, Nat.sub_self]; rfl); have Q1 := Lib.hid o1; have Q2 := Lib.hid o2; have B2 := Lib.hid b2; clear o1 o2 b2))
                go_roundw
                case rel =>
                  obtain ⟨o2, g2⟩ := Q2.out.set (j := k + 1) (by rw [List.length_append, mkv_len]; rfl) (.int .u8 (a : Int))
                  obtain ⟨c1, c2⟩ := NW.out
                  refine ⟨i + 1, by omega, by go_num, ?_, ?_, B2.out.grown g2 B2.out.size fun k e => by injection e with e; omega⟩
                  · show OwnV _ _ _ _ _
                    rw [show min (i + 1) H = i + 1 by omega, c1, HC.out, exs_succ, show L / 8 + (k + 1) = X by have := c2; rw [HC.out] at this; omega]
                    exact far Q2.out Q1.out (by decide) g2
                  · show OwnV _ _ _ _ _
                    rw [show min (i + 1) H = i + 1 by omega, MN.out, HC.out, HMM.out, ← EA2.out]
                    exact o2
                case measure => simp [intOf]; omega
          · have hLlt : L < i := by omega
            have CO := Lib.hid (cnt_old hLlt c8)
            have MO := Lib.hid (mkv_old hLlt c8)
            obtain ⟨k, hk⟩ : ∃ k, cnt L i = k + 1 := ⟨cnt L i - 1, by have := CO.out; omega⟩
            have hkx : L / 8 + k = X := by have := CO.out; omega
            obtain ⟨m, hm⟩ : ∃ m, mk L i X = m := ⟨_, rfl⟩
            have HMO := Lib.hid (show mk L (i + 1) X = m + 2 ^ M by rw [← hXX, mk_more hLlt c8, hXX, hm, hMM])
            have hcm := mkv_at (L := L) (i := i) (j := k) (by omega)
            have HC := Lib.hid hk
            have HMK := Lib.hid hm
            rw [hk] at O1 O2 hcm
            rw [hkx, hm] at hcm
            have hk5 : k ≤ 512 := by omega
            clear hXX hMM hmin c0 hC5 hLi c8 hk hm hLlt
            obtain ⟨A1, k1, rfl, l1, m1, s1⟩ := O1.out.form (n := k + 1) (exs_len _ _)
            obtain ⟨bk, off, rfl, hcl⟩ := s1.at_ (exs_at (L := L) (c := k + 1) (j := k) (by omega))
            rw [hkx] at hcl
            obtain ⟨g, cap, rfl, hg, hc⟩ := O2.out.here (n := k + 1) (mkv_len _ _ _) (by omega)
            obtain ⟨hcell, hfr⟩ := O2.out.cell (j := k) (u := .int .u8 (m : Int)) (mkv_len _ _ _) hcm
            clear l1 m1 s1 hkx hcm
            go_wp2
            go_loop [12, 13] (fun s q => ∃ t a : Nat, t ≤ M ∧ q = .int .i64 (t : Int) ∧ s = .int .u8 (a : Int) ∧ a < 256 ∧ Hid (a = 2 ^ t)) (fun _ q => M - (intOf q).toNat)
            case atStart => exact ⟨0, 1, by omega, rfl, rfl, by omega, rfl⟩
            case round =>
              obtain ⟨t, a, ht, rfl, rfl, ha, EA⟩ := hrel
              by_cases htl : t < M
              · have ha2 : a * 2 < 256 := by have := pow_u8 (M := t + 1) (by omega); rw [Nat.pow_succ, ← EA.out] at this; exact this
                go_wp2
                go_round
                case rel => exact ⟨t + 1, a * 2, by omega, rfl, by go_num, ha2, by show _ = _; rw [Nat.pow_succ, EA.out]⟩
                case measure => simp [intOf]; omega
              · have hte : t = M := by omega
                have EA2 : Hid (a = 2 ^ M) := by rw [← hte]; exact EA
                have hsum : m + a < 256 := by rw [EA2.out, ← HMO.out]; exact mk_lt _ _ _
                go_wp2
                go_roundw
                case rel =>
                  obtain ⟨o2, g2⟩ := O2.out.set (j := k) (by rw [mkv_len]) (.int .u8 ((m : Int) + (a : Int)))
                  obtain ⟨c1, c2, c3⟩ := CO.out
                  refine ⟨i + 1, by omega, by go_num, ?_, ?_, BJ.out.grown g2 BJ.out.size fun k e => by injection e with e; omega⟩
                  · show OwnV _ _ _ _ _
                    rw [show min (i + 1) H = i + 1 by omega, c1, HC.out]
                    exact far O2.out O1.out (by decide) g2
                  · show OwnV _ _ _ _ _
                    rw [show min (i + 1) H = i + 1 by omega, MO.out, HC.out, HMM.out, HXX.out, HMK.out, ← EA2.out]
                    rw [show ((m + a : Nat) : Int) = (m : Int) + (a : Int) by omega]
                    exact o2
                case measure => simp [intOf]; omega
end Go.Proofs.Ytpaakakkcbahcaa.W
