/-
  The contract of the reference's Read: the number of a text, and whether the text is that of a number.
-/
import Derived.Test.YtmfljibmnplkiaaDoorCountTextNum
import Derived.Test.YtmfljibmnplkiaaDoorCountNumText
import Derived.Test.YtmfljibmnplkiaaDoorCountRmul
import Derived.Lib.IndexBytes
namespace Go.Proofs.YtmfljibmnplkiaaDoor.W
open Go.RowKit Num

theorem bs_of (s : ByteArray) : s = bs s.data.toList := by
  apply ByteArray.ext; simp [bs]
theorem ret_read {R : Int × Bool} {a : Int} {b : Bool} (h : R = (a, b)) : Ending.returned (.tuple #[.int .i64 a, .bool b]) = .returned (.tuple #[.int .i64 R.1, .bool R.2]) := by rw [h]
theorem at_list {t : ByteArray} {l : List UInt8} (h : t.data.toList = l) (k : Nat) (hk : k < t.size) : l.getD k 0 = t[k] := by
  subst h
  have hk' : k < t.data.toList.length := by simpa using hk
  rw [List.getD_eq_getElem?_getD, List.getElem?_eq_getElem hk', Option.getD_some]
  rfl
/-- what is known of a text behind its sign -/
structure Rest (L : List UInt8) (neg : Bool) (l : List UInt8) : Prop where
  sign : hd45 L = neg
  rest : behind L = l
  some : l.length ≠ 0
  few : l.length ≤ 19
theorem not_dig {L l : List UInt8} {neg : Bool} (h : Rest L neg l) (k : Nat) (hk : k < l.length) (hn : ¬ isDig (l.getD k 0)) : readL L = (0, false) := by
  have := h.some
  have := h.few
  unfold readL
  rw [h.rest, if_neg (by omega), if_neg]
  intro hall
  apply hn
  rw [List.getD_eq_getElem?_getD, List.getElem?_eq_getElem hk, Option.getD_some]
  exact hall _ (List.getElem_mem hk)
theorem dig_more {l : List UInt8} {k : Nat} (h : ∀ c ∈ l.take k, isDig c) (hk : k < l.length) (hd : isDig (l.getD k 0)) : ∀ c ∈ l.take (k + 1), isDig c := by
  rw [List.take_succ_eq_append_getElem hk]
  rw [List.getD_eq_getElem?_getD, List.getElem?_eq_getElem hk, Option.getD_some] at hd
  intro c hc
  rcases List.mem_append.1 hc with hc | hc
  · exact h c hc
  · have hc := List.mem_singleton.1 hc
    subst hc; exact hd
theorem read_end {L l : List UInt8} {neg : Bool} (h : Rest L neg l) (hall : ∀ c ∈ l.take l.length, isDig c) : readL L = (rd neg l l.length, (bs (Lib.itoa (rd neg l l.length))).toList == (bs L).toList) := by
  have := h.some
  have := h.few
  rw [List.take_length] at hall
  unfold readL
  rw [h.rest, h.sign, if_neg (by omega), if_pos hall]
  congr 1
  rw [ByteArray.toList_eq, ByteArray.toList_eq, Bool.eq_iff_iff]
  simp [bs]
theorem rd_succ (neg : Bool) (l : List UInt8) (k : Nat) (c : UInt8) (h : l.getD k 0 = c) : rd neg l (k + 1) = sat (sat (rd neg l k * 10) + (if neg then -((c.toNat : Int) - 48) else (c.toNat : Int) - 48)) := by
  subst h; rfl

theorem rest_minus (s : ByteArray) (hp : 0 < s.size) (h45 : s[0].toNat = 45) : hd45 s.data.toList = true ∧ behind s.data.toList = (s.extract 1 s.size).data.toList ∧ (s.extract 1 s.size).size = s.size - 1 := by
  have hl : s.data.toList.length = s.size := by simp
  have h0 := at_list (t := s) rfl 0 hp
  cases hd : s.data.toList with
  | nil => rw [hd] at hl; simp at hl; omega
  | cons x r =>
    rw [hd] at h0
    simp at h0
    have hx : x = 45 := by rw [h0]; exact UInt8.toNat_inj.1 h45
    subst hx
    refine ⟨by simp [hd45], ?_, by simp⟩
    rw [Lib.extract_to_end, hd]
    simp [behind, hd45]
theorem rest_plain (s : ByteArray) (hp : 0 < s.size) (h45 : s[0].toNat ≠ 45) : hd45 s.data.toList = false ∧ behind s.data.toList = s.data.toList := by
  have hl : s.data.toList.length = s.size := by simp
  have h0 := at_list (t := s) rfl 0 hp
  have key : hd45 s.data.toList = false := by
    cases hd : s.data.toList with
    | nil => rw [hd] at hl; simp at hl; omega
    | cons x r =>
      rw [hd] at h0
      simp at h0
      simp only [hd45, List.head?_cons]
      rw [beq_eq_false_iff_ne]
      intro e
      injection e with e
      apply h45
      rw [← h0, e]; rfl
  exact ⟨key, by unfold behind; rw [key]; rfl⟩

set_option maxHeartbeats 4000000 in
theorem read_minus (s : ByteArray) (hl : s.size ≤ 60) (hp : 0 < s.size) (h45 : s[0].toNat = 45) (hmin : 1 ≤ s.size - 1) (hmax : s.size - 1 ≤ 19) (w : World) :
    Calls Tryd.prog 6 #[.string s] w fun e w' => e = .returned (.tuple #[.int .i64 (readL s.data.toList).1, .bool (readL s.data.toList).2]) ∧ w = w' := by
  have hb : ((s[0].toNat : Int) == 45) = true := by rw [h45]; rfl
  have hz : (((s.size - 1 : Nat) : Int) == 0) = false := by rw [beq_eq_false_iff_ne]; omega
  have h19 : decide ((19 : Int) < ((s.size - 1 : Nat) : Int)) = false := by simp; omega
  obtain ⟨r1, r2, r3⟩ := rest_minus s hp h45
  obtain ⟨l, hT⟩ : ∃ l, (s.extract 1 s.size).data.toList = l := ⟨_, rfl⟩
  have hL : (s.extract 1 s.size).size = l.length := by rw [← hT]; simp
  have HR2 := Lib.hid (show Rest s.data.toList true l from ⟨r1, r2.trans hT, by omega, by omega⟩)
  have HT := Lib.hid hT
  have HL := Lib.hid hL
  have ht19 : (s.extract 1 s.size).size ≤ 19 := by omega
  clear h45 r1 r2 r3 hT hL
  go_enter Tryd.func6, Tryd.ntmps6
  go_wp2
  generalize s.extract 1 s.size = t at *
  go_loop [6, 7] (fun n i => ∃ k : Nat, k ≤ t.size ∧ i = .int .i64 k ∧ n = .int .i64 (rd true l k) ∧ ∀ c ∈ l.take k, isDig c) (fun _ i => t.size - (intOf i).toNat)
  case atStart => exact ⟨0, Nat.zero_le _, rfl, rfl, by simp⟩
  case round =>
    obtain ⟨k, hk, rfl, rfl, hd⟩ := hrel
    have HD := Lib.hid hd
    clear hd
    by_cases hlt : k < t.size
    · have hc0 : (0 : Int) ≤ (t[k].toNat : Int) := by omega
      have hc1 : (t[k].toNat : Int) ≤ 255 := by have := t[k].toNat_lt; omega
      have hg := at_list HT.out k hlt
      by_cases c1 : (t[k].toNat : Int) < 48
      · have N := Lib.hid (not_dig HR2.out k (by rw [← HL.out]; exact hlt) (by rw [hg]; unfold isDig; omega))
        clear hg
        go_wp2
        go_ret2
        exact ⟨ret_read N.out, rfl⟩
      · by_cases c2 : (57 : Int) < (t[k].toNat : Int)
        · have N := Lib.hid (not_dig HR2.out k (by rw [← HL.out]; exact hlt) (by rw [hg]; unfold isDig; omega))
          clear hg
          go_wp2
          go_ret2
          exact ⟨ret_read N.out, rfl⟩
        · have HD2 := Lib.hid (dig_more HD.out (by rw [← HL.out]; exact hlt) (by rw [hg]; unfold isDig; omega))
          have HS := Lib.hid (rd_succ true l k _ hg)
          clear hg HD
          have b := rd_bd true l k
          have b2 := sat_bd (rd true l k * 10)
          go_wp2_with fail
          refine (rmul_any _ _ _ b.1 b.2 (by omega) (by omega)).mono ?_; rintro e w' ⟨rfl, rfl⟩
          go_wp2_with fail
          refine (radd_any _ _ _ b2.1 b2.2 (by omega) (by omega)).mono ?_; rintro e w' ⟨rfl, rfl⟩
          go_wp2
          go_round
          case rel => exact ⟨k + 1, by omega, by go_num, by rw [HS.out]; rfl, HD2.out⟩
          case measure => simp [intOf]; omega
    · have e : k = t.size := by omega
      subst e
      have b := rd_bd true l t.size
      have N := Lib.hid (show readL s.data.toList = (rd true l t.size, (bs (Lib.itoa (rd true l t.size))).toList == s.toList) by
        have h := read_end HR2.out (by rw [← HL.out]; exact HD.out)
        rw [← bs_of s, ← HL.out] at h; exact h)
      clear HD
      go_wp2_with fail
      refine (num_any _ b.1 b.2 _).mono ?_; rintro e w' ⟨rfl, rfl⟩
      go_wp2
      go_ret2
      exact ⟨ret_read N.out, rfl⟩

set_option maxHeartbeats 4000000 in
theorem read_plain (s : ByteArray) (hl : s.size ≤ 60) (hp : 0 < s.size) (h45 : s[0].toNat ≠ 45) (hmax : s.size ≤ 19) (w : World) :
    Calls Tryd.prog 6 #[.string s] w fun e w' => e = .returned (.tuple #[.int .i64 (readL s.data.toList).1, .bool (readL s.data.toList).2]) ∧ w = w' := by
  have hb : ((s[0].toNat : Int) == 45) = false := by rw [beq_eq_false_iff_ne]; omega
  have hz : ((s.size : Int) == 0) = false := by rw [beq_eq_false_iff_ne]; omega
  have h19 : decide ((19 : Int) < (s.size : Int)) = false := by simp; omega
  obtain ⟨r1, r2⟩ := rest_plain s hp h45
  obtain ⟨l, hT⟩ : ∃ l, s.data.toList = l := ⟨_, rfl⟩
  have hL : s.size = l.length := by rw [← hT]; simp
  have HR2 := Lib.hid (show Rest s.data.toList false l from ⟨r1, r2.trans hT, by omega, by omega⟩)
  have HT := Lib.hid hT
  have HL := Lib.hid hL
  clear h45 r1 r2 hT hL
  go_enter Tryd.func6, Tryd.ntmps6
  go_wp2
  go_loop [6, 7] (fun n i => ∃ k : Nat, k ≤ s.size ∧ i = .int .i64 k ∧ n = .int .i64 (rd false l k) ∧ ∀ c ∈ l.take k, isDig c) (fun _ i => s.size - (intOf i).toNat)
  case atStart => exact ⟨0, Nat.zero_le _, rfl, rfl, by simp⟩
  case round =>
    obtain ⟨k, hk, rfl, rfl, hd⟩ := hrel
    have HD := Lib.hid hd
    clear hd
    by_cases hlt : k < s.size
    · have hc0 : (0 : Int) ≤ (s[k].toNat : Int) := by omega
      have hc1 : (s[k].toNat : Int) ≤ 255 := by have := s[k].toNat_lt; omega
      have hg := at_list HT.out k hlt
      by_cases c1 : (s[k].toNat : Int) < 48
      · have N := Lib.hid (not_dig HR2.out k (by rw [← HL.out]; exact hlt) (by rw [hg]; unfold isDig; omega))
        clear hg
        go_wp2
        go_ret2
        exact ⟨ret_read N.out, rfl⟩
      · by_cases c2 : (57 : Int) < (s[k].toNat : Int)
        · have N := Lib.hid (not_dig HR2.out k (by rw [← HL.out]; exact hlt) (by rw [hg]; unfold isDig; omega))
          clear hg
          go_wp2
          go_ret2
          exact ⟨ret_read N.out, rfl⟩
        · have HD2 := Lib.hid (dig_more HD.out (by rw [← HL.out]; exact hlt) (by rw [hg]; unfold isDig; omega))
          have HS := Lib.hid (rd_succ false l k _ hg)
          clear hg HD
          have b := rd_bd false l k
          have b2 := sat_bd (rd false l k * 10)
          go_wp2_with fail
          refine (rmul_any _ _ _ b.1 b.2 (by omega) (by omega)).mono ?_; rintro e w' ⟨rfl, rfl⟩
          go_wp2_with fail
          refine (radd_any _ _ _ b2.1 b2.2 (by omega) (by omega)).mono ?_; rintro e w' ⟨rfl, rfl⟩
          go_wp2
          go_round
          case rel => exact ⟨k + 1, by omega, by go_num, by rw [HS.out]; rfl, HD2.out⟩
          case measure => simp [intOf]; omega
    · have e : k = s.size := by omega
      subst e
      have b := rd_bd false l s.size
      have N := Lib.hid (show readL s.data.toList = (rd false l s.size, (bs (Lib.itoa (rd false l s.size))).toList == s.toList) by
        have h := read_end HR2.out (by rw [← HL.out]; exact HD.out)
        rw [← bs_of s, ← HL.out] at h; exact h)
      clear HD
      go_wp2_with fail
      refine (num_any _ b.1 b.2 _).mono ?_; rintro e w' ⟨rfl, rfl⟩
      go_wp2
      go_ret2
      exact ⟨ret_read N.out, rfl⟩
end Go.Proofs.YtmfljibmnplkiaaDoor.W
