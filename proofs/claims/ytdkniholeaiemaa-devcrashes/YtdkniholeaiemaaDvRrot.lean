/-
  The document's devices: Rot. No conditions.
-/
import Derived.Test.YtdkniholeaiemaaDvRflush
import Derived.Test.YtdkniholeaiemaaDvRot
import Derived.Lib.ConvBytes
namespace Go.Proofs.Ytdkniholeaiemaa.W
open Go.RowKit Oc Dm Gt Tn
set_option linter.unusedVariables false

theorem bytes_of (w : World) (xs : List UInt8) (B : ByteArray) (hB : tx xs = .string B) (hx : xs.length = 64) : ∃ c w', (convert 9 52 (.string B)).run Try.prog w = .ok (.slice (some ⟨w.heap.size, 0, none⟩) 64 c) w' ∧ Oct w' (some ⟨w.heap.size, 0, none⟩) 64 xs ∧ Below w.heap.size w w' := by
  have e : B = bstr xs := by unfold tx at hB; injection hB with hB; exact hB.symm
  subst e
  have hs : (bstr xs).size = 64 := hx
  have hrun := Lib.run_convert_string_bytes (P := Try.prog) w 9 52 5 (bstr xs) Try.underlying9 bt.sl bt.u8
  rw [hs] at hrun
  refine ⟨_, _, hrun, ⟨hx, fun _ => ⟨_, 0, rfl, fun j x hj => ?_⟩⟩, ⟨?_, ?_, ?_, ?_, fun k hk => Lib.bytesWorld_at_old w _ _ k hk⟩⟩
  · have hjl : j < xs.length := (List.getElem?_eq_some_iff.1 hj).1
    rw [Nat.zero_add, Lib.bytesWorld_cell w _ _ j (by rw [hs]; omega)]
    have : (bstr xs).data.toList = xs := by simp [bstr]
    rw [this]
    simp [List.getD, hj, ov]
  · simp [Lib.bytesWorld, World.freeze, World.alloc, World.drew, -World.alloc_eq, -World.drew_eq]
  · simp [Lib.bytesWorld, World.freeze, World.alloc, World.drew, -World.alloc_eq, -World.drew_eq]
  · simp [Lib.bytesWorld, World.freeze, World.alloc, World.drew, -World.alloc_eq, -World.drew_eq]
  · rw [Lib.bytesWorld_size]; omega
theorem tx_beq {xs ys : List UInt8} {B C : ByteArray} (hB : tx xs = .string B) (hC : tx ys = .string C) (p : Bool) (hp : decide (xs = ys) = p) : (B.toList == C.toList) = p := by
  have e : B = bstr xs := by unfold tx at hB; injection hB with hB; exact hB.symm
  have e2 : C = bstr ys := by unfold tx at hC; injection hC with hC; exact hC.symm
  subst e e2
  rw [ByteArray.toList_eq, ByteArray.toList_eq]
  show (xs == ys) = p
  rw [← hp]
  by_cases h : xs = ys <;> simp [h]
section
variable {w w' : World} {G G' : Nat → Prop} {E q n : Nat} {S : Nat → Sec} {rd wx gs : Nat} {vs : Nat → Value} {s : PS}
theorem put3_plain (h : RvAt w G E q n S rd wx gs vs) {i : Nat} (hi : i < n) (x : Sec) (hx : x.loose = []) {B : ByteArray} (hB : tx x.fixed = .string B) :
    RvAt (((w.setCell ⟨gs, i * 3, none⟩ (.string B)).setCell ⟨gs, i * 3 + 1, none⟩ (.slice none 0 0)).setCell ⟨gs, i * 3 + 2, none⟩ (.bool x.rotten)) G E q n (upd S i x) rd wx gs (upd vs i (.slice none 0 0)) ∧ Chg (fun k => k = gs) w (((w.setCell ⟨gs, i * 3, none⟩ (.string B)).setCell ⟨gs, i * 3 + 1, none⟩ (.slice none 0 0)).setCell ⟨gs, i * 3 + 2, none⟩ (.bool x.rotten)) := by
  obtain ⟨h1, h2, h3⟩ := put3_at h hi x hx hB (w' := (((w.setCell ⟨gs, i * 3, none⟩ (.string B)).setCell ⟨gs, i * 3 + 1, none⟩ (.slice none 0 0)).setCell ⟨gs, i * 3 + 2, none⟩ (.bool x.rotten)).drew) rfl
  exact ⟨h1.frame (fun _ y => y) h1.bound (fun _ _ => rfl), ⟨h3.os, h3.tape, h3.output, h3.size, h3.block⟩⟩
theorem rrot_range (h : RvAt w G E q n S rd wx gs vs) (z bit : Int) (u : Value) (hz : z < 0 ∨ (n : Int) ≤ z ∨ bit < 0 ∨ 512 ≤ bit) :
    Calls Try.prog 34 #[.pointer (some ⟨E, 0, none⟩), .int .i64 z, .int .i64 bit, u] w fun e w' => e = .returned (.int .i64 3) ∧ w = w' := by
  have H := Lib.hid h
  clear h
  by_cases h1 : z < 0 ∨ (n : Int) ≤ z
  · have hd : decide (0 ≤ z ∧ z < (n : Int)) = false := by simp; omega
    have HD := Lib.hid hd
    clear hz h1 hd
    go_enter Try.func34, Try.ntmps34
    go_wp2_with fail
    refine (rhas_any H.out z).mono ?_; rintro e w' ⟨rfl, rfl⟩
    rw [HD.out]
    go_wp2
    go_ret
    exact ⟨rfl, rfl⟩
  · have hd : decide (0 ≤ z ∧ z < (n : Int)) = true := by simp; omega
    have HD := Lib.hid hd
    by_cases h2 : bit < 0
    · clear hz h1 hd
      go_enter Try.func34, Try.ntmps34
      go_wp2_with fail
      refine (rhas_any H.out z).mono ?_; rintro e w' ⟨rfl, rfl⟩
      rw [HD.out]
      go_wp2
      go_ret
      exact ⟨rfl, rfl⟩
    · have h3 : 512 ≤ bit := by omega
      clear hz h1 hd
      go_enter Try.func34, Try.ntmps34
      go_wp2_with fail
      refine (rhas_any H.out z).mono ?_; rintro e w' ⟨rfl, rfl⟩
      rw [HD.out]
      go_wp2
      go_ret
      exact ⟨rfl, rfl⟩
theorem rrot_state (h : RvAt w G E q n S rd wx gs vs) (i : Nat) (hi : i < n) (bit : Int) (u : Value) (hb : 0 ≤ bit ∧ bit < 512) (hs : (S i).rotten = true ∨ (S i).loose ≠ []) :
    Calls Try.prog 34 #[.pointer (some ⟨E, 0, none⟩), .int .i64 (i : Int), .int .i64 bit, u] w fun e w' => e = .returned (.int .i64 6) ∧ w = w' := by
  have H := Lib.hid h
  obtain ⟨hb1, hb2⟩ := hb
  obtain ⟨c0, c1, c2, c3, fr⟩ := h.cells
  obtain ⟨s0, s1, s2, sf⟩ := h.sec hi
  obtain ⟨A, c, hv, hlc, hcm, hsl, hG⟩ := h.loose i hi
  rw [hv] at s1
  have hn := h.hn
  have hi2 : (i : Int) < (n : Int) := by omega
  have HD : Hid (decide (0 ≤ (i : Int) ∧ (i : Int) < (n : Int)) = true) := by show _ = _; simp; omega
  clear h hv hG hsl s0
  cases hrot : (S i).rotten
  · have hl : (S i).loose ≠ [] := hs.resolve_left (by rw [hrot]; decide)
    have hpos := List.length_pos_iff.2 hl
    have hpos2 : (0 : Int) < ((S i).loose.length : Int) := by omega
    rw [hrot] at s2
    generalize (S i).loose.length = k at s1 hpos hpos2 hlc
    clear hs hl hrot
    go_enter Try.func34, Try.ntmps34
    go_wp2_with fail
    refine (rhas_any H.out (i : Int)).mono ?_; rintro e w' ⟨rfl, rfl⟩
    rw [HD.out]
    go_wp2
    go_ret
    exact ⟨rfl, rfl⟩
  · rw [hrot] at s2
    clear hs hrot s1 hlc
    go_enter Try.func34, Try.ntmps34
    go_wp2_with fail
    refine (rhas_any H.out (i : Int)).mono ?_; rintro e w' ⟨rfl, rfl⟩
    rw [HD.out]
    go_wp2
    go_ret
    exact ⟨rfl, rfl⟩
set_option maxRecDepth 100000 in
set_option maxHeartbeats 4000000 in
theorem rrot_clean (h : RvAt w G E q n S rd wx gs vs) (i : Nat) (hi : i < n) (bit : Int) (T : Nat) (hb : 0 ≤ bit ∧ bit < 512) (hT : T < 4294967296) (hr : (S i).rotten = false) (hl : (S i).loose = []) (hfl : (S i).fixed.length = 64) :
    Calls Try.prog 34 #[.pointer (some ⟨E, 0, none⟩), .int .i64 (i : Int), .int .i64 bit, .int .u32 (T : Int)] w fun e w' =>
      (rotTo S i bit T = (S i).fixed ∧ e = .returned (.int .i64 1) ∧ Below w.heap.size w w') ∨
      (rotTo S i bit T ≠ (S i).fixed ∧ e = .returned (.int .i64 0) ∧ (∃ vs', RvAt w' G E q n (upd S i ⟨rotTo S i bit T, [], true⟩) rd wx gs vs') ∧ Chg (fun k => k = gs) w w') := by
  have H := Lib.hid h
  obtain ⟨hb1, hb2⟩ := hb
  obtain ⟨c0, c1, c2, c3, fr⟩ := h.cells
  obtain ⟨s0, s1, s2, sf⟩ := h.sec hi
  obtain ⟨A, c, hv, hlc, hcm, hsl, hG⟩ := h.loose i hi
  rw [hv, hl, List.length_nil] at s1
  rw [hr] at s2
  have hn := h.hn
  have hi2 : (i : Int) < (n : Int) := by omega
  have HD : Hid (decide (0 ≤ (i : Int) ∧ (i : Int) < (n : Int)) = true) := by show _ = _; simp; omega
  have HT := Lib.hid hT
  have HFL := Lib.hid hfl
  clear h hv hG hsl hlc hr hl hT
  obtain ⟨B0, hB0⟩ : ∃ B, tx (S i).fixed = .string B := ⟨_, rfl⟩
  rw [hB0] at s0
  have EB0 := Lib.hid hB0
  obtain ⟨c9, w9, hcv, o9, b9⟩ := bytes_of w (S i).fixed B0 hB0 hfl
  have O9 := Lib.hid o9
  have B9 := Lib.hid b9
  clear hB0 hfl o9 b9
  go_enter Try.func34, Try.ntmps34
  go_wp2_with fail
  refine (rhas_any H.out (i : Int)).mono ?_; rintro e w' ⟨rfl, rfl⟩
  rw [HD.out]
  go_wp2_with fail
  refine (rturn_any _ 64 _ (S i).fixed bit T _ (by decide) O9.out HT.out).mono ?_; rintro e w2 ⟨v2, rfl, o2, b2⟩
  have hxl : (turned (S i).fixed bit T 32).length = 64 := by rw [turned_length]; exact HFL.out
  obtain ⟨A2, cc2, rfl, l2, s2'⟩ := o2.form hxl
  have HX : Hid (turned (S i).fixed bit T 32 = rotTo S i bit T) := rfl
  rw [HX.out] at s2'
  generalize rotTo S i bit T = x at HX s2'
  obtain ⟨B1, hB1⟩ : ∃ B, tx x = .string B := ⟨_, rfl⟩
  have EB1 := Lib.hid hB1
  have cv2 := s2'.conv bt Try.underlying9 cc2
  rw [show Value.string (bstr x) = .string B1 from hB1] at cv2
  have B2 : Hid (Below w.heap.size w w2) := bthen B9.out b2
  have H2 := Lib.hid (H.out.below B2.out)
  clear o2 b2 s2' hxl l2 c0 c1 c2 c3 fr s0 s1 s2 sf hcv hB1
  obtain ⟨c0, c1, c2, c3, fr⟩ := H2.out.cells
  obtain ⟨s0, s1, s2, sf⟩ := H2.out.sec hi
  rw [EB0.out] at s0
  by_cases hx : x = (S i).fixed
  · have hq := tx_beq EB1.out EB0.out true (by simp [hx])
    have EX := Lib.hid hx
    clear hx
    go_wp2
    go_ret
    exact .inl ⟨(show rotTo S i bit T = x from HX.out).trans EX.out, rfl, B2.out⟩
  · have hq := tx_beq EB1.out EB0.out false (by simp [hx])
    have EX := Lib.hid hx
    clear hx
    go_wp2
    go_ret
    rw [show rotTo S i bit T = x from HX.out]
    refine .inr ⟨EX.out, rfl, ?_, ?_⟩
    · exact ⟨_, (put3_plain H2.out hi ⟨x, [], true⟩ rfl EB1.out).1⟩
    · exact (Chg.of_below B2.out).trans (put3_plain H2.out hi ⟨x, [], true⟩ rfl EB1.out).2 (fun _ _ x => x)
end
end Go.Proofs.Ytdkniholeaiemaa.W
