/-
  The walk of DevFuses. No conditions.
-/
import Derived.Test.YtpbgddclkldpfaaDvTwo
namespace Go.Proofs.Ytpbgddclkldpfaa.W
open Go.RowKit Oc Dm
set_option linter.unusedVariables false
theorem went_yes {w0 w' : World} {T p N f c : Nat} {D : Nat → Nat} {e : Ending} (h : Went w0 T p D N f c e w') (hc : c < f) : e = .returned (.int .i64 0) ∧ ∃ s' F', FS f (c + 1) s' ∧ s'.off = false ∧ Tw w0 w' T p D N s' F' := by
  obtain ⟨e1, s', F', h1, h2, h3⟩ := h
  rw [if_pos hc] at e1
  rw [fstep, if_pos hc] at h1
  exact ⟨e1, s', F', h1, by rw [h2]; simp [hc], h3⟩
theorem went_no {w0 w' : World} {T p N f c : Nat} {D : Nat → Nat} {e : Ending} (h : Went w0 T p D N f c e w') (hc : ¬ c < f) : e = .returned (.int .i64 80) ∧ ∃ s' F', FS f c s' ∧ s'.off = true ∧ Tw w0 w' T p D N s' F' := by
  obtain ⟨e1, s', F', h1, h2, h3⟩ := h
  rw [if_neg hc] at e1
  rw [fstep, if_neg hc] at h1
  exact ⟨e1, s', F', h1, by rw [h2]; simp [hc], h3⟩
theorem begin4 (w : World) : Calls Try.prog 7 #[.int .i64 4, .int .i64 4] w fun e w' => ∃ T p D F, e = .returned (.tuple #[.pointer (some ⟨T, 0, none⟩), .bool true]) ∧ Tw w w' T p D 0 ⟨false, none, 0⟩ F := by
  refine (begin_any w 4 4 (by decide) (by decide)).mono ?_
  rintro e w' ⟨T, p, q, D0, D1, E0, E1, x1, x2, x3, x4, e1, b⟩
  exact ⟨T, p, _, _, e1, tw_begun b⟩
theorem fuse_f {w0 w : World} {T p : Nat} {D : Nat → Nat} {F : Nat → Nat → Prop} (h : Tw w0 w T p D 0 ⟨false, none, 0⟩ F) (f : Nat) (hf : f < 20) : Calls Try.prog 19 #[.pointer (some ⟨p, 0, none⟩), .int .i64 (f : Int)] w fun e w' => e = .returned (.int .i64 0) ∧ ∃ s', FS f 0 s' ∧ Tw w0 w' T p D 0 s' F := by
  refine (fuse_any h.pw (f : Int)).mono ?_
  rintro e w' ⟨rfl, p1, g1, _⟩
  have hn : ¬ ((f : Int) < -1 ∨ 1048576 < (f : Int)) := by omega
  have he : PS.fuseE ⟨false, none, 0⟩ (f : Int) = 0 := by simp [PS.fuseE, hn]
  refine ⟨by rw [he], _, ?_, h.power p1 g1⟩
  rw [PS.fuseS]
  simp only [Bool.false_eq_true, if_false, if_neg hn]
  rw [if_neg (by omega)]
  exact ⟨by simp, rfl, by omega, fun h => by cases h⟩

theorem u8_of {z : Int} (h : (Lit.int .u8 z).wf = true) : ∃ y : UInt8, z = (y.toNat : Int) := by
  simp [Lit.wf, IntKind.min, IntKind.max, IntKind.signed, IntKind.bits] at h
  refine ⟨UInt8.ofNat z.toNat, ?_⟩
  rw [UInt8.toNat_ofNat_of_lt' (by show z.toNat < 256; omega)]; omega
theorem fill0 (w : World) (y : UInt8) : Calls Try.prog 22 #[.int .u8 (y.toNat : Int), .int .i64 0] w (Filled w y 64) := fill_any w y 0
theorem sc_tw {w0 w' : World} {T p N b o k : Nat} {D : Nat → Nat} {s : PS} {F : Nat → Nat → Prop} {a : ActV} (h : Tw w0 w' T p D N s F) (ha : ActAt w0 b o a) (hk : k < 2) : w'.cell? ⟨T, 0, none⟩ = some (.pointer (some ⟨p, 0, none⟩)) ∧ w'.cell? ⟨T, 1 + k, none⟩ = some (.pointer (some ⟨D k, 0, none⟩)) ∧ w'.cell? ⟨b, o + 1, none⟩ = some (.int .i64 a.of_) ∧ w'.cell? ⟨b, o + 2, none⟩ = some (.int .i64 a.at_) ∧ w'.cell? ⟨b, o + 8, none⟩ = some (.int .u8 a.fill) :=
  ⟨h.cell.1, h.cell.2 k hk, (ha.below h.below).cells 1 _ rfl, (ha.below h.below).cells 2 _ rfl, (ha.below h.below).cells 8 _ rfl⟩
theorem went_as {w0 w' : World} {T p N f c c' : Nat} {D : Nat → Nat} {e : Ending} {v : Int} {o : Bool} (h : Went w0 T p D N f c e w') (hv : (if c < f then 0 else 80) = v) (hc : fstep f c = c') (ho : (!decide (c < f)) = o) : e = .returned (.int .i64 v) ∧ ∃ s' F', FS f c' s' ∧ s'.off = o ∧ Tw w0 w' T p D N s' F' := by
  obtain ⟨e1, s', F', h1, h2, h3⟩ := h
  rw [hv] at e1
  rw [hc] at h1
  exact ⟨e1, s', F', h1, by rw [h2, ho], h3⟩
/-- what holds at the head of a round -/
def Rd (w0 : World) (T p : Nat) (D : Nat → Nat) (N f c : Nat) (w' : World) : Prop := ∃ s F, FS f c s ∧ Tw w0 w' T p D N s F
set_option maxRecDepth 100000 in
set_option maxHeartbeats 8000000 in
theorem fuses_walk (x : Nat) (hx : x ≤ 255) (A : Option Addr) (n2 c2 : Nat) (L : Nat → ActV) (w : World) (ha : Acts w A n2 L) :
    Calls Try.prog 5 #[.int .u8 (x : Int), .slice A n2 c2] w fun e w' => e = .returned (.bool true) ∧ Below w.heap.size w w' := by
  have HA := Lib.hid ha
  obtain ⟨f, hf⟩ : ∃ f : Nat, (x : Int) % 20 = (f : Int) := ⟨x % 20, by omega⟩
  have hf2 : f < 20 := by omega
  clear ha
  go_enter Try.func5, Try.ntmps5
  go_wp2_with fail
  refine (begin4 w).mono ?_; rintro e w1 ⟨T, p, D, F, rfl, t1⟩
  have T1 := Lib.hid t1
  have c0 := t1.cell.1
  clear t1
  go_wp2_with fail
  refine (fuse_f T1.out f hf2).mono ?_; rintro e w2 ⟨rfl, s2, f2, t2⟩
  have R2 : Hid (Rd w T p D 0 f 0 w2) := ⟨s2, F, f2, t2⟩
  clear f2 t2 c0 T1
  go_wp2_with fail
  go_loopw [7, 8] (fun q7 q8 wr => ∃ i c : Nat, i ≤ n2 ∧ i ≤ 40 ∧ c ≤ f ∧ q8 = .int .i64 (i : Int) ∧ q7 = .int .i64 (c : Int) ∧ Hid (Rd w T p D i f c wr)) (fun _ q8 _ => 40 - (intOf q8).toNat)
  case atStart => exact ⟨0, 0, by omega, by omega, by omega, rfl, rfl, R2⟩
  case round =>
    obtain ⟨i, c, hi, hi2, hcf, rfl, rfl, RI⟩ := hrel
    clear R2
    have hlen : i < n2 ∧ i < 40 ∨ n2 ≤ i ∨ (i < n2 ∧ 40 ≤ i) := by omega
    rcases hlen with ⟨hl1, hl2⟩ | hend
    · obtain ⟨s, F, fs, t⟩ := RI.out
      obtain ⟨b, off, rfl, act⟩ := HA.out i hl1
      have ACT := Lib.hid act
      have FS0 := Lib.hid fs
      have TW := Lib.hid t
      have WF := Lib.hid act.wf
      clear act fs t RI HA
      generalize L i = la at ACT WF
      obtain ⟨y, hy⟩ := u8_of WF.out.2.2.2.2.2.2.2.2.1
      obtain ⟨k, hk, hk2⟩ := and_one la.of_
      obtain ⟨m, hm, hm2⟩ := and_three la.at_
      have CS : Hid (∀ (w' : World) (N : Nat) (s : PS) (F : Nat → Nat → Prop), Tw w w' T p D N s F → w'.cell? ⟨T, 0, none⟩ = some (.pointer (some ⟨p, 0, none⟩)) ∧ w'.cell? ⟨T, 1 + k, none⟩ = some (.pointer (some ⟨D k, 0, none⟩)) ∧ w'.cell? ⟨b, off + i * 11 + 1, none⟩ = some (.int .i64 la.of_) ∧ w'.cell? ⟨b, off + i * 11 + 2, none⟩ = some (.int .i64 la.at_) ∧ w'.cell? ⟨b, off + i * 11 + 8, none⟩ = some (.int .u8 (y.toNat : Int))) := fun w' N s F h => by rw [← hy]; exact sc_tw h ACT.out hk2
      clear hy WF ACT
      generalize la.of_ = z1 at hk CS
      generalize la.at_ = z2 at hm CS
      obtain ⟨c0, ck, a1, a2, a8⟩ := CS.out _ _ _ _ TW.out
      have HN : i + 1 ≤ 1000000000 := by omega
      have hk3 : (k : Int) < 2 := by omega
      have hi40 : (i : Int) < 40 := by omega
      have hcases : (c + 1 < f) ∨ (c < f ∧ ¬ c + 1 < f) ∨ (¬ c < f ∧ c = f) := by omega
      rcases hcases with hA | ⟨hA, hB⟩ | ⟨hA, hB⟩
      · have h1 : (c : Int) < (f : Int) := by omega
        have h2 : (c : Int) + 1 < (f : Int) := by omega
        go_wp2_with fail
        refine (tw_flush TW.out FS0.out hf2 hk2).mono ?_; intro e w3 went
        obtain ⟨rfl, s3, F3, f3, o3, t3⟩ := went_as (v := 0) (c' := c + 1) (o := false) went (by simp; omega) (by simp [fstep]; omega) (by simp; omega)
        have T3 := Lib.hid t3
        have FS3 := Lib.hid f3
        clear went f3 c0 ck a1 a2 a8 FS0 TW
        obtain ⟨c0, ck, a1, a2, a8⟩ := CS.out _ _ _ _ T3.out
        go_wp2_with fail
        refine (down_any T3.out.pw).mono ?_; rintro e w' ⟨rfl, rfl⟩
        rw [o3]
        go_wp2_with fail
        go_region_held (fun w' => w'.cell? ⟨T, 0, none⟩ = some (.pointer (some ⟨p, 0, none⟩)) ∧ w'.cell? ⟨T, 1 + k, none⟩ = some (.pointer (some ⟨D k, 0, none⟩)) ∧ w'.cell? ⟨b, off + i * 11 + 1, none⟩ = some (.int .i64 z1) ∧ w'.cell? ⟨b, off + i * 11 + 2, none⟩ = some (.int .i64 z2) ∧ w'.cell? ⟨b, off + i * 11 + 8, none⟩ = some (.int .u8 (y.toNat : Int))) (first | go_keep | exact CS.out _ _ _ _ T6.out | exact CS.out _ _ _ _ (T3.out.keep BB5))
          (first
            | (go_at_call 22; (with_reducible refine (fill0 _ y).mono ?_); rintro e w5 ⟨b5, rfl, hb5, o5, bb5⟩; have BB5 : Hid (Below w3.heap.size w3 w5) := below_of_drew bb5; have HB5 : Hid (w3.heap.size ≤ b5) := hb5; have O5 : Hid (Rw.OwnV w5 5 w3.heap.size (.slice (some ⟨b5, 0, none⟩) 64 64) (List.replicate 64 (ov y))) := o5; clear hb5 o5 bb5)
            | (go_at_call 21; (with_reducible refine (tw_fill (b := b5) (i := m) T3.out HN FS3.out hf2 hk2 hm2 BB5.out HB5.out O5.out).mono ?_); intro e w6 went; obtain ⟨rfl, s6, F6, f6, o6, t6⟩ := went_as (v := 0) (c' := c + 1 + 1) (o := false) went (by simp; omega) (by simp [fstep]; omega) (by simp; omega); have T6 := Lib.hid t6; have FS6 := Lib.hid f6; clear went f6 t6))
        all_goals
          obtain ⟨d0, dk, d1, d2, d8⟩ := CS.out _ _ _ _ T6.out
          go_wp2_with fail
          refine (down_any T6.out.pw).mono ?_; rintro e w' ⟨rfl, rfl⟩
          rw [o6]
          go_wp2
          go_roundw
          case rel => exact ⟨i + 1, c + 1 + 1, by omega, by omega, by omega, by go_num, by go_num, ⟨s6, F6, FS6.out, T6.out⟩⟩
          case measure => simp [intOf]; omega
      · have h1 : (c : Int) < (f : Int) := by omega
        have h2 : ¬ (c : Int) + 1 < (f : Int) := by omega
        go_wp2_with fail
        refine (tw_flush TW.out FS0.out hf2 hk2).mono ?_; intro e w3 went
        obtain ⟨rfl, s3, F3, f3, o3, t3⟩ := went_as (v := 0) (c' := c + 1) (o := false) went (by simp; omega) (by simp [fstep]; omega) (by simp; omega)
        have T3 := Lib.hid t3
        have FS3 := Lib.hid f3
        clear went f3 c0 ck a1 a2 a8 FS0 TW
        obtain ⟨c0, ck, a1, a2, a8⟩ := CS.out _ _ _ _ T3.out
        go_wp2_with fail
        refine (down_any T3.out.pw).mono ?_; rintro e w' ⟨rfl, rfl⟩
        rw [o3]
        go_wp2_with fail
        go_region_held (fun w' => w'.cell? ⟨T, 0, none⟩ = some (.pointer (some ⟨p, 0, none⟩)) ∧ w'.cell? ⟨T, 1 + k, none⟩ = some (.pointer (some ⟨D k, 0, none⟩)) ∧ w'.cell? ⟨b, off + i * 11 + 1, none⟩ = some (.int .i64 z1) ∧ w'.cell? ⟨b, off + i * 11 + 2, none⟩ = some (.int .i64 z2) ∧ w'.cell? ⟨b, off + i * 11 + 8, none⟩ = some (.int .u8 (y.toNat : Int))) (first | go_keep | exact CS.out _ _ _ _ T6.out | exact CS.out _ _ _ _ (T3.out.keep BB5))
          (first
            | (go_at_call 22; (with_reducible refine (fill0 _ y).mono ?_); rintro e w5 ⟨b5, rfl, hb5, o5, bb5⟩; have BB5 : Hid (Below w3.heap.size w3 w5) := below_of_drew bb5; have HB5 : Hid (w3.heap.size ≤ b5) := hb5; have O5 : Hid (Rw.OwnV w5 5 w3.heap.size (.slice (some ⟨b5, 0, none⟩) 64 64) (List.replicate 64 (ov y))) := o5; clear hb5 o5 bb5)
            | (go_at_call 21; (with_reducible refine (tw_fill (b := b5) (i := m) T3.out HN FS3.out hf2 hk2 hm2 BB5.out HB5.out O5.out).mono ?_); intro e w6 went; obtain ⟨rfl, s6, F6, f6, o6, t6⟩ := went_as (v := 80) (c' := c + 1) (o := true) went (by simp; omega) (by simp [fstep]; omega) (by simp; omega); have T6 := Lib.hid t6; have FS6 := Lib.hid f6; clear went f6 t6))
        all_goals
          obtain ⟨d0, dk, d1, d2, d8⟩ := CS.out _ _ _ _ T6.out
          go_wp2_with fail
          refine (down_any T6.out.pw).mono ?_; rintro e w' ⟨rfl, rfl⟩
          rw [o6]
          go_wp2
          go_roundw
          case rel => exact ⟨i + 1, c + 1, by omega, by omega, by omega, by go_num, by go_num, ⟨s6, F6, FS6.out, T6.out⟩⟩
          case measure => simp [intOf]; omega
      · have h1 : ¬ (c : Int) < (f : Int) := by omega
        go_wp2_with fail
        refine (tw_flush TW.out FS0.out hf2 hk2).mono ?_; intro e w3 went
        obtain ⟨rfl, s3, F3, f3, o3, t3⟩ := went_as (v := 80) (c' := c) (o := true) went (by simp; omega) (by simp [fstep]; omega) (by simp; omega)
        have T3 := Lib.hid t3
        have FS3 := Lib.hid f3
        clear went f3 c0 ck a1 a2 a8 FS0 TW
        obtain ⟨c0, ck, a1, a2, a8⟩ := CS.out _ _ _ _ T3.out
        go_wp2_with fail
        refine (down_any T3.out.pw).mono ?_; rintro e w' ⟨rfl, rfl⟩
        rw [o3]
        go_wp2_with fail
        go_region_held (fun w' => w'.cell? ⟨T, 0, none⟩ = some (.pointer (some ⟨p, 0, none⟩)) ∧ w'.cell? ⟨T, 1 + k, none⟩ = some (.pointer (some ⟨D k, 0, none⟩)) ∧ w'.cell? ⟨b, off + i * 11 + 1, none⟩ = some (.int .i64 z1) ∧ w'.cell? ⟨b, off + i * 11 + 2, none⟩ = some (.int .i64 z2) ∧ w'.cell? ⟨b, off + i * 11 + 8, none⟩ = some (.int .u8 (y.toNat : Int))) (first | go_keep | exact CS.out _ _ _ _ T6.out | exact CS.out _ _ _ _ (T3.out.keep BB5))
          (first
            | (go_at_call 22; (with_reducible refine (fill0 _ y).mono ?_); rintro e w5 ⟨b5, rfl, hb5, o5, bb5⟩; have BB5 : Hid (Below w3.heap.size w3 w5) := below_of_drew bb5; have HB5 : Hid (w3.heap.size ≤ b5) := hb5; have O5 : Hid (Rw.OwnV w5 5 w3.heap.size (.slice (some ⟨b5, 0, none⟩) 64 64) (List.replicate 64 (ov y))) := o5; clear hb5 o5 bb5)
            | (go_at_call 21; (with_reducible refine (tw_fill (b := b5) (i := m) T3.out HN FS3.out hf2 hk2 hm2 BB5.out HB5.out O5.out).mono ?_); intro e w6 went; obtain ⟨rfl, s6, F6, f6, o6, t6⟩ := went_as (v := 80) (c' := c) (o := true) went (by simp; omega) (by simp [fstep]; omega) (by simp; omega); have T6 := Lib.hid t6; have FS6 := Lib.hid f6; clear went f6 t6))
        all_goals
          obtain ⟨d0, dk, d1, d2, d8⟩ := CS.out _ _ _ _ T6.out
          go_wp2_with fail
          refine (down_any T6.out.pw).mono ?_; rintro e w' ⟨rfl, rfl⟩
          rw [o6]
          go_wp2
          go_roundw
          case rel => exact ⟨i + 1, c, by omega, by omega, by omega, by go_num, by go_num, ⟨s6, F6, FS6.out, T6.out⟩⟩
          case measure => simp [intOf]; omega
    · obtain ⟨s, F, fs, t⟩ := RI.out
      have FS0 := Lib.hid fs
      have TW := Lib.hid t
      have c0 := t.cell.1
      clear fs t RI
      rcases hend with hend | ⟨hend, hend2⟩
      all_goals
        go_wp2_with fail
        refine (done_any TW.out.pw).mono ?_; rintro e w' ⟨rfl, rfl⟩
        rw [FS0.out.done]
        go_wp2_with fail
        refine (awake_any _).mono ?_; rintro e w6 ⟨rfl, b6⟩
        have B6 := Lib.hid (bthen TW.out.below b6)
        clear b6
        go_wp2
        go_ret
        exact ⟨rfl, B6.out⟩
end Go.Proofs.Ytpbgddclkldpfaa.W
