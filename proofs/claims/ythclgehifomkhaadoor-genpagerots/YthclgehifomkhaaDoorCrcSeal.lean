/-
  Contracts of crc.Seal and crc.Open, and of the reference's. No conditions.
-/
import Derived.Test.YthclgehifomkhaaDoorCrcMore
import Derived.BigQuiet
namespace Go.Proofs.YthclgehifomkhaaDoor.W
open Go.RowKit Oc
set_option linter.unusedVariables false

theorem bthen {w a b : World} (h : Below w.heap.size w a) (k : Below a.heap.size a b) : Below w.heap.size w b := h.trans (k.mono h.size)
theorem balloc (w : World) (o : Obj) : Below w.heap.size w (w.alloc o) := (Below.refl _ _).alloc (Nat.le_refl _) _
theorem one_cell (w : World) (u : Value) (T : TypeId) : (w.alloc (.cells #[u] T)).cell? ⟨w.heap.size, 0, none⟩ = some u := by
  rw [cell_of_row _ _ _ _ _ _ (heap_alloc_new w (.cells #[u] T))]; rfl
theorem two_cells (w : World) (u v : Value) (T : TypeId) : (w.alloc (.cells #[u, v] T)).cell? ⟨w.heap.size, 0, none⟩ = some u ∧ (w.alloc (.cells #[u, v] T)).cell? ⟨w.heap.size, 1, none⟩ = some v := by
  have h := heap_alloc_new w (.cells #[u, v] T)
  exact ⟨by rw [cell_of_row _ _ _ _ _ _ h]; rfl, by rw [cell_of_row _ _ _ _ _ _ h]; rfl⟩
theorem join_new (A A2 : Option Addr) (n n2 c c2 : Nat) (xs ys : List UInt8) (w : World) (hn : n ≤ 1000000000) (hn2 : n2 ≤ 1000000000) (ho : Oct w A n xs) (ho2 : Oct w A2 n2 ys) :
    Calls Tryd.prog 22 #[.slice (some ⟨w.heap.size, 0, none⟩) 2 2] (w.alloc (.cells #[.slice A n c, .slice A2 n2 c2] 26)) (Made w (xs ++ ys)) := by
  obtain ⟨h0, h1⟩ := two_cells w (.slice A n c) (.slice A2 n2 c2) 26
  refine (join_two A A2 n n2 c c2 xs ys w.heap.size _ hn hn2 h0 h1 (ho.alloc _) (ho2.alloc _)).mono ?_
  rintro e w' ⟨v, rfl, o, b⟩
  exact ⟨v, rfl, o.more (by simp), ((Below.refl _ _).alloc (Nat.le_refl _) _).trans (b.mono (by simp))⟩
theorem sum_new (A : Option Addr) (n c : Nat) (xs : List UInt8) (r : Nat) (w : World) (hn : n ≤ 1000000000) (ho : Oct w A n xs) (he : Env w) (hr : sum xs = r) :
    Calls Tryd.prog 39 #[.slice (some ⟨w.heap.size, 0, none⟩) 1 1] (w.alloc (.cells #[.slice A n c] 26)) fun e w' => e = .returned (.int .u32 (r : Int)) ∧ w.alloc (.cells #[.slice A n c] 26) = w' :=
  sum_one A n c xs r _ _ hn (one_cell w _ _) (ho.alloc _) (he.alloc _) hr
theorem sum_new2 (A A2 : Option Addr) (n n2 c c2 : Nat) (xs ys : List UInt8) (r : Nat) (w : World) (hn : n ≤ 1000000000) (hn2 : n2 ≤ 1000000000) (ho : Oct w A n xs) (ho2 : Oct w A2 n2 ys) (he : Env w) (hr : sum (xs ++ ys) = r) :
    Calls Tryd.prog 39 #[.slice (some ⟨w.heap.size, 0, none⟩) 2 2] (w.alloc (.cells #[.slice A n c, .slice A2 n2 c2] 26)) fun e w' => e = .returned (.int .u32 (r : Int)) ∧ w.alloc (.cells #[.slice A n c, .slice A2 n2 c2] 26) = w' :=
  sum_two A A2 n n2 c c2 xs ys r _ _ hn hn2 (two_cells w _ _ _).1 (two_cells w _ _ _).2 (ho.alloc _) (ho2.alloc _) (he.alloc _) hr

/-- what is sealed -/
def sealed (xs : List UInt8) : List UInt8 := xs ++ octs (sum xs) 4
theorem seal_length (xs : List UInt8) : (sealed xs).length = xs.length + 4 := by rw [sealed, List.length_append, octs_length]
/-- what Open tells -/
def openE (ys : List UInt8) : Int := if ys.length < 4 then 30 else if num (ys.drop (ys.length - 4)) = sum (ys.take (ys.length - 4)) then 0 else 40
def openL (ys : List UInt8) : List UInt8 := if openE ys = 0 then ys.take (ys.length - 4) else []
theorem openE_short {ys : List UInt8} (h : ys.length < 4) : openE ys = 30 := if_pos h
theorem openE_yes {ys : List UInt8} (h : ¬ ys.length < 4) (h2 : num (ys.drop (ys.length - 4)) = sum (ys.take (ys.length - 4))) : openE ys = 0 := by
  unfold openE
  rw [if_neg h, if_pos h2]
theorem openE_no {ys : List UInt8} (h : ¬ ys.length < 4) (h2 : ¬ num (ys.drop (ys.length - 4)) = sum (ys.take (ys.length - 4))) : openE ys = 40 := by
  unfold openE
  rw [if_neg h, if_neg h2]
theorem openL_yes {ys : List UInt8} (h : openE ys = 0) : openL ys = ys.take (ys.length - 4) := if_pos h
theorem openL_no {ys : List UInt8} (h : openE ys ≠ 0) : openL ys = [] := if_neg h
theorem num_sum (xs : List UInt8) : num (octs (sum xs) 4) = sum xs := by
  rw [num_octs]
  exact Nat.mod_eq_of_lt (sum_lt xs)
theorem seal_take (xs : List UInt8) : (sealed xs).take ((sealed xs).length - 4) = xs := by
  have e : (sealed xs).length - 4 = xs.length := by rw [seal_length]; omega
  rw [e, sealed, List.take_left]
theorem seal_drop (xs : List UInt8) : (sealed xs).drop ((sealed xs).length - 4) = octs (sum xs) 4 := by
  have e : (sealed xs).length - 4 = xs.length := by rw [seal_length]; omega
  rw [e, sealed, List.drop_left]
theorem openE_seal (xs : List UInt8) : openE (sealed xs) = 0 := openE_yes (by rw [seal_length]; omega) (by rw [seal_take, seal_drop, num_sum])
theorem openL_seal (xs : List UInt8) : openL (sealed xs) = xs := by rw [openL_yes (openE_seal xs), seal_take]

set_option maxHeartbeats 1000000 in
theorem seal_any (A : Option Addr) (n c : Nat) (xs : List UInt8) (w : World) (hn : n ≤ 1000000000) (ho : Oct w A n xs) (he : Env w) :
    Calls Tryd.prog 31 #[.slice A n c] w (Made w (sealed xs)) := by
  have HO := Lib.hid ho
  have HE := Lib.hid he
  obtain ⟨u, hu⟩ : ∃ u, sum xs = u := ⟨_, rfl⟩
  have hul : u < 4294967296 := by rw [← hu]; exact sum_lt xs
  have HU := Lib.hid hu
  clear ho he hu
  go_enter Tryd.func31, Tryd.ntmps31
  go_wp2_with fail
  refine (sum_new _ _ _ xs u _ hn HO.out HE.out HU.out).mono ?_; rintro e w' ⟨rfl, rfl⟩
  go_wp2_with fail
  refine (put_yes _ _ _ xs u 4 _ hn (HO.out.alloc _) (by omega) (by decide) (by decide)).mono ?_; rintro e w1 ⟨v, rfl, o, b⟩
  have O := Lib.hid o
  have B := Lib.hid b
  clear o b
  go_wp2
  go_ret
  refine ⟨_, rfl, ?_, bthen (balloc _ _) B.out⟩
  rw [sealed, HU.out]
  exact O.out.more (by simp)

set_option maxHeartbeats 1000000 in
theorem rseal_any (A : Option Addr) (n c : Nat) (xs : List UInt8) (w : World) (hn : n ≤ 1000000000) (ho : Oct w A n xs) :
    Calls Tryd.prog 33 #[.slice A n c] w (Made w (sealed xs)) := by
  have HO := Lib.hid ho
  obtain ⟨u, hu⟩ : ∃ u, sum xs = u := ⟨_, rfl⟩
  have hul : u < 4294967296 := by rw [← hu]; exact sum_lt xs
  have HU := Lib.hid hu
  clear ho hu
  go_enter Tryd.func33, Tryd.ntmps33
  go_wp2_with fail
  refine (rsum_any _ _ _ xs u _ hn HO.out HU.out).mono ?_; rintro e w' ⟨rfl, rfl⟩
  go_wp2_with fail
  refine (num_yes u 4 _ (by omega) (by decide)).mono ?_; rintro e w1 ⟨v, rfl, o, b⟩
  obtain ⟨A1, c1, rfl, l1, s1⟩ := o.form (n := 4) (octs_length _ _)
  have S1 := Lib.hid s1
  have B := Lib.hid b
  clear o b s1
  go_wp2_with fail
  refine (join_new A A1 n 4 c c1 xs _ _ hn (by decide) (HO.out.below B.out) S1.out).mono ?_; rintro e w2 ⟨v, rfl, o, b⟩
  have O := Lib.hid o
  have B2 := Lib.hid b
  clear o b
  go_wp2
  go_ret
  refine ⟨_, rfl, ?_, bthen B.out B2.out⟩
  rw [sealed, HU.out]
  exact O.out.more B.out.size

/-- what a call leaves that opens octets -/
def Opened (w : World) (ys : List UInt8) (e : Ending) (w' : World) : Prop := ∃ v, e = .returned (.tuple #[v, .int .i64 (openE ys)]) ∧ Own w' 5 w.heap.size v (openL ys) ∧ Below w.heap.size w w'
theorem opened_no {w w' : World} {ys : List UInt8} {k : Int} (h : openE ys = k) (hk : k ≠ 0) (hb : Below w.heap.size w w') : Opened w ys (.returned (.tuple #[.slice none 0 0, .int .i64 k])) w' := by
  subst h
  refine ⟨_, rfl, ?_, hb⟩
  rw [openL_no hk]
  exact Own.nil _ _ _

theorem opened_yes {w w' : World} {ys zs : List UInt8} {v : Value} (h : openE ys = 0) (h2 : openL ys = zs) (ho : Own w' 5 w.heap.size v ([] ++ zs)) (hb : Below w.heap.size w w') : Opened w ys (.returned (.tuple #[v, .int .i64 0])) w' := by
  refine ⟨v, by rw [h], ?_, hb⟩
  rw [h2]
  exact ho

set_option maxHeartbeats 2000000 in
theorem open_any (A : Option Addr) (n c : Nat) (ys : List UInt8) (w : World) (hn : n ≤ 1000000000) (hc : n ≤ c) (ho : Oct w A n ys) (he : Env w) :
    Calls Tryd.prog 41 #[.slice A n c] w (Opened w ys) := by
  have HO := Lib.hid ho
  have HE := Lib.hid he
  have hl := ho.len
  have HL := Lib.hid hl
  by_cases h4 : n < 4
  · have hk := openE_short (ys := ys) (by omega)
    have HK := Lib.hid hk
    clear ho he hl hk
    go_enter Tryd.func41, Tryd.ntmps41
    go_wp2_with fail
    refine (at_no _ _ _ _ _ _ hn (by omega)).mono ?_; rintro e w' ⟨rfl, rfl⟩
    go_wp2
    go_ret2
    exact opened_no HK.out (by decide) (Below.refl _ _)
  · obtain ⟨m, rfl⟩ : ∃ m, n = m + 4 := ⟨n - 4, by omega⟩
    obtain ⟨u, hu⟩ : ∃ u, sum (ys.take m) = u := ⟨_, rfl⟩
    have hul : u < 4294967296 := by rw [← hu]; exact sum_lt _
    obtain ⟨v, hv⟩ : ∃ v, num ((ys.drop m).take 4) = v := ⟨_, rfl⟩
    have hd : (ys.drop m).take 4 = ys.drop m := List.take_of_length_le (by rw [List.length_drop, hl]; omega)
    have hv2 : num (ys.drop m) = v := by rw [← hd]; exact hv
    have hm : ys.length - 4 = m := by omega
    have HU := Lib.hid hu
    have HV := Lib.hid hv
    by_cases hq : v = u
    · subst hq
      have hk := openE_yes (ys := ys) (by omega) (by rw [hm, hu, hv2])
      have hk2 := openL_yes hk
      rw [hm] at hk2
      have HK := Lib.hid hk
      have HK2 := Lib.hid hk2
      clear ho he hl hk hk2 hu hv hd hv2 hm h4
      go_enter Tryd.func41, Tryd.ntmps41
      go_wp2_with fail
      refine (at_yes _ _ _ ys m 4 _ hn HO.out (by decide) (by decide) (by omega) v HV.out).mono ?_; rintro e w' ⟨rfl, rfl⟩
      go_wp2_with fail
      refine (sum_new _ _ _ _ v _ (by omega) (HO.out.take (k := m) (by omega)) HE.out HU.out).mono ?_; rintro e w' ⟨rfl, rfl⟩
      have o0 := Own.nil (w.alloc (.cells #[.slice A m c] 26)) 5 w.heap.size
      have O0 := Lib.hid o0
      clear o0
      go_wp2_with (at_builtin; refine wpList_append_to rfl _ _ 26 rfl bt rfl O0.out (balloc _ _) _ rfl ((HO.out.take (k := m) (by omega)).alloc _) (by simp; omega) ?_; intro v1 w1 o1 b1; have O1 := Lib.hid o1; have B1 := Lib.hid b1; clear o1 b1)
      go_ret2
      exact opened_yes HK.out HK2.out O1.out B1.out
    · have hk := openE_no (ys := ys) (by omega) (by rw [hm, hu, hv2]; exact hq)
      have HK := Lib.hid hk
      clear ho he hl hk hu hv hd hv2 hm h4
      go_enter Tryd.func41, Tryd.ntmps41
      go_wp2_with fail
      refine (at_yes _ _ _ ys m 4 _ hn HO.out (by decide) (by decide) (by omega) v HV.out).mono ?_; rintro e w' ⟨rfl, rfl⟩
      go_wp2_with fail
      refine (sum_new _ _ _ _ u _ (by omega) (HO.out.take (k := m) (by omega)) HE.out HU.out).mono ?_; rintro e w' ⟨rfl, rfl⟩
      go_wp2
      go_ret2
      exact opened_no HK.out (by decide) (balloc _ _)

theorem quiet {P : Program} {f : FuncId} {args : Array Value} {w : World} {n : Nat} {v : Value} (h : Calls P f args (w.drewN n) fun e w' => e = .returned v ∧ w.drewN n = w') : Calls P f args (w.drewN n) fun e w'' => e = .returned v ∧ ∃ m, w'' = w.drewN m :=
  h.mono fun _ _ ⟨he, hm⟩ => ⟨he, n, hm.symm⟩
theorem cut_lo (A : Option Addr) (n m c k : Nat) (h : m ≤ n) (hk : n - m = k) (hc : c ≠ m) (w : World) : (Instr.slice 26 (.slice A n c) (some (.int .i64 (m : Int))) none none).run Tryd.prog w = .ok (.slice (Option.map (fun x => x.add m) A) k (c - m)) w := by
  obtain ⟨i, hi, hz0, hz1, hz2⟩ := info_parts bt.info
  subst hk
  rw [run_slice_l w 26 A n c Tryd.underlying26 .i64 m (by omega) (by omega)]
  show ((sizeOf 5).run Tryd.prog w).andThen _ = _
  simp [sizeOf, typeInfo, hi, hz1, sliced, hc]
theorem cut_hi (A : Option Addr) (n m c : Nat) (h : m ≤ c) (w : World) : (Instr.slice 26 (.slice A n c) none (some (.int .i64 (m : Int))) none).run Tryd.prog w = .ok (.slice A m c) w := by
  obtain ⟨i, hi, hz0, hz1, hz2⟩ := info_parts bt.info
  rw [run_slice_h w 26 A n c Tryd.underlying26 .i64 m (by omega) (by omega)]
  show ((sizeOf 5).run Tryd.prog w).andThen _ = _
  by_cases hc : c = 0
  · simp [sizeOf, typeInfo, hi, hz1, sliced, hc]
  · rcases A with _ | a
    · simp [sizeOf, typeInfo, hi, hz1, sliced, hc]
    · simp [sizeOf, typeInfo, hi, hz1, sliced, hc, Addr.add]

/-- the reference tells a part of what it got -/
def ROpened2 (w : World) (ys : List UInt8) (e : Ending) (w' : World) : Prop := ∃ A m c, m ≤ c ∧ e = .returned (.tuple #[.slice A m c, .int .i64 (openE ys)]) ∧ Oct w A m (openL ys) ∧ ∃ k, w' = w.drewN k
def ROpened (w : World) (ys : List UInt8) (e : Ending) (w' : World) : Prop := ∃ A m c, e = .returned (.tuple #[.slice A m c, .int .i64 (openE ys)]) ∧ Oct w A m (openL ys) ∧ ∃ k, w' = w.drewN k
theorem ropened_no {w : World} {ys : List UInt8} {k : Int} (h : openE ys = k) (hk : k ≠ 0) (j : Nat) : ROpened2 w ys (.returned (.tuple #[.slice none 0 0, .int .i64 k])) (w.drewN j) := by
  subst h
  refine ⟨none, 0, 0, Nat.le_refl _, rfl, ?_, j, rfl⟩
  rw [openL_no hk]
  exact Oct.nil _ _
theorem ropened_yes {w : World} {A : Option Addr} {m c : Nat} {ys zs : List UInt8} (h : openE ys = 0) (h2 : openL ys = zs) (ho : Oct w A m zs) (hc : m ≤ c) (j : Nat) : ROpened2 w ys (.returned (.tuple #[.slice A m c, .int .i64 0])) (w.drewN j) := by
  refine ⟨A, m, c, hc, by rw [h], ?_, j, rfl⟩
  rw [h2]
  exact ho

set_option maxHeartbeats 2000000 in
theorem ropen2_any (A : Option Addr) (n c : Nat) (ys : List UInt8) (w : World) (hn : n ≤ 1000000000) (hc : n ≤ c) (ho : Oct w A n ys) :
    Calls Tryd.prog 38 #[.slice A n c] w (ROpened2 w ys) := by
  have HO := Lib.hid ho
  have hl := ho.len
  have HL := Lib.hid hl
  by_cases h4 : n < 4
  · have hk := openE_short (ys := ys) (by omega)
    have HK := Lib.hid hk
    clear ho hl hk
    go_enter Tryd.func38, Tryd.ntmps38
    go_wp2
    go_ret2
    exact ropened_no HK.out (by decide) 0
  · obtain ⟨m, rfl⟩ : ∃ m, n = m + 4 := ⟨n - 4, by omega⟩
    obtain ⟨u, hu⟩ : ∃ u, sum (ys.take m) = u := ⟨_, rfl⟩
    have hul : u < 4294967296 := by rw [← hu]; exact sum_lt _
    obtain ⟨v, hv⟩ : ∃ v, num (ys.drop m) = v := ⟨_, rfl⟩
    have hm : ys.length - 4 = m := by omega
    have hcm : c ≠ m := by omega
    have i1 := cut_lo A (m + 4) m c 4 (by omega) (by omega) hcm
    have i2 := cut_hi A (m + 4) m c (by omega)
    have r1 : ∀ k, Calls Tryd.prog 40 #[.slice A m c] (w.drewN k) fun e w' => e = .returned (.int .u32 (u : Int)) ∧ w.drewN k = w' := fun k => rsum_any A m c _ u _ (by omega) ((HO.out.take (by omega)).drewN k) hu
    have r2 : ∀ k, Calls Tryd.prog 26 #[.slice (Option.map (fun x => x.add m) A) 4 (c - m)] (w.drewN k) fun e w' => e = .returned (.int .u64 (v : Int)) ∧ w.drewN k = w' := fun k => by
      have o := HO.out.map (k := m) (by omega)
      have e : m + 4 - m = 4 := by omega
      rw [e] at o
      exact of_any _ _ _ _ _ (by decide) (o.drewN k) v hv
    have R1 := Lib.hid r1
    have R2 := Lib.hid r2
    clear r1 r2
    by_cases hq : v = u
    · subst hq
      have hk := openE_yes (ys := ys) (by omega) (by rw [hm, hu, hv])
      have hk2 := openL_yes hk
      rw [hm] at hk2
      have HK := Lib.hid hk
      have HK2 := Lib.hid hk2
      clear ho hl hk hk2 hu hv hm h4
      go_enter Tryd.func38, Tryd.ntmps38
      go_wp2_with fail
      go_quiet ((first
        | (go_at_call 26; exact quiet (R2.out _))
        | (go_at_call 40; exact quiet (R1.out _))))
      go_wp2
      go_ret2
      exact ropened_yes HK.out HK2.out (HO.out.take (by omega)) (by omega) _
    · have hk := openE_no (ys := ys) (by omega) (by rw [hm, hu, hv]; exact hq)
      have HK := Lib.hid hk
      clear ho hl hk hu hv hm h4
      go_enter Tryd.func38, Tryd.ntmps38
      go_wp2_with fail
      go_quiet ((first
        | (go_at_call 26; exact quiet (R2.out _))
        | (go_at_call 40; exact quiet (R1.out _))))
      go_wp2
      go_ret2
      exact ropened_no HK.out (by decide) _
theorem ropen_any (A : Option Addr) (n c : Nat) (ys : List UInt8) (w : World) (hn : n ≤ 1000000000) (hc : n ≤ c) (ho : Oct w A n ys) :
    Calls Tryd.prog 38 #[.slice A n c] w (ROpened w ys) :=
  (ropen2_any A n c ys w hn hc ho).mono fun _ _ ⟨A, m, c, _, h⟩ => ⟨A, m, c, h⟩
end Go.Proofs.YthclgehifomkhaaDoor.W
