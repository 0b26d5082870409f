/-
  The contracts of numbersOf and of Put. No conditions.
-/
import Derived.Test.YtheflapmjopemaaDoorHdMay
namespace Go.Proofs.YtheflapmjopemaaDoor.W.Hd
open Go.RowKit Oc Gt
set_option linter.unusedVariables false

/-- the numbers of a head -/
def nth (p : Hd) (k : Nat) : Nat := [ub p.u, p.l.toNat, p.g, p.s.toNat, p.r.toNat].getD k 0
def numArr (p : Hd) : Array Value := #[.int .u64 ((ub p.u : Nat) : Int), .int .u64 ((p.l.toNat : Nat) : Int), .int .u64 (p.g : Int), .int .u64 (p.s.toNat : Int), .int .u64 (p.r.toNat : Int)]
theorem num_at (p : Hd) {k : Nat} (h : k < 5) : (numArr p)[k]? = some (.int .u64 ((nth p k : Nat) : Int)) := by
  match k, h with
  | 0, _ => rfl
  | 1, _ => rfl
  | 2, _ => rfl
  | 3, _ => rfl
  | 4, _ => rfl
theorem nth_lt {p : Hd} (h : MayBe p) {k : Nat} (hk : k < 5) : nth p k < 18446744073709551616 := by
  have h1 := may_l h
  have h2 := may_g h
  have h3 := s_lt p.s
  have h4 := s_lt p.r
  have h5 := ub_lt p.u
  match k, hk with
  | 0, _ => show ub p.u < _; omega
  | 1, _ => show p.l.toNat < _; omega
  | 2, _ => show p.g < _; omega
  | 3, _ => show p.s.toNat < _; omega
  | 4, _ => show p.r.toNat < _; omega
/-- what the first numbers make -/
def pre (p : Hd) : Nat → List UInt8
  | 0 => []
  | k + 1 => pre p k ++ octs (nth p k) (wd k)
theorem pre_all (p : Hd) : pre p 5 = pay p := by
  show ((((([] ++ octs (ub p.u) 1) ++ octs p.l.toNat 2) ++ octs p.g 8) ++ octs p.s.toNat 4) ++ octs p.r.toNat 4) = pay p
  rw [List.nil_append]
  rfl
theorem pre_len (p : Hd) : ∀ k, k ≤ 5 → (pre p k).length ≤ 8 * k
  | 0, _ => by simp [pre]
  | k + 1, h => by
    have h1 := pre_len p k (by omega)
    have h2 := (wd_lt (k := k) (by omega)).2
    show (pre p k ++ octs (nth p k) (wd k)).length ≤ _
    rw [List.length_append, octs_length]
    omega
theorem info_five : (Tryd.prog.info? 42).map (·.size) = some 5 := by kernel_rfl
theorem row_new2 (w : World) (o : Obj) (cs : Array Value) (T : TypeId) : ((w.alloc o).alloc (.cells cs T)).heap[w.heap.size + 1]? = some (.cells cs T (0, 0)) := by
  have h := heap_alloc_new (w.alloc o) (.cells cs T)
  rw [show (w.alloc o).heap.size = w.heap.size + 1 by simp] at h
  exact h

set_option maxHeartbeats 1000000 in
theorem nums_at (u : Bool) (l g s r : Int) (w : World) (hl : IntKind.u64.wrap l = l) (hs : IntKind.u64.wrap s = s) (hr : IntKind.u64.wrap r = r) :
    Calls Tryd.prog 19 #[.agg #[.bool u, .int .i64 l, .int .u64 g, .int .u32 s, .int .u32 r]] w fun e w' => e = .returned (.agg #[.int .u64 ((ub u : Nat) : Int), .int .u64 l, .int .u64 g, .int .u64 s, .int .u64 r]) ∧ Below w.heap.size w w' := by
  have X := Lib.hid (row_new2 w (.cells #[.bool u, .int .i64 l, .int .u64 g, .int .u32 s, .int .u32 r] 25) #[.int .u64 0, .int .u64 0, .int .u64 0, .int .u64 0, .int .u64 0] 42)
  cases u
  · go_enter Tryd.func19, Tryd.ntmps19
    go_wp2_with ((with_reducible apply L_storeRow (N := 5) info_five); exact rfl; exact rfl; exact X.out; exact rfl; exact rfl; (simp [Value.oneCell']); intro w4 h4 g4; have H4 := Lib.hid h4; have G4 := Lib.hid g4; clear h4 g4)
    refine bodyPost_ret (results_cell_row rfl _ _ _ _ _ _ _ rfl H4.out Tryd.underlying42 rfl info_five) rfl ?_
    exact ⟨rfl, below_up (bthen (balloc _ _) (balloc _ _)) G4.out (by omega)⟩
  · go_enter Tryd.func19, Tryd.ntmps19
    go_wp2_with ((with_reducible apply L_storeRow (N := 5) info_five); exact rfl; exact rfl; exact X.out; exact rfl; exact rfl; (simp [Value.oneCell']); intro w4 h4 g4; have H4 := Lib.hid h4; have G4 := Lib.hid g4; clear h4 g4)
    refine bodyPost_ret (results_cell_row rfl _ _ _ _ _ _ _ rfl H4.out Tryd.underlying42 rfl info_five) rfl ?_
    exact ⟨rfl, below_up (bthen (balloc _ _) (balloc _ _)) G4.out (by omega)⟩
theorem nums_any (p : Hd) (w : World) (h : MayBe p) : Calls Tryd.prog 19 #[(.agg #[.bool p.u, .int .i64 p.l, .int .u64 (p.g : Int), .int .u32 (p.s.toNat : Int), .int .u32 (p.r.toNat : Int)])] w fun e w' => e = .returned (.agg (numArr p)) ∧ Below w.heap.size w w' := by
  have h1 := may_l h
  have h3 := s_lt p.s
  have h4 := s_lt p.r
  refine (nums_at p.u p.l p.g p.s.toNat p.r.toNat w ?_ (wrap_in (by omega)) (wrap_in (by omega))).mono ?_
  · rw [show p.l = ((p.l.toNat : Nat) : Int) by omega]; exact wrap_in (by omega)
  · rintro e w' ⟨rfl, b⟩
    refine ⟨?_, b⟩
    unfold numArr
    rw [show ((p.l.toNat : Nat) : Int) = p.l by omega]

theorem putE_pay (p : Hd) : putE 3 (pay p).length = 0 := putE_ok (k := 3) r3 (pay_fits p)
theorem putL_pay (p : Hd) : putL 3 (pay p) = sect p := putL_ok (k := 3) r3 (pay_fits p)
set_option maxHeartbeats 2000000 in
theorem hdput_no (p : Hd) (w : World) (h : ¬ MayBe p) : Calls Tryd.prog 6 #[(.agg #[.bool p.u, .int .i64 p.l, .int .u64 (p.g : Int), .int .u32 (p.s.toNat : Int), .int .u32 (p.r.toNat : Int)])] w fun e w' => e = .returned (.tuple #[.slice none 0 0, .int .i64 1]) ∧ Below w.heap.size w w' := by
  have H := Lib.hid h
  clear h
  go_enter Tryd.func6, Tryd.ntmps6
  go_wp2_with fail
  refine (maybe_any p false _ ⟨fun h => (by cases h), fun h => absurd h H.out⟩).mono ?_; rintro e w1 ⟨rfl, b1⟩
  have B1 : Hid (Below w.heap.size w w1) := bthen (balloc _ _) b1
  clear b1
  go_wp2
  go_ret2
  exact ⟨rfl, B1.out⟩

set_option maxRecDepth 100000 in
set_option maxHeartbeats 4000000 in
theorem hdput_ok (p : Hd) (w : World) (h : MayBe p) (he : EnvH w) : Calls Tryd.prog 6 #[(.agg #[.bool p.u, .int .i64 p.l, .int .u64 (p.g : Int), .int .u32 (p.s.toNat : Int), .int .u32 (p.r.toNat : Int)])] w fun e w' => ∃ v, e = .returned (.tuple #[v, .int .i64 0]) ∧ Own w' 5 w.heap.size v (sect p) ∧ Below w.heap.size w w' := by
  have H := Lib.hid h
  have HE := Lib.hid he
  clear h he
  go_enter Tryd.func6, Tryd.ntmps6
  go_wp2_with fail
  refine (maybe_any p true _ ⟨fun _ => H.out, fun _ => rfl⟩).mono ?_; rintro e w1 ⟨rfl, b1⟩
  have X1 := Lib.hid (kept_below (heap_alloc_new w (.cells #[.bool p.u, .int .i64 p.l, .int .u64 (p.g : Int), .int .u32 (p.s.toNat : Int), .int .u32 (p.r.toNat : Int)] 25)) b1)
  have B1 : Hid (Below w.heap.size w w1) := bthen (balloc _ _) b1
  clear b1
  go_wp2_with ((with_reducible apply L_loadHd); exact rfl; exact X1.out; exact rfl)
  refine (nums_any p _ H.out).mono ?_; rintro e w2 ⟨rfl, b2⟩
  have B2 : Hid (Below w.heap.size w w2) := bthen B1.out b2
  have Z2 := Lib.hid (heap_alloc_new w2 (.cells #[.int .u64 0, .int .u64 0, .int .u64 0, .int .u64 0, .int .u64 0] 42))
  have B3 : Hid (Below w.heap.size w (w2.alloc (.cells #[.int .u64 0, .int .u64 0, .int .u64 0, .int .u64 0, .int .u64 0] 42))) := bthen B2.out (balloc _ _)
  have hD : w.heap.size ≤ w2.heap.size := B2.out.size
  obtain ⟨D, hDe⟩ : ∃ D, D = w2.heap.size := ⟨_, rfl⟩
  obtain ⟨NA, hNA⟩ : ∃ a, a = numArr p := ⟨_, rfl⟩
  rw [← hDe] at Z2 hD
  rw [← hNA]
  have HNA := Lib.hid hNA
  have HDE := Lib.hid hDe
  clear hNA hDe b2
  go_wp2_with ((with_reducible apply L_storeRow (N := 5) info_five); exact rfl; exact rfl; exact HDE.out ▸ Z2.out; exact rfl; (rw [HNA.out]; exact rfl); (rw [HNA.out]; simp [numArr, Value.oneCell']); intro w4 h4 g4; have H4 := Lib.hid (HDE.out ▸ h4); have G4 := Lib.hid (HDE.out ▸ g4); clear h4 g4)
  have B4 : Hid (Below w.heap.size w w4) := below_up B3.out G4.out hD
  have E4 : Hid (EnvH w4) := HE.out.below B4.out
  clear Z2 B2 B3 X1 B1 G4
  have O4 : Hid (Own w4 5 w.heap.size (.slice none 0 0) (pre p 0)) := Own.nil _ _ _
  rw [← HDE.out]
  go_loopw [5, 12] (fun v q wr => ∃ j : Nat, j ≤ 5 ∧ q = .int .i64 (j : Int) ∧ Hid (Own wr 5 w.heap.size v (pre p j)) ∧ Hid (Below w.heap.size w wr) ∧ Hid (wr.heap[D]? = some (.cells NA 42 (0, 0)))) (fun _ q _ => 5 - (intOf q).toNat)
  case atStart => exact ⟨0, by omega, rfl, O4, B4, H4⟩
  case round =>
    obtain ⟨j, hj, rfl, OJ, BJ, HJ⟩ := hrel
    obtain ⟨n, hn⟩ : ∃ n, (pre p j).length = n := ⟨_, rfl⟩
    have hn8 : n ≤ 40 := by have := pre_len p j hj; omega
    obtain ⟨A, c, rfl, l, s⟩ := OJ.out.form hn
    have SJ := Lib.hid s
    clear s hn l
    by_cases hlt : j < 5
    · have hlt2 : (j : Int) < 5 := by omega
      obtain ⟨N, hN⟩ : ∃ N, nth p j = N := ⟨_, rfl⟩
      obtain ⟨k, hk⟩ : ∃ k, wd j = k := ⟨_, rfl⟩
      have hN64 : N < 18446744073709551616 := by rw [← hN]; exact nth_lt H.out hlt
      have hk1 : 1 ≤ k := by rw [← hk]; exact (wd_lt hlt).1
      have hk8 : k ≤ 8 := by rw [← hk]; exact (wd_lt hlt).2
      have hcell : NA[j]? = some (.int .u64 (N : Int)) := by rw [HNA.out, num_at p hlt, hN]
      have HC := Lib.hid hcell
      have HN := Lib.hid hN
      have HK := Lib.hid hk
      have EJ : Hid (EnvH wr) := HE.out.below BJ.out
      clear hcell hN hk
      have hgl : 0 < wr.heap.size := by obtain ⟨_, t, fr, hh⟩ := EJ.out; exact (Array.getElem?_eq_some_iff.1 hh).1
      obtain ⟨y0, hy0⟩ : ∃ y, y = wr.drew := ⟨_, rfl⟩
      have ES : Hid (EnvH y0) := by show EnvH _; rw [hy0]; exact EJ.out
      have HS : Hid (y0.heap[D]? = some (.cells NA 42 (0, 0))) := by show _ = _; rw [hy0]; exact HJ.out
      have SS : Hid (Oct y0 A n (pre p j)) := by show Oct _ _ _ _; rw [hy0]; exact SJ.out.drew
      have BS : Hid (Below w.heap.size w y0) := by show Below _ _ _; rw [hy0]; exact below_drew1 BJ.out
      go_upto_region 8 with fail
      go_wp2_with fail
      refine gate (fun x => x.heap[D]? = some (.cells NA 42 (0, 0)) ∧ EnvH x) 8 [0, 1, 2, 3, 4, 5, 6] 2 (by kernel_rfl) (by kernel_rfl) (by kernel_rfl) rfl ?_ ⟨HJ.out, EJ.out⟩ ?_
      · intro d v c a w h
        cases d <;> exact h
      rw [← hy0]
      clear hy0 SJ OJ BJ HJ EJ
      refine yields_step ?_ rfl rfl ?_ ?_
      rotate_left
      · intro x hS; go_simp; rfl
      refine yields_step ?_ rfl rfl ?_ ?_
      rotate_left
      · intro x hS; go_simp; rfl
      refine yields_step (.pointer (some ⟨D, j, none⟩)) rfl rfl ?_ ?_
      · intro x hS; go_simp
      refine yields_step (.int .u64 (N : Int)) rfl rfl ?_ ?_
      · intro x hS
        have hc : x.cell? ⟨D, j, none⟩ = some (.int .u64 (N : Int)) := by rw [cell_of_row _ _ _ _ _ _ hS.1]; exact HC.out
        go_simp
      refine yields_step ?_ rfl rfl ?_ ?_
      rotate_left
      · intro x hS; go_simp; rfl
      refine yields_step (.pointer (some ⟨0, j, none⟩)) rfl rfl ?_ ?_
      · intro x hS; go_simp
      refine yields_step (.int .i64 (k : Int)) rfl rfl ?_ ?_
      · intro x hS
        have hc : x.cell? ⟨0, j, none⟩ = some (.int .i64 (k : Int)) := by rw [hS.2.cell hlt, HK.out]
        go_simp
      refine Gate.next (i := 7) (by kernel_rfl) rfl rfl (fun K hK => ?_)
      go_simp
      refine (put_yes A n c (pre p j) N k y0 (by omega) SS.out hN64 hk1 hk8).mono ?_; rintro e y1 ⟨v1, rfl, o1, b⟩
      have O1 : Hid (Own y1 5 w.heap.size v1 (pre p (j + 1))) := by
        show Own _ _ _ _ (pre p j ++ octs (nth p j) (wd j))
        rw [HN.out, HK.out]
        exact o1.more BS.out.size
      have H1 := Lib.hid (kept_below HS.out b)
      have E1 : Hid (EnvH y1) := ES.out.below b
      have B1 : Hid (Below w.heap.size w y1) := bthen BS.out b
      clear b o1
      refine hK _ _ (fun _ => ⟨H1.out, E1.out⟩) ?_
      clear hK K
      refine Gate.next (i := 8) (by kernel_rfl) rfl rfl (fun K hK => ?_)
      go_simp
      refine hK _ _ (fun h => absurd rfl h) ?_
      clear hK K
      refine Gate.done (by kernel_rfl) ?_
      go_wp2
      go_roundw
      case rel => exact ⟨j + 1, by omega, by go_num, O1, B1, H1⟩
      case measure => simp [intOf]; omega
    · have hj5 : j = 5 := by omega
      subst hj5
      have h19 : n = 19 := by rw [← SJ.out.len, pre_all, pay_length]
      subst h19
      have S5 : Hid (Oct wr A 19 (pay p)) := by show Oct _ _ _ _; rw [← pre_all]; exact SJ.out
      have E5 : Hid (EnvH wr) := HE.out.below BJ.out
      clear SJ OJ HJ
      go_wp2_with fail
      refine (pput_any A 19 c (pay p) 3 _ (by omega) S5.out E5.out.1).mono ?_; rintro e w9 ⟨v9, rfl, o9, b9⟩
      rw [putE_pay]
      rw [putL_pay] at o9
      have O9 := Lib.hid (o9.more BJ.out.size)
      have B9 : Hid (Below w.heap.size w w9) := bthen BJ.out b9
      clear o9 b9
      go_wp2
      go_ret2
      exact ⟨v9, rfl, O9.out, B9.out⟩
/-- what a call leaves that puts a head -/
def HPut (w : World) (p : Hd) (e : Ending) (w' : World) : Prop :=
  (MayBe p ∧ ∃ v, e = .returned (.tuple #[v, .int .i64 0]) ∧ Own w' 5 w.heap.size v (sect p) ∧ Below w.heap.size w w') ∨ (¬ MayBe p ∧ e = .returned (.tuple #[.slice none 0 0, .int .i64 1]) ∧ Below w.heap.size w w')
theorem hdput_any (p : Hd) (w : World) (he : EnvH w) : Calls Tryd.prog 6 #[(.agg #[.bool p.u, .int .i64 p.l, .int .u64 (p.g : Int), .int .u32 (p.s.toNat : Int), .int .u32 (p.r.toNat : Int)])] w (HPut w p) := by
  by_cases h : MayBe p
  · exact (hdput_ok p w h he).mono fun e w' h2 => .inl ⟨h, h2⟩
  · exact (hdput_no p w h).mono fun e w' h2 => .inr ⟨h, h2⟩
end Go.Proofs.YtheflapmjopemaaDoor.W.Hd
