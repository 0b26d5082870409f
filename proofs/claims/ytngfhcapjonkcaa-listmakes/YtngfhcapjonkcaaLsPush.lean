/-
  Lists as rows of numbers: contracts of Remove, Push, Append. No conditions.
-/
import Derived.Test.YtngfhcapjonkcaaLsFit
import Derived.Test.YtngfhcapjonkcaaLsTake
import Derived.Deep.RegionWith
namespace Go.Proofs.Ytngfhcapjonkcaa.W
open Go.RowKit Rw Ls
set_option linter.unusedVariables false

/-- LISTS BEHIND A POINTER THAT READ AS ROWS -/
structure Li (w : World) (R g1 g2 n : Nat) (L : List (List Nat)) (f : Nat → Lnk) (s : Nat → Nat) : Prop where
  st : St w R g1 g2 n L.length (n + L.length) f s
  ok : Ok n L
  fit : Fit n L f
  len : ∀ (k : Nat) (r : List Nat), L[k]? = some r → s k = r.length
def Rows (w : World) (R g1 g2 n : Nat) (L : List (List Nat)) : Prop := ∃ f s, Li w R g1 g2 n L f s
/-- what a call leaves that turns the lists -/
def Moved (w : World) (R g1 g2 n : Nat) (L : List (List Nat)) (u : Value) (e : Ending) (w' : World) : Prop := e = .returned u ∧ Rows w' R g1 g2 n L ∧ Turn2 w w' g1 g2

theorem Rows.below {w w' : World} {R g1 g2 n : Nat} {L : List (List Nat)} (h : Rows w R g1 g2 n L) (hb : Below w.heap.size w w') : Rows w' R g1 g2 n L := by
  obtain ⟨f, s, h⟩ := h
  exact ⟨f, s, h.st.below hb, h.ok, h.fit, h.len⟩
theorem row_le {n : Nat} : ∀ (n : Nat) (r : List Nat), r.Nodup → (∀ x ∈ r, x < n) → r.length ≤ n := by
  intro n
  induction n with
  | zero => intro r _ h; cases r with
    | nil => simp
    | cons a r => exact absurd (h a (by simp)) (by omega)
  | succ n ih =>
    intro r hn h
    by_cases hm : n ∈ r
    · have := ih (r.erase n) (hn.erase n) (fun x hx => by
        have h1 := (hn.mem_erase_iff).1 hx
        have := h x h1.2
        have := h1.1
        omega)
      rw [List.length_erase_of_mem hm] at this
      omega
    · have := ih r hn (fun x hx => by have := h x hx; have : x ≠ n := fun e => hm (e ▸ hx); omega)
      omega
theorem Li.size_le {w : World} {R g1 g2 n : Nat} {L : List (List Nat)} {f : Nat → Lnk} {s : Nat → Nat} (h : Li w R g1 g2 n L f s) {k : Nat} {r : List Nat} (hk : L[k]? = some r) : r.length ≤ 1024 :=
  Nat.le_trans (row_le (n := n) n r (h.ok.nd k r hk) (h.ok.lt k r hk)) h.st.hn

theorem len_set {L : List (List Nat)} {s : Nat → Nat} {k z : Nat} {r r' : List Nat} (hk : L[k]? = some r) (hs : ∀ (k : Nat) (r : List Nat), L[k]? = some r → s k = r.length) (hz : z = r'.length) : ∀ (j : Nat) (t : List Nat), (L.set k r')[j]? = some t → setSize s k z j = t.length := by
  intro j t hj
  unfold setSize
  rcases (get_set hk).1 hj with ⟨rfl, rfl⟩ | ⟨hne, hj⟩
  · rw [if_pos rfl]; exact hz
  · rw [if_neg hne]; exact hs j t hj

section
variable {w : World} {R g1 g2 n : Nat} {L : List (List Nat)}
theorem remove_yes (h : Rows w R g1 g2 n L) (a k : Nat) (u v : List Nat) (hk : L[k]? = some (u ++ a :: v)) :
    Calls Try.prog 12 #[.pointer (some ⟨R, 0, none⟩), .int .i64 (a : Int)] w (Moved w R g1 g2 n (rm L a) (.bool true)) := by
  obtain ⟨f, s, h⟩ := h
  have hkl := (List.getElem?_eq_some_iff.1 hk).1
  obtain ⟨p, q, hp, hq, pa, qa, ap, aq, ak, hO, hF⟩ := fit_cut h.ok h.fit hk
  have hz : s k = (u ++ v).length + 1 := by rw [h.len k _ hk]; simp; omega
  have hz2 := h.size_le hk
  refine (remove_raw h.st a p q k (u ++ v).length (h.ok.lt k _ hk a (by simp)) hp hq hkl pa qa ap aq ak hz (by simp at hz2 ⊢; omega)).mono ?_
  rintro e w' ⟨rfl, st, tu⟩
  rw [rm_set h.ok hk]
  exact ⟨rfl, ⟨_, _, by rw [List.length_set]; exact st, hO, hF, len_set hk h.len rfl⟩, tu⟩
theorem remove_no (h : Rows w R g1 g2 n L) (i : Int) (hno : ∀ (k : Nat) (r : List Nat), L[k]? = some r → ∀ x ∈ r, (x : Int) ≠ i) :
    Calls Try.prog 12 #[.pointer (some ⟨R, 0, none⟩), .int .i64 i] w (Moved w R g1 g2 n L (.bool false)) := by
  obtain ⟨f, s, h⟩ := h
  by_cases h0 : 0 ≤ i ∧ i < (n : Int)
  · obtain ⟨a, rfl⟩ := Int.eq_ofNat_of_zero_le h0.1
    have ha : a < n := by omega
    have hfr := h.fit.free a ha (fun k r hk hx => hno k r hk a hx rfl)
    refine (remove_free h.st a ha (by rw [hfr])).mono ?_
    rintro e w' ⟨rfl, st, tu⟩
    exact ⟨rfl, ⟨f, s, st, h.ok, h.fit, h.len⟩, tu⟩
  · refine (remove_out h.st i h0).mono ?_
    rintro e w' ⟨rfl, st, tu⟩
    exact ⟨rfl, ⟨f, s, st, h.ok, h.fit, h.len⟩, tu⟩
theorem remove_rm (h : Rows w R g1 g2 n L) (a : Nat) :
    Calls Try.prog 12 #[.pointer (some ⟨R, 0, none⟩), .int .i64 (a : Int)] w fun e w' => ∃ b, Moved w R g1 g2 n (rm L a) (.bool b) e w' := by
  rcases where_is L a with ⟨k, u, v, hk⟩ | hno
  · exact (remove_yes h a k u v hk).mono fun e w' hm => ⟨true, hm⟩
  · refine (remove_no h (a : Int) (fun k r hk x hx e => hno k r hk (by have : x = a := by omega
                                                                       exact this ▸ hx))).mono fun e w' hm => ⟨false, ?_⟩
    rw [rm_none hno]
    exact hm

/-- what stands in memory behind putBehind -/
theorem put_any {f : Nat → Lnk} {s : Nat → Nat} (h : Li w R g1 g2 n L f s) (k a p q : Nat) (u v u' v' : List Nat) (hk : L[k]? = some (u ++ v)) (ha : a < n) (hfr : ∀ (j : Nat) (t : List Nat), L[j]? = some t → a ∉ t)
    (e1 : (n + k) :: u = u' ++ [p]) (e2 : v ++ [n + k] = q :: v') :
    Calls Try.prog 27 #[.pointer (some ⟨R, 0, none⟩), .int .i64 (p : Int), .int .i64 (a : Int)] w (Moved w R g1 g2 n (L.set k (u ++ a :: v)) (.tuple #[])) := by
  obtain ⟨hp, hq, pa, qa, pq, pk, hO, hF⟩ := fit_put h.ok h.fit hk ha hfr e1 e2
  have hkl := (List.getElem?_eq_some_iff.1 hk).1
  have hz2 := h.size_le hk
  have hz := h.len k _ hk
  refine (putBehind_any h.st p a q k (u ++ v).length hp (by omega) hq hkl pa qa pq pk hz (by omega)).mono ?_
  rintro e w' ⟨rfl, st, tu⟩
  exact ⟨rfl, ⟨_, _, by rw [List.length_set]; exact st, hO, hF, len_set hk h.len (by simp; omega)⟩, tu⟩

theorem push_no (h : Rows w R g1 g2 n L) (k a : Int) (h0 : ¬ ((0 ≤ k ∧ k < (L.length : Int)) ∧ (0 ≤ a ∧ a < (n : Int)))) :
    Calls Try.prog 8 #[.pointer (some ⟨R, 0, none⟩), .int .i64 k, .int .i64 a] w (Moved w R g1 g2 n L (.bool false)) := by
  have H := Lib.hid h
  obtain ⟨f, s, h⟩ := h
  have HS := Lib.hid h.st
  have H0 := Lib.hid h0
  clear h h0
  by_cases hk : 0 ≤ k ∧ k < (L.length : Int)
  · have HA : Hid (¬ (0 ≤ a ∧ a < (n : Int))) := fun x => H0.out ⟨hk, x⟩
    obtain ⟨k0, k1⟩ := hk
    go_enter Try.func8, Try.ntmps8
    go_wp2_with fail
    refine (hasList_yes HS.out _ k0 k1).mono ?_; rintro e w' ⟨rfl, rfl⟩
    go_wp2_with fail
    refine (hasNode_no HS.out _ HA.out).mono ?_; rintro e w' ⟨rfl, rfl⟩
    go_wp2
    go_ret
    exact ⟨rfl, H.out, Turn2.refl _ _ _⟩
  · have HK := Lib.hid hk
    clear hk
    go_enter Try.func8, Try.ntmps8
    go_wp2_with fail
    refine (hasList_no HS.out _ HK.out).mono ?_; rintro e w' ⟨rfl, rfl⟩
    go_wp2
    go_ret
    exact ⟨rfl, H.out, Turn2.refl _ _ _⟩
theorem push_nil (k a : Int) (w : World) : Calls Try.prog 8 #[.pointer none, .int .i64 k, .int .i64 a] w fun e w' => e = .returned (.bool false) ∧ w = w' := by
  go_enter Try.func8, Try.ntmps8
  go_wp2_with fail
  refine (hasList_nil _ _).mono ?_; rintro e w' ⟨rfl, rfl⟩
  go_wp2
  go_ret
  exact ⟨rfl, rfl⟩
theorem push_yes (h : Rows w R g1 g2 n L) (k a : Nat) (hk : k < L.length) (ha : a < n) :
    Calls Try.prog 8 #[.pointer (some ⟨R, 0, none⟩), .int .i64 (k : Int), .int .i64 (a : Int)] w (Moved w R g1 g2 n (push L k a) (.bool true)) := by
  have H := Lib.hid h
  obtain ⟨f, s, h⟩ := h
  have hm := h.st.hm
  have HS := Lib.hid h.st
  clear h
  go_enter Try.func8, Try.ntmps8
  go_wp2_with fail
  refine (hasList_yes HS.out _ (by omega) (by omega)).mono ?_; rintro e w' ⟨rfl, rfl⟩
  go_wp2_with fail
  refine (hasNode_yes HS.out _ (by omega) (by omega)).mono ?_; rintro e w' ⟨rfl, rfl⟩
  go_wp2_with fail
  refine (remove_rm H.out a).mono ?_; rintro e w1 ⟨b, rfl, r1, t1⟩
  obtain ⟨f1, s1, l1⟩ := r1
  obtain ⟨q, v', e2, _⟩ := first_of (rowOf (rm L a) k) (n + k)
  have R1 := Lib.hid l1
  have T1 := Lib.hid t1
  have E2 := Lib.hid e2
  clear l1 t1 e2
  go_wp2_with fail
  refine (head_any R1.out.st k (by omega) (n + k) rfl).mono ?_; rintro e w' ⟨rfl, rfl⟩
  go_wp2_with fail
  refine (put_any R1.out k a (n + k) q [] (rowOf (rm L a) k) [] v' (rowOf_at (by rw [rm_len]; exact hk)) ha rm_not rfl E2.out).mono ?_; rintro e w2 ⟨rfl, r2, t2⟩
  have M2 : Hid (Moved w R g1 g2 n (push L k a) (.bool true) (.returned (.bool true)) w2) := ⟨rfl, r2, T1.out.trans t2⟩
  clear r2 t2
  go_wp2
  go_ret
  exact M2.out
theorem append_no (h : Rows w R g1 g2 n L) (k a : Int) (h0 : ¬ ((0 ≤ k ∧ k < (L.length : Int)) ∧ (0 ≤ a ∧ a < (n : Int)))) :
    Calls Try.prog 10 #[.pointer (some ⟨R, 0, none⟩), .int .i64 k, .int .i64 a] w (Moved w R g1 g2 n L (.bool false)) := by
  have H := Lib.hid h
  obtain ⟨f, s, h⟩ := h
  have HS := Lib.hid h.st
  have H0 := Lib.hid h0
  clear h h0
  by_cases hk : 0 ≤ k ∧ k < (L.length : Int)
  · have HA : Hid (¬ (0 ≤ a ∧ a < (n : Int))) := fun x => H0.out ⟨hk, x⟩
    obtain ⟨k0, k1⟩ := hk
    go_enter Try.func10, Try.ntmps10
    go_wp2_with fail
    refine (hasList_yes HS.out _ k0 k1).mono ?_; rintro e w' ⟨rfl, rfl⟩
    go_wp2_with fail
    refine (hasNode_no HS.out _ HA.out).mono ?_; rintro e w' ⟨rfl, rfl⟩
    go_wp2
    go_ret
    exact ⟨rfl, H.out, Turn2.refl _ _ _⟩
  · have HK := Lib.hid hk
    clear hk
    go_enter Try.func10, Try.ntmps10
    go_wp2_with fail
    refine (hasList_no HS.out _ HK.out).mono ?_; rintro e w' ⟨rfl, rfl⟩
    go_wp2
    go_ret
    exact ⟨rfl, H.out, Turn2.refl _ _ _⟩
theorem below_of_drew' {a b : World} (h : Below a.drew.heap.size a.drew b) : Below a.heap.size a b := ⟨h.os, h.tape, h.output, h.size, h.block⟩
theorem turn_of_dn {a b : World} {n g1 g2 : Nat} (h : Turn2 (a.drewN n) b g1 g2) : Turn2 a b g1 g2 := (Turn2.dn a n g1 g2).trans h
set_option maxHeartbeats 2000000 in
theorem append_yes (h : Rows w R g1 g2 n L) (k a : Nat) (hk : k < L.length) (ha : a < n) :
    Calls Try.prog 10 #[.pointer (some ⟨R, 0, none⟩), .int .i64 (k : Int), .int .i64 (a : Int)] w (Moved w R g1 g2 n (app L k a) (.bool true)) := by
  have H := Lib.hid h
  obtain ⟨f, s, h⟩ := h
  have hm := h.st.hm
  have hn := h.st.hn
  have HS := Lib.hid h.st
  clear h
  go_enter Try.func10, Try.ntmps10
  go_wp2_with fail
  refine (hasList_yes HS.out _ (by omega) (by omega)).mono ?_; rintro e w' ⟨rfl, rfl⟩
  go_wp2_with fail
  refine (hasNode_yes HS.out _ (by omega) (by omega)).mono ?_; rintro e w' ⟨rfl, rfl⟩
  go_wp2_with fail
  refine (remove_rm H.out a).mono ?_; rintro e w1 ⟨b, rfl, r1, t1⟩
  obtain ⟨f1, s1, l1⟩ := r1
  obtain ⟨u', p, e1, _⟩ := last_of (n + k) (rowOf (rm L a) k)
  have hrow : (rm L a)[k]? = some (rowOf (rm L a) k ++ []) := by rw [List.append_nil]; exact rowOf_at (by rw [rm_len]; exact hk)
  have hprev : (f1 (n + k)).prev = p := head_prev e1 (l1.fit.ring k _ (by rw [List.append_nil] at hrow; exact hrow))
  obtain ⟨N, hN⟩ : ∃ N, n + (rm L a).length = N := ⟨_, rfl⟩
  obtain ⟨hh, hhe⟩ : ∃ hh, n + k = hh := ⟨_, rfl⟩
  have st1 := l1.st
  rw [hN] at st1
  rw [rm_len] at hN
  have hhN : hh < N := by omega
  obtain ⟨c0, c1, c2⟩ := st1.cells
  rw [hhe] at hprev
  have c3 := st1.prev hhN
  rw [hprev] at c3
  have hi0 : (0 : Int) ≤ (hh : Int) := by omega
  have hi1 : (hh : Int) < (N : Int) := by omega
  have ROW := Lib.hid hrow
  have ST1 := Lib.hid st1
  have R1 := Lib.hid l1
  have T1 := Lib.hid t1
  have E1 := Lib.hid e1
  have HH := Lib.hid hhe
  clear st1 l1 t1 e1 hhe hrow c0 c2 hN hprev
  go_wp2_with fail
  go_region_with (first | (go_at_call 24; refine (head_any (St.below ST1.out (Below.refl _ _).drew) k (by omega) hh HH.out).mono ?_; rintro e w' ⟨rfl, rfl⟩) | (go_at_call 27; refine (put_any ⟨R1.out.st.below (Below.refl _ _).drew, R1.out.ok, R1.out.fit, R1.out.len⟩ k a p (n + k) (rowOf (rm L a) k) [] u' [] ROW.out ha rm_not E1.out rfl).mono ?_; rintro e w2 ⟨rfl, r2, t2⟩; have M2 : Hid (Moved w R g1 g2 n (app L k a) (.bool true) (.returned (.bool true)) w2) := ⟨rfl, r2, T1.out.trans (turn_of_dn (n := 1) t2)⟩; clear r2 t2))
  all_goals go_wp2
  all_goals go_ret
  all_goals exact M2.out
end
end Go.Proofs.Ytngfhcapjonkcaa.W
