/-
  Contracts of walk (a range over a function) and All. No conditions.
-/
import Derived.Test.YtngfhcapjonkcaaLsNew
import Derived.RangeFuncNested
import Derived.RangeFuncBound
import Derived.RangeFuncCalls
import Derived.RangeFuncLeaves
import Derived.RangeFuncBox
import Derived.Shelf.Abstract
import Derived.Shelf.RegionOpen
import Derived.WalkKit
import Derived.OwnWalkIn
import Derived.TacticsInMore
import Derived.LoopNIn
import Derived.LoopIn
import Derived.Maps.AppendAt
namespace Go.Proofs.Ytngfhcapjonkcaa.W
open Go.RowKit Go.Shelf Rw Ls
set_option linter.unusedVariables false
attribute [local go_sem] Oper.semAt_some

/-- five blocks are as they were -/
structure Keep (a b c d e : Nat) (W W' : World) : Prop where
  h1 : W'.heap[a]? = W.heap[a]?
  h2 : W'.heap[b]? = W.heap[b]?
  h3 : W'.heap[c]? = W.heap[c]?
  h4 : W'.heap[d]? = W.heap[d]?
  h5 : W'.heap[e]? = W.heap[e]?
theorem Keep.refl (a b c d e : Nat) (W : World) : Keep a b c d e W W := ⟨rfl, rfl, rfl, rfl, rfl⟩
theorem Keep.trans {a b c d e : Nat} {A B C : World} (h : Keep a b c d e A B) (k : Keep a b c d e B C) : Keep a b c d e A C := ⟨k.h1.trans h.h1, k.h2.trans h.h2, k.h3.trans h.h3, k.h4.trans h.h4, k.h5.trans h.h5⟩
theorem Keep.put {a b c d e : Nat} {w : World} (ha : a < w.heap.size) (hb : b < w.heap.size) (hc : c < w.heap.size) (hd : d < w.heap.size) (he : e < w.heap.size) (W : World) (l : Nat) (o o' : Obj) (hl : w.heap.size ≤ l) (h : W.heap[l]? = some o) (_ : o.isCells = false) (_ : o.isWalk = false) : Keep a b c d e W (W.putObj l o') := by
  have key : ∀ i, i < w.heap.size → (W.putObj l o').heap[i]? = W.heap[i]? := fun i hi => (grownBy_putObj' W l o').block i (by have := (Array.getElem?_eq_some_iff.1 h).1; omega) (fun e => by injection e with e; omega)
  exact ⟨key a ha, key b hb, key c hc, key d hd, key e he⟩

theorem idx_mid {x : Nat} : ∀ (pre rest : List Nat), (pre ++ x :: rest).Nodup → (pre ++ x :: rest).idxOf x = pre.length
  | [], rest, _ => by simp
  | a :: pre, rest, h => by
    rw [List.cons_append, List.nodup_cons] at h
    have hne : a ≠ x := fun e => h.1 (by rw [e]; simp)
    have hb : (a == x) = false := by simpa using hne
    rw [List.cons_append, List.idxOf_cons, hb, cond_false, idx_mid pre rest h.2]
    rfl

set_option maxRecDepth 100000 in
set_option maxHeartbeats 2000000 in
theorem walk1_in (n : Nat) (hn : 1 ≤ n) (l Bx Bl R g1 g2 nn m N k hd : Nat) (f : Nat → Lnk) (s : Nat → Nat) (r : List Nat) (J Jx : List Nat → World → Prop)
    (hY : ∀ (pre : List Nat) (x : Nat) (W : World), J pre W → pre.length < r.length → YieldAt Fence.wide (n - 1) Try.prog l #[.int .i64 (x : Int)] W fun e W' =>
      (e = .returned (.bool true) ∧ J (pre ++ [x]) W' ∧ Keep R g1 g2 Bx Bl W W') ∨ (e = .returned (.bool false) ∧ Jx (pre ++ [x]) W'))
    (W : World) (hBx : W.cell? ⟨Bx, 0, none⟩ = some (.pointer (some ⟨R, 0, none⟩))) (hBl : W.cell? ⟨Bl, 0, none⟩ = some (.int .i64 (k : Int))) (hS : St W R g1 g2 nn m N f s) (hk : k < m) (hh : nn + k = hd)
    (hring : Lk f (hd :: r ++ [hd])) (hnd : (hd :: r).Nodup) (hlt : ∀ x ∈ r, x < N) (h0 : J [] W) :
    CallsIn Fence.wide n Try.prog 34 #[.func (.yield l) #[] #[], .pointer (some ⟨Bx, 0, none⟩), .pointer (some ⟨Bl, 0, none⟩)] W fun e W' => (∃ v, e = .returned v) ∧
      ((∃ ys, ys = r ∧ J ys W') ∨ (∃ pre, pre <+: r ∧ Jx pre W')) := by
  have hndr : (r ++ [hd]).Nodup := by
    rw [List.nodup_cons] at hnd
    rw [List.nodup_append]
    exact ⟨hnd.2, by simp, fun x hx y hy e => by simp at hy; subst hy; exact hnd.1 (e ▸ hx)⟩
  have hhN : hd < N := by have := hS.sum; omega
  have hm := hS.hm
  have hnn := hS.hn
  have hsum := hS.sum
  obtain ⟨x0, v0, e0, _⟩ := first_of r hd
  have hx0 : (f hd).next = x0 := head_next e0 hring
  have hx0N : x0 < N := by
    have : x0 ∈ r ++ [hd] := by rw [e0]; simp
    rcases List.mem_append.1 this with h | h
    · exact hlt _ h
    · simp at h; omega
  obtain ⟨c0, c1, c2⟩ := hS.cells
  have c3 := hS.next hhN
  rw [hx0] at c3
  have HS := Lib.hid hS
  have HH := Lib.hid hh
  have HRING := Lib.hid hring
  have HND := Lib.hid hndr
  have HLT := Lib.hid hlt
  have HY := Lib.hid hY
  have E0 := Lib.hid e0
  have hi0 : (0 : Int) ≤ (hd : Int) := by omega
  have hi1 : (hd : Int) < (N : Int) := by omega
  clear c0 c2 hS hh hring hndr hnd hlt hY e0 hx0 hsum
  refine callsIn_of_wp Try.func34 rfl trivial ?_ rfl
  simp only [Try.ntmps34, List.size_toArray, List.length_cons, List.length_nil, Nat.reduceAdd, Nat.reduceSub, Array.replicate_succ, Array.replicate_zero, List.push_toArray, List.append_toArray, List.nil_append, List.cons_append]
  gi_wp2_with (refine ⟨trivial, ?_⟩; gi_at_call 24; refine (callsIn_wide.2 (head_any HS.out k (by omega) hd HH.out)).mono ?_; rintro e w' ⟨rfl, rfl⟩)
  gi_loopw [5] (fun q wr => ∃ (pre rest : List Nat) (x : Nat), q = .int .i64 (x : Int) ∧ x < N ∧ Hid (r ++ [hd] = pre ++ x :: rest) ∧ J pre wr ∧ Hid (Keep R g1 g2 Bx Bl W wr)) (fun q _ => (r ++ [hd]).length - (r ++ [hd]).idxOf (intOf q).toNat)
  case atStart => exact ⟨[], v0, x0, rfl, hx0N, E0, h0, Keep.refl _ _ _ _ _ _⟩
  case round =>
    obtain ⟨pre, rest, x, rfl, hxN, E, hJs, KP⟩ := hrel
    cases rest with
    | nil =>
      have e1 : r ++ [hd] = pre ++ [x] := E.out
      obtain ⟨rfl, e2⟩ := List.append_inj' e1 rfl
      obtain rfl : hd = x := by simpa using e2
      clear e1 e2
      gi_wp2
      go_end0
      exact ⟨⟨_, rfl⟩, .inl hJs⟩
    | cons y t =>
      have hyt : r = pre ++ x :: (y :: t).dropLast := by
        have := congrArg List.dropLast E.out
        rw [List.dropLast_concat] at this
        rw [this, List.dropLast_append_of_ne_nil (by simp), List.dropLast_cons_cons]
      have hxh : x ≠ hd := by
        intro e
        have hd1 := HND.out
        rw [List.nodup_append] at hd1
        exact hd1.2.2 x (by rw [hyt]; simp) hd (by simp) e
      have hxh' : ((x : Int) != (hd : Int)) = true := by simp; omega
      have hxy : (f x).next = y := by
        have h2 : hd :: r ++ [hd] = (hd :: pre) ++ x :: y :: t := by rw [List.cons_append, E.out]; rfl
        have := HRING.out
        rw [h2] at this
        exact (Lk.mid (hd :: pre) t this).1
      have hyN : y < N := by
        have : y ∈ r ++ [hd] := by rw [E.out]; simp
        rcases List.mem_append.1 this with h | h
        · exact HLT.out _ h
        · simp at h; omega
      obtain ⟨fn, tmps, assign, body, hy, hR⟩ := HY.out pre x wr hJs (by rw [hyt]; simp)
      have PRE : Hid (pre ++ [x] <+: r) := ⟨(y :: t).dropLast, by rw [List.append_assoc]; exact hyt.symm⟩
      have IX : Hid ((r ++ [hd]).idxOf x = pre.length) := by show _ = _; rw [E.out]; exact idx_mid pre _ (E.out ▸ HND.out)
      have E2 : Hid (r ++ [hd] = (pre ++ [x]) ++ y :: t) := by show _ = _; rw [E.out]; simp
      have IY : Hid ((r ++ [hd]).idxOf y = (pre ++ [x]).length) := by show _ = _; rw [E2.out]; exact idx_mid _ _ (E2.out ▸ HND.out)
      have HXY := Lib.hid hxy
      clear hyt hxh hxy
      gi_wp2
      refine hR.mono ?_
      rintro e W3 (⟨rfl, hJ3, hk3⟩ | ⟨rfl, hJx3⟩)
      · have K3 := Lib.hid (KP.out.trans hk3)
        have s3 := HS.out.blocks K3.out.h1 K3.out.h2 K3.out.h3
        obtain ⟨d0, d1, d2⟩ := s3.cells
        have d3 := s3.next hxN
        rw [HXY.out] at d3
        have d4 : W3.cell? ⟨Bx, 0, none⟩ = some (.pointer (some ⟨R, 0, none⟩)) := (World.cell?_of_block (a := ⟨Bx, 0, none⟩) K3.out.h4).trans hBx
        clear s3 d0 d2
        gi_wp2
        go_roundw
        case rel => exact ⟨pre ++ [x], t, y, rfl, hyN, E2, hJ3, K3⟩
        case measure =>
          have h1 := IX.out
          have h2 := IY.out
          have h3 : (r ++ [hd]).length = (pre ++ [x]).length + (t.length + 1) := by rw [E2.out]; simp; omega
          simp only [intOf, Int.toNat_natCast]
          rw [h1, h2, h3]
          simp
          omega
      · gi_wp2
        refine bodyPost_ret (results_none rfl _ _ _) rfl ?_
        exact ⟨⟨_, rfl⟩, .inr ⟨pre ++ [x], PRE.out, hJx3⟩⟩

set_option maxHeartbeats 1000000 in
theorem walk_in (n : Nat) (R k : Nat) (w : World) :
    CallsIn Fence.wide n Try.prog 32 #[.pointer (some ⟨R, 0, none⟩), .int .i64 (k : Int)] w fun e w' => e = .returned (.func (.func 34) #[] #[.pointer (some ⟨w.heap.size, 0, none⟩), .pointer (some ⟨w.heap.size + 1, 0, none⟩)]) ∧ w' = (w.alloc (.cells #[.pointer (some ⟨R, 0, none⟩)] 23)).alloc (.cells #[.int .i64 (k : Int)] 3) := by
  refine callsIn_of_wp Try.func32 rfl trivial ?_ rfl
  simp only [Try.ntmps32, List.size_toArray, List.length_cons, List.length_nil, Nat.reduceAdd, Nat.reduceSub, Array.replicate_succ, Array.replicate_zero, List.push_toArray, List.append_toArray, List.nil_append, List.cons_append]
  gi_wp2
  go_ret
  exact ⟨rfl, rfl⟩

theorem walk_stops (n : Nat) (hn : 1 ≤ n) (Bx Bl R g1 g2 nn m N k hd : Nat) (f : Nat → Lnk) (s : Nat → Nat) (r : List Nat) (w : World) (hx : Bx < w.heap.size) (hl : Bl < w.heap.size)
    (hBx : w.cell? ⟨Bx, 0, none⟩ = some (.pointer (some ⟨R, 0, none⟩))) (hBl : w.cell? ⟨Bl, 0, none⟩ = some (.int .i64 (k : Int))) (hS : St w R g1 g2 nn m N f s) (hk : k < m) (hh : nn + k = hd)
    (hring : Lk f (hd :: r ++ [hd])) (hnd : (hd :: r).Nodup) (hlt : ∀ x ∈ r, x < N) :
    SeqStopsK Fence.wide n Try.prog 34 #[.pointer (some ⟨Bx, 0, none⟩), .pointer (some ⟨Bl, 0, none⟩)] (fun x : Nat => #[Value.int .i64 (x : Int)]) (Keep R g1 g2 Bx Bl) (fun ys => ys = r) (fun pre => pre <+: r) r.length w := fun l J Jx W hW _ _ hY h0 =>
  walk1_in n hn l Bx Bl R g1 g2 nn m N k hd f s r J Jx hY W ((hW.cell (p := ⟨Bx, 0, none⟩) hx).trans hBx) ((hW.cell (p := ⟨Bl, 0, none⟩) hl).trans hBl) (hS.below hW) hk hh hring hnd hlt h0

/-- numbers as cells -/
def nv (xs : List Nat) : List Value := xs.map fun k : Nat => Value.int .i64 (k : Int)
theorem nv_len (xs : List Nat) : (nv xs).length = xs.length := List.length_map ..
theorem nv_snoc (xs : List Nat) (k : Nat) : nv (xs ++ [k]) = nv xs ++ [Value.int .i64 (k : Int)] := by simp [nv]
/-- what a call leaves that hands back new numbers -/
def MadeV (w : World) (vs : List Value) (e : Ending) (w' : World) : Prop := ∃ v, e = .returned v ∧ OwnV w' 3 w.heap.size v vs ∧ Below w.heap.size w w'
theorem make_room (c : Nat) (hc : c ≤ 5000) (w : World) : (Instr.makeSlice 37 (.int .i64 0) (.int .i64 (c : Int))).run Try.prog w = .ok (.slice (some ⟨w.heap.size, 0, none⟩) 0 c) (w.alloc (.cells (szArr c) 3)) := by
  obtain ⟨i, hi, hz0, hz1, hz2⟩ := info_parts int_info
  have := run_make (P := Try.prog) w 37 3 i _ Try.underlying37 hi hz0 .i64 .i64 (0 : Int) (c : Int) (by omega) (by omega) (by rw [hz2]; omega) (by omega)
  rw [Int.toNat_natCast, hz1, Nat.mul_one] at this
  exact this

theorem all_nil (k : Int) (w : World) : Calls Try.prog 20 #[.pointer none, .int .i64 k] w (MadeV w []) := by
  go_enter Try.func20, Try.ntmps20
  go_wp2_with fail
  refine (hasList_nil _ _).mono ?_; rintro e w' ⟨rfl, rfl⟩
  go_wp2
  go_ret
  exact ⟨_, rfl, OwnV.nil _ _ _, Below.refl _ _⟩
theorem all_out {w : World} {R g1 g2 n m N : Nat} {f : Nat → Lnk} {s : Nat → Nat} (h : St w R g1 g2 n m N f s) (k : Int) (h0 : ¬ (0 ≤ k ∧ k < (m : Int))) :
    Calls Try.prog 20 #[.pointer (some ⟨R, 0, none⟩), .int .i64 k] w (MadeV w []) := by
  have H := Lib.hid h
  have H0 := Lib.hid h0
  clear h h0
  go_enter Try.func20, Try.ntmps20
  go_wp2_with fail
  refine (hasList_no H.out _ H0.out).mono ?_; rintro e w' ⟨rfl, rfl⟩
  go_wp2
  go_ret
  exact ⟨_, rfl, OwnV.nil _ _ _, Below.refl _ _⟩

/-- what holds between two rounds: the box holds the row's beginning -/
def Got (w : World) (c : Nat) (pre : List Nat) (W : World) : Prop :=
  (Boxed W (w.heap.size + 1) 37 (.slice (some ⟨w.heap.size, 0, none⟩) pre.length c) ∧ W.ownsRow w.heap.size 3 1 (.slice (some ⟨w.heap.size, 0, none⟩) pre.length c) pre.length (nv pre)) ∧ (Below w.heap.size w W ∧ w.heap.size + 4 ≤ W.heap.size)
theorem got_own (w : World) (c B : Nat) (hB : w.heap.size ≤ B) : OwnFrom B (Got w c) := by
  refine OwnFrom.and (Own.from ?_ _) (OwnFrom.and (ownFrom_below (Nat.le_refl _) hB) (fun s X Y row hs hg _ => Nat.le_trans hs hg.size))
  rintro pre X Y row ⟨hv, hr⟩ hg hrow
  refine ⟨hv.kept hg (fun e' => ?_), hr.kept hg (.inr fun e' => ?_)⟩
  · obtain ⟨o, ho, hc⟩ := hrow _ e'.symm
    rw [show X.heap[w.heap.size + 1]? = _ from hv] at ho; cases ho; cases hc
  · rcases hr.2 with ⟨h, _⟩ | ⟨g, cap, cur, h, _, hgb, _⟩
    · cases h
    · injection h with h1 _ h2
      injection h1 with h1
      injection h1 with h1
      subst h1
      obtain ⟨o, ho, hc⟩ := hrow _ (by simpa [Value.ownBlock] using e'.symm)
      rw [hgb] at ho; cases ho; cases hc
/-- the worlds that All's walk meets -/
def allW (w : World) (c R k : Nat) : World :=
  (((w.alloc (.cells (szArr c) 3)).alloc (.cells #[.slice (some ⟨w.heap.size, 0, none⟩) 0 c] 37)).alloc (.cells #[.pointer (some ⟨R, 0, none⟩)] 23)).alloc (.cells #[.int .i64 (k : Int)] 3)
theorem allW_size (w : World) (c R k : Nat) : (allW w c R k).heap.size = w.heap.size + 4 := by simp [allW]
theorem allW_below (w : World) (c R k : Nat) : Below w.heap.size w (allW w c R k) := ((((Below.refl _ w).alloc (Nat.le_refl _) _).alloc (by simp) _).alloc (by simp; omega) _).alloc (by simp; omega) _
theorem allW_got (w : World) (c R k : Nat) (hc : c ≤ 5000) : Got w c [] (allW w c R k) := by
  refine ⟨⟨?_, ?_⟩, allW_below w c R k, by rw [allW_size]; exact Nat.le_refl _⟩
  · have := Boxed.new (w.alloc (.cells (szArr c) 3)) 37 (.slice (some ⟨w.heap.size, 0, none⟩) 0 c)
    rw [World.size_alloc] at this
    exact (this.alloc _).alloc _
  · exact (((World.ownsRow_made (base := w.heap.size) (e := 3) (size := 1) w (szArr c) c (Nat.le_refl _) (by unfold maxLen; omega) (by rw [sz_size, Nat.mul_one])).alloc _).alloc _).alloc _
theorem allW_x (w : World) (c R k : Nat) : (allW w c R k).cell? ⟨w.heap.size + 2, 0, none⟩ = some (.pointer (some ⟨R, 0, none⟩)) := by
  have := Boxed.new ((w.alloc (.cells (szArr c) 3)).alloc (.cells #[.slice (some ⟨w.heap.size, 0, none⟩) 0 c] 37)) 23 (.pointer (some ⟨R, 0, none⟩))
  rw [World.size_alloc, World.size_alloc] at this
  exact (this.alloc _).cell
theorem allW_l (w : World) (c R k : Nat) : (allW w c R k).cell? ⟨w.heap.size + 3, 0, none⟩ = some (.int .i64 (k : Int)) := by
  have := Boxed.new (((w.alloc (.cells (szArr c) 3)).alloc (.cells #[.slice (some ⟨w.heap.size, 0, none⟩) 0 c] 37)).alloc (.cells #[.pointer (some ⟨R, 0, none⟩)] 23)) 3 (.int .i64 (k : Int))
  rw [World.size_alloc, World.size_alloc, World.size_alloc] at this
  exact this.cell

/-- one number more -/
theorem got_next {w W w1 : World} {c x : Nat} {pre : List Nat} {R g1 g2 : Nat} {tmp : Obj} (h : Got w c pre W) (hR : R < w.heap.size) (h1 : g1 < w.heap.size) (h2 : g2 < w.heap.size)
    (o : w1.ownsRow w.heap.size 3 1 (.slice (some ⟨w.heap.size, 0, none⟩) (pre.length + 1) c) (pre.length + 1) (nv pre ++ [.int .i64 (x : Int)])) (g : (W.alloc tmp).grownBy w1 (some w.heap.size)) :
    Boxed w1 (w.heap.size + 1) 37 (.slice (some ⟨w.heap.size, 0, none⟩) pre.length c) ∧
    KeepsFrom (w.heap.size + 4) W (w1.setCell ⟨w.heap.size + 1, 0, none⟩ (.slice (some ⟨w.heap.size, 0, none⟩) (pre.length + 1) c)) ∧
    Keep R g1 g2 (w.heap.size + 2) (w.heap.size + 3) W (w1.setCell ⟨w.heap.size + 1, 0, none⟩ (.slice (some ⟨w.heap.size, 0, none⟩) (pre.length + 1) c)) ∧
    Got w c (pre ++ [x]) (w1.setCell ⟨w.heap.size + 1, 0, none⟩ (.slice (some ⟨w.heap.size, 0, none⟩) (pre.length + 1) c)) := by
  obtain ⟨⟨hv, hr⟩, hB, hsz⟩ := h
  obtain ⟨b1, b2, b3, b4, b5⟩ := hv.appended (tmp := tmp) (by decide) hr hB.size (by omega) o g
  have key : ∀ i, i < W.heap.size → i ≠ w.heap.size → i ≠ w.heap.size + 1 → (w1.setCell ⟨w.heap.size + 1, 0, none⟩ (.slice (some ⟨w.heap.size, 0, none⟩) (pre.length + 1) c)).heap[i]? = W.heap[i]? := by
    intro i hi e1 e2
    rw [Below.heap_setCell _ _ _ _ e2, g.block i (by simp; omega) (fun e => by injection e with e; omega), Below.heap_alloc _ _ _ hi]
  refine ⟨b1, b4.from _, ⟨key _ (by omega) (by omega) (by omega), key _ (by omega) (by omega) (by omega), key _ (by omega) (by omega) (by omega), key _ (by omega) (by omega) (by omega), key _ (by omega) (by omega) (by omega)⟩, ⟨?_, ?_⟩, hB.trans b5, ?_⟩
  · rw [List.length_append]; exact b2
  · rw [nv_snoc, List.length_append]; exact b3
  · have := b5.size; omega

set_option maxRecDepth 100000 in
set_option maxHeartbeats 4000000 in
theorem all_in {w : World} {R g1 g2 nn m N : Nat} {f : Nat → Lnk} {s : Nat → Nat} (h : St w R g1 g2 nn m N f s) (k hd c : Nat) (r : List Nat) (hk : k < m) (hh : nn + k = hd) (hring : Lk f (hd :: r ++ [hd])) (hnd : (hd :: r).Nodup) (hlt : ∀ x ∈ r, x < N) (hs : s k = r.length) (hc : r.length = c) (hc2 : c ≤ 1024) :
    Calls Try.prog 20 #[.pointer (some ⟨R, 0, none⟩), .int .i64 (k : Int)] w (MadeV w (nv r)) := by
  refine (callsIn_wide (n := 6)).1 ?_
  obtain ⟨i0, hi, hz0, hz1, hz2⟩ := info_parts int_info
  obtain ⟨l0, l1, l2⟩ := h.lt
  have H := Lib.hid h
  have HH := Lib.hid hh
  have HRING := Lib.hid hring
  have HND := Lib.hid hnd
  have HLT := Lib.hid hlt
  have HSC := Lib.hid (hs.trans hc)
  have HC := Lib.hid hc
  have mk := make_room c (by omega)
  clear h hh hring hnd hlt hs hc
  refine callsIn_of_wp_marks Try.func20 rfl trivial ?_ rfl
  simp only [Try.ntmps20, List.size_toArray, List.length_cons, List.length_nil, Nat.reduceAdd, Nat.reduceSub, Array.replicate_succ, Array.replicate_zero, List.push_toArray, List.append_toArray, List.nil_append, List.cons_append]
  gi_wp2_with (first
    | (refine ⟨trivial, ?_⟩; gi_at_call 25; refine (callsIn_wide.2 (hasList_yes H.out _ (by omega) (by omega))).mono ?_; rintro e w' ⟨rfl, rfl⟩)
    | (refine ⟨trivial, ?_⟩; gi_at_call 19; refine (callsIn_wide.2 (len_yes H.out k hk c HSC.out)).mono ?_; rintro e w' ⟨rfl, rfl⟩)
    | (refine ⟨trivial, ?_⟩; gi_at_call 32; refine (walk_in _ R k _).mono ?_; rintro e w' ⟨rfl, rfl⟩))
  have ST : Hid (St (allW w c R k) R g1 g2 nn m N f s) := H.out.below (allW_below w c R k)
  have hx2 : w.heap.size + 2 < (allW w c R k).heap.size := by rw [allW_size]; omega
  have hx3 : w.heap.size + 3 < (allW w c R k).heap.size := by rw [allW_size]; omega
  have G0 := Lib.hid (allW_got w c R k (by omega))
  refine wpIn_rangeFunc_ownG (w := allW w c R k) rfl (by omega) (gf := 34) (lb := #[.pointer (some ⟨w.heap.size + 2, 0, none⟩), .pointer (some ⟨w.heap.size + 3, 0, none⟩)]) rfl trivial (enters_of Try.func34 (by kernel_rfl) rfl)
    (walk_stops _ (by omega) (w.heap.size + 2) (w.heap.size + 3) R g1 g2 nn m N k hd f s r (allW w c R k) hx2 hx3 (allW_x w c R k) (allW_l w c R k) ST.out hk HH.out HRING.out HND.out HLT.out) (fun {A B C} => Keep.trans) (Keep.put (by rw [allW_size]; omega) (by rw [allW_size]; omega) (by rw [allW_size]; omega) hx2 hx3) (Below.refl _ _) (fun _ => rfl)
    (Got w c) (fun _ _ _ => False) (got_own w c _ (by rw [allW_size]; omega)) (fun _ _ _ _ _ hs _ _ => hs) G0.out
    (fun x => { tmps := #[.pointer (some ⟨R, 0, none⟩), .int .i64 (k : Int), undef, undef, .slice none 0 0, .pointer (some ⟨w.heap.size + 1, 0, none⟩), .int .i64 (x : Int), .pointer (some ⟨R, 0, none⟩), .int .i64 (k : Int), .bool true, .bool false, .pointer (some ⟨R, 0, none⟩), .int .i64 (k : Int), .int .i64 (c : Int), .slice (some ⟨w.heap.size, 0, none⟩) 0 c, .pointer (some ⟨R, 0, none⟩), .int .i64 (k : Int), .func (.func 34) #[] #[.pointer (some ⟨w.heap.size + 1 + 1, 0, none⟩), .pointer (some ⟨w.heap.size + 1 + 1 + 1, 0, none⟩)], .int .i64 (x : Int), undef, undef, undef, undef, undef], defers := [] }) ?assign ?body ?done ?stop
  case assign =>
    intro l x W K hK
    gi_wp2
    exact hK
  case body =>
    rintro l pre x W hg hlen
    have hc := hg.1.1.cell
    have hrow := hg.1.2
    have hlen2 : pre.length < c := by rw [← HC.out]; exact hlen
    have G := Lib.hid hg
    clear hg
    gi_wp2_with (gi_at_builtin; refine wpListIn_append_fits _ rfl _ _ 37 rfl w.heap.size 3 i0 1 Try.underlying37 hi hz1 w.heap.size pre.length c (nv pre) rfl (hrow.alloc _) ⟨W.heap.size, 0, none⟩ 1 1 [.int .i64 (x : Int)] rfl rfl (cell_one_new _ _ _) (by simp [Value.oneCell']) (by omega) ?_; intro w1 hown' hgrow; obtain ⟨hb1, hk1, hk2, hg2⟩ := got_next G.out l0 l1 l2 hown' hgrow; have hc1 := hb1.cell; have hf1 := hb1.frozen)
    exact ⟨by rw [allW_size]; exact hk1, hk2, hg2⟩
  case done =>
    rintro D ys W hD rfl hg hK
    have hc := hg.1.1.cell
    have G := Lib.hid hg
    clear hg
    gi_wp2
    refine ⟨by simp, .inl ⟨_, _, rfl, run_takeDeferred hK, ?_⟩⟩
    refine ⟨_, results_tmp rfl _ _ _, _, rfl, ?_, G.out.2.1.trans (belowK_b (w := w) (Nat.le_refl _) W D _ _ (by rw [allW_size] at hD; omega) hK rfl rfl)⟩
    unfold OwnV
    rw [nv_len]
    exact ownsRow_putObj G.out.1.2 _ hK rfl
  case stop =>
    rintro D c pre W _ _ h _
    exact h.elim
end Go.Proofs.Ytngfhcapjonkcaa.W
