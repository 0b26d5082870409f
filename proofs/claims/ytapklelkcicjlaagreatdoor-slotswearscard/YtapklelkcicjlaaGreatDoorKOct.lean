/-
  Elder texts, one behind the other: OctNum, OctMem, OctRead, OctAt, OctPut, OctReader. No conditions.
-/
import Derived.Laws.BitsAllLaws
import Derived.WalkKit
import Derived.Below
import Derived.OwnWalk
import Derived.Laws.OwnMore
import Derived.Laws.IdiomStrings
import Derived.Laws.Rows
import Derived.Maps.AppendAt
import Derived.Deep.Draws
import Derived.RegionTactic
import Derived.Lib.Hide
import Derived.Test.YtapklelkcicjlaaGreatDoorProg
import Derived.IntWalk
/-! Plain facts on octets as numbers and as digits. No conditions. -/
namespace Go.Proofs.YtapklelkcicjlaaGreatDoor.Oc
set_option maxRecDepth 100000

/-- the number that octets tell, the lowest first -/
def num : List UInt8 → Nat
  | [] => 0
  | x :: xs => x.toNat + 256 * num xs

/-- a number's octets, so many -/
def octs (n : Nat) : Nat → List UInt8
  | 0 => []
  | k + 1 => UInt8.ofNat n :: octs (n / 256) k

theorem octs_length (n k : Nat) : (octs n k).length = k := by
  induction k generalizing n with
  | zero => rfl
  | succ k ih => simp [octs, ih]

theorem pow_step (k : Nat) : 256 ^ (k + 1) = 256 * 256 ^ k := by rw [Nat.pow_succ, Nat.mul_comm]

theorem octs_succ (n k : Nat) : octs n (k + 1) = octs n k ++ [UInt8.ofNat (n / 256 ^ k)] := by
  induction k generalizing n with
  | zero => simp [octs]
  | succ k ih =>
    show UInt8.ofNat n :: octs (n / 256) (k + 1) = (UInt8.ofNat n :: octs (n / 256) k) ++ _
    rw [ih, List.cons_append, Nat.div_div_eq_div_mul, pow_step]

theorem num_lt (xs : List UInt8) : num xs < 256 ^ xs.length := by
  induction xs with
  | nil => simp [num]
  | cons x xs ih =>
    have := x.toNat_lt
    simp only [num, List.length_cons, pow_step]
    omega

theorem num_snoc (xs : List UInt8) (x : UInt8) : num (xs ++ [x]) = num xs + x.toNat * 256 ^ xs.length := by
  induction xs with
  | nil => simp [num]
  | cons y xs ih =>
    simp only [List.cons_append, num, ih, List.length_cons, pow_step, Nat.mul_add]
    rw [Nat.mul_left_comm, Nat.add_assoc]

theorem num_octs (n k : Nat) : num (octs n k) = n % 256 ^ k := by
  induction k generalizing n with
  | zero => simp [octs, num, Nat.mod_one]
  | succ k ih =>
    simp only [octs, num, ih, pow_step]
    have h : (UInt8.ofNat n).toNat = n % 256 := by simp
    rw [h, Nat.mod_mul]

theorem num_cons (x : UInt8) (xs : List UInt8) : num (x :: xs) = x.toNat + 256 * num xs := rfl
theorem num_drop (xs : List UInt8) (k : Nat) (x : UInt8) (h : xs[k]? = some x) : num (xs.drop k) = x.toNat + 256 * num (xs.drop (k + 1)) := by
  obtain ⟨hk, hx⟩ := List.getElem?_eq_some_iff.1 h
  rw [List.drop_eq_getElem_cons hk, num_cons, hx]
theorem num_take (xs : List UInt8) (k : Nat) (x : UInt8) (h : xs[k]? = some x) : num (xs.take (k + 1)) = num (xs.take k) + x.toNat * 256 ^ k := by
  obtain ⟨hk, hx⟩ := List.getElem?_eq_some_iff.1 h
  rw [List.take_succ_eq_append_getElem hk, num_snoc, hx, List.length_take, Nat.min_eq_left (by omega)]
theorem pow8 (k : Nat) : 256 ^ k = 2 ^ (8 * k) := by rw [Nat.pow_mul]
theorem pow_le8 {k : Nat} (h : k ≤ 8) : 256 ^ k ≤ 18446744073709551616 := by
  have := Nat.pow_le_pow_right (n := 256) (by decide) h
  simpa using this
theorem num_lt8 (xs : List UInt8) (h : xs.length ≤ 8) : num xs < 18446744073709551616 := Nat.lt_of_lt_of_le (num_lt xs) (pow_le8 h)

/-- a number, and an octet above all its bits -/
theorem or_num (a x k : Nat) (ha : a < 256 ^ k) : a ||| (x * 256 ^ k) = a + x * 256 ^ k := by
  rw [Nat.or_comm, Nat.add_comm]
  rw [pow8] at ha ⊢
  exact nat_join (8 * k) _ _ (Nat.mul_mod_left _ _) ha
theorem shl_num (x : UInt8) (k : Nat) (h : k < 8) : x.toNat * 256 ^ k < 18446744073709551616 := by
  have h1 := x.toNat_lt
  have h2 : x.toNat * 256 ^ k < 256 * 256 ^ k := Nat.mul_lt_mul_of_pos_right h1 (Nat.pow_pos (by decide))
  have h3 := pow_le8 (k := k + 1) (by omega)
  rw [pow_step] at h3
  omega

/-- THE DIGITS -/
def hexd (k : Nat) : UInt8 := UInt8.ofNat (if k < 10 then 48 + k else 87 + k)
def dig (c : UInt8) : Option Nat := if 48 ≤ c.toNat ∧ c.toNat ≤ 57 then some (c.toNat - 48) else if 97 ≤ c.toNat ∧ c.toNat ≤ 102 then some (c.toNat - 87) else none
theorem hexd_nat {k : Nat} (h : k < 16) : (hexd k).toNat = if k < 10 then 48 + k else 87 + k := by
  unfold hexd
  split <;> simp <;> omega
theorem dig_hexd {k : Nat} (h : k < 16) : dig (hexd k) = some k := by
  unfold dig
  rw [hexd_nat h]
  by_cases h10 : k < 10
  · rw [if_pos h10, if_pos (by omega)]; congr 1; omega
  · rw [if_neg h10, if_neg (by omega), if_pos (by omega)]; congr 1; omega
theorem dig_lt {c : UInt8} {k : Nat} (h : dig c = some k) : k < 16 := by
  unfold dig at h
  split at h
  · injection h; omega
  · split at h
    · injection h; omega
    · cases h
theorem hexd_dig {c : UInt8} {k : Nat} (h : dig c = some k) : c = hexd k := by
  have hk := dig_lt h
  apply UInt8.toNat_inj.1
  rw [hexd_nat hk]
  unfold dig at h
  split at h
  · injection h; rw [if_pos (by omega)]; omega
  · split at h
    · injection h; rw [if_neg (by omega)]; omega
    · cases h

def hexOf : List UInt8 → List UInt8
  | [] => []
  | x :: xs => hexd (x.toNat / 16) :: hexd (x.toNat % 16) :: hexOf xs
theorem hexOf_append (xs ys : List UInt8) : hexOf (xs ++ ys) = hexOf xs ++ hexOf ys := by
  induction xs with
  | nil => rfl
  | cons x xs ih => simp [hexOf, ih]
theorem hexOf_length (xs : List UInt8) : (hexOf xs).length = 2 * xs.length := by
  induction xs with
  | nil => rfl
  | cons x xs ih => simp [hexOf, ih]; omega
theorem hexOf_take (xs : List UInt8) (k : Nat) (x : UInt8) (h : xs[k]? = some x) : hexOf (xs.take (k + 1)) = hexOf (xs.take k) ++ [hexd (x.toNat / 16), hexd (x.toNat % 16)] := by
  obtain ⟨hk, hx⟩ := List.getElem?_eq_some_iff.1 h
  rw [List.take_succ_eq_append_getElem hk, hexOf_append, hx]
  rfl

def join16 (x y : Nat) : UInt8 := UInt8.ofNat (16 * x + y)
def pair (a b : UInt8) : Option UInt8 := match dig a, dig b with | some x, some y => some (join16 x y) | _, _ => none
def unhex : List UInt8 → Option (List UInt8)
  | [] => some []
  | [_] => none
  | a :: b :: r => match pair a b, unhex r with | some x, some out => some (x :: out) | _, _ => none
theorem unhex_cons2 (a b : UInt8) (r : List UInt8) : unhex (a :: b :: r) = match pair a b, unhex r with | some x, some out => some (x :: out) | _, _ => none := rfl
theorem pair_some {a b : UInt8} {x y : Nat} (h1 : dig a = some x) (h2 : dig b = some y) : pair a b = some (join16 x y) := by simp [pair, h1, h2]
theorem pair_none_l {a b : UInt8} (h1 : dig a = none) : pair a b = none := by simp [pair, h1]
theorem pair_none_r {a b : UInt8} (h1 : dig b = none) : pair a b = none := by unfold pair; rw [h1]; split <;> simp_all
theorem unhex_length : ∀ {s out : List UInt8}, unhex s = some out → s.length = 2 * out.length
  | [], out, h => by simp [unhex] at h; subst h; rfl
  | [_], out, h => by simp [unhex] at h
  | a :: b :: r, out, h => by
    unfold unhex at h
    split at h
    · rename_i x o h1 h2
      injection h with h
      subst h
      have := unhex_length h2
      simp; omega
    · cases h
theorem unhex_append : ∀ {s out : List UInt8} (t : List UInt8), unhex s = some out → unhex (s ++ t) = (unhex t).map (out ++ ·)
  | [], out, t, h => by simp [unhex] at h; subst h; simp
  | [_], out, t, h => by simp [unhex] at h
  | a :: b :: r, out, t, h => by
    unfold unhex at h
    split at h
    · rename_i x o h1 h2
      injection h with h
      subst h
      have ih := unhex_append t h2
      show unhex (a :: b :: (r ++ t)) = _
      rw [unhex_cons2, h1, ih]
      cases unhex t <;> simp
    · cases h
theorem unhex_hexOf (xs : List UInt8) : unhex (hexOf xs) = some xs := by
  induction xs with
  | nil => rfl
  | cons x xs ih =>
    have hx := x.toNat_lt
    have h1 := dig_hexd (k := x.toNat / 16) (by omega)
    have h2 := dig_hexd (k := x.toNat % 16) (by omega)
    simp only [hexOf, unhex, pair_some h1 h2, ih]
    congr 2
    unfold join16
    rw [Nat.div_add_mod]
    exact UInt8.ofNat_toNat
theorem unhex_odd {s : List UInt8} (h : s.length % 2 ≠ 0) : unhex s = none := by
  rcases e : unhex s with _ | out
  · rfl
  · have := unhex_length e; omega
/-- two signs more -/
theorem unhex_two {s : List UInt8} {k : Nat} {out : List UInt8} {a b x : UInt8} (h : unhex (s.take (2 * k)) = some out) (ha : s[2 * k]? = some a) (hb : s[2 * k + 1]? = some b) (hp : pair a b = some x) :
    unhex (s.take (2 * (k + 1))) = some (out ++ [x]) := by
  obtain ⟨ka, xa⟩ := List.getElem?_eq_some_iff.1 ha
  obtain ⟨kb, xb⟩ := List.getElem?_eq_some_iff.1 hb
  have e : s.take (2 * (k + 1)) = s.take (2 * k) ++ [a, b] := by
    rw [show 2 * (k + 1) = 2 * k + 1 + 1 by omega, List.take_succ_eq_append_getElem kb, List.take_succ_eq_append_getElem ka, xa, xb]
    simp
  rw [e, unhex_append _ h]
  simp [unhex, hp]
theorem unhex_fail {s : List UInt8} {k : Nat} {out : List UInt8} {a b : UInt8} (h : unhex (s.take (2 * k)) = some out) (ha : s[2 * k]? = some a) (hb : s[2 * k + 1]? = some b) (hp : pair a b = none) : unhex s = none := by
  obtain ⟨ka, xa⟩ := List.getElem?_eq_some_iff.1 ha
  obtain ⟨kb, xb⟩ := List.getElem?_eq_some_iff.1 hb
  have e : s = s.take (2 * k) ++ (a :: b :: s.drop (2 * k + 1 + 1)) := by
    conv => lhs; rw [← List.take_append_drop (2 * k) s, List.drop_eq_getElem_cons ka, List.drop_eq_getElem_cons kb, xa, xb]
  rw [e, unhex_append _ h, unhex_cons2, hp]
  simp

/-- WHAT IS TAKEN FROM THE FRONT -/
def atOf (xs : List UInt8) (i k : Nat) : Nat := num ((xs.drop i).take k)
end Go.Proofs.YtapklelkcicjlaaGreatDoor.Oc

/-! Octets in memory: slices that read as octets, rows of the call's own, pairs of a slice and a mark behind a pointer; append, slices and conversions of them. No conditions. -/
namespace Go.Proofs.YtapklelkcicjlaaGreatDoor.Oc
set_option maxRecDepth 100000
open Go.RowKit

/-- an octet as a cell -/
def ov (x : UInt8) : Value := .int .u8 (x.toNat : Int)
/-- octets as a text -/
def bstr (xs : List UInt8) : ByteArray := ⟨xs.toArray⟩

/-- what a slice's type must be -/
structure ByteTy (P : Program) (t e : TypeId) : Prop where
  sl : P.underlying t = some (.slice e)
  u8 : P.underlying e = some (.int .u8)
  info : (P.info? e).map (fun i => (i.zero, i.size, i.bytes)) = some (some (.int .u8 0), 1, 1)

/-- the slice at A, of n elements, reads as xs -/
def Oct (w : World) (A : Option Addr) (n : Nat) (xs : List UInt8) : Prop :=
  xs.length = n ∧ (0 < n → ∃ b off, A = some ⟨b, off, none⟩ ∧ ∀ (j : Nat) (x : UInt8), xs[j]? = some x → w.cell? ⟨b, off + j, none⟩ = some (ov x))

section
variable {w w' : World} {A : Option Addr} {n k c R : Nat} {xs : List UInt8}
theorem Oct.len (h : Oct w A n xs) : xs.length = n := h.1
theorem Oct.nil (w : World) (A : Option Addr) : Oct w A 0 [] := ⟨rfl, fun h => absurd h (by omega)⟩
theorem Oct.at_ (h : Oct w A n xs) (hk : k < n) : ∃ b off x, A = some ⟨b, off, none⟩ ∧ xs[k]? = some x ∧ w.cell? ⟨b, off + k, none⟩ = some (.int .u8 (x.toNat : Int)) := by
  obtain ⟨b, off, e, hc⟩ := h.2 (by omega)
  have hl : k < xs.length := by have := h.1; omega
  exact ⟨b, off, xs[k], e, List.getElem?_eq_getElem hl, hc k _ (List.getElem?_eq_getElem hl)⟩
theorem Oct.lt {b off : Nat} (h : Oct w A n xs) (hn : 0 < n) (e : A = some ⟨b, off, none⟩) : b < w.heap.size := by
  obtain ⟨b', off', x, e', _, hc⟩ := h.at_ hn
  rw [e] at e'
  injection e' with e'
  injection e' with e1
  subst e1
  exact World.block_lt_of_cell? w _ hc
theorem Oct.heap (h : Oct w A n xs) (hk : ∀ b off, 0 < n → A = some ⟨b, off, none⟩ → w'.heap[b]? = w.heap[b]?) : Oct w' A n xs :=
  ⟨h.1, fun hn => by
    obtain ⟨b, off, e, hc⟩ := h.2 hn
    exact ⟨b, off, e, fun j x hx => (World.cell?_of_block (a := ⟨b, off + j, none⟩) (hk b off hn e)).trans (hc j x hx)⟩⟩
theorem Oct.below (h : Oct w A n xs) (hb : Below w.heap.size w w') : Oct w' A n xs := h.heap fun _ _ hn e => hb.block _ (h.lt hn e)
theorem Oct.alloc (h : Oct w A n xs) (o : Obj) : Oct (w.alloc o) A n xs := h.heap fun _ _ hn e => Below.heap_alloc w o _ (h.lt hn e)
theorem Oct.drewN (h : Oct w A n xs) (m : Nat) : Oct (w.drewN m) A n xs := h
theorem Oct.drew (h : Oct w A n xs) : Oct w.drew A n xs := h
theorem Oct.grown (h : Oct w A n xs) (hg : w.grownBy w' (some R)) (hne : ∀ off, 0 < n → A ≠ some ⟨R, off, none⟩) : Oct w' A n xs :=
  h.heap fun b off hn e => hg.block b (h.lt hn e) fun e' => by
    injection e' with e'
    subst e'
    exact hne off hn e
theorem Oct.grown_own {row : Option Nat} (h : Oct w A n xs) (hg : w.grownBy w' row) (hr : ∀ g, row = some g → w.heap.size ≤ g) : Oct w' A n xs :=
  h.heap fun b off hn e => hg.block b (h.lt hn e) fun e' => by have := hr b e'.symm; have := h.lt hn e; omega
theorem Oct.take (h : Oct w A n xs) (hk : k ≤ n) : Oct w A k (xs.take k) :=
  ⟨by rw [List.length_take, h.1]; omega, fun hp => by
    obtain ⟨b, off, e, hc⟩ := h.2 (by omega)
    refine ⟨b, off, e, fun j x hx => hc j x ?_⟩
    rw [List.getElem?_take] at hx
    split at hx
    · exact hx
    · cases hx⟩
theorem Oct.cut (h : Oct w A n xs) (hk : k ≤ n) (hc : n ≤ c) : Oct w (if c = k then A else A.map (·.add k)) (n - k) (xs.drop k) := by
  refine ⟨by rw [List.length_drop, h.1], fun hp => ?_⟩
  obtain ⟨b, off, rfl, hcell⟩ := h.2 (by omega)
  rw [if_neg (by omega)]
  refine ⟨b, off + k, ?_, fun j x hx => ?_⟩
  · show some (Addr.add ⟨b, off, none⟩ k) = _
    rw [Go.WideShapes.add_plain]
  · rw [List.getElem?_drop] at hx
    rw [Nat.add_assoc]
    exact hcell _ x hx
/-- a cut that is not at the capacity's end, and one at any place -/
theorem Oct.map (h : Oct w A n xs) (hk : k ≤ n) : Oct w (Option.map (fun x => x.add k) A) (n - k) (xs.drop k) := by
  refine ⟨by rw [List.length_drop, h.1], fun hp => ?_⟩
  obtain ⟨b, off, rfl, hcell⟩ := h.2 (by omega)
  refine ⟨b, off + k, ?_, fun j x hx => ?_⟩
  · show some (Addr.add ⟨b, off, none⟩ k) = _
    rw [Go.WideShapes.add_plain]
  · rw [List.getElem?_drop] at hx
    rw [Nat.add_assoc]
    exact hcell _ x hx
theorem Oct.sub {i : Nat} (h : Oct w A n xs) (hk : i + k ≤ n) : Oct w (Option.map (fun x => x.add i) A) k ((xs.drop i).take k) := (h.map (k := i) (by omega)).take (by omega)
theorem Oct.one (w : World) (e : TypeId) (x : UInt8) (z : Int) (hz : z = (x.toNat : Int)) : Oct (w.alloc (.cells #[.int .u8 z] e)) (some ⟨w.heap.size, 0, none⟩) 1 [x] := by
  subst hz
  refine ⟨rfl, fun _ => ⟨_, _, rfl, fun j y hy => ?_⟩⟩
  rw [cell_of_row _ _ _ _ _ _ (heap_alloc_new w _)]
  match j, hy with
  | 0, hy => simp at hy; subst hy; simp [ov]
theorem Oct.cells (w : World) (e : TypeId) (xs : List UInt8) (cs : Array Value) (hc : cs = (xs.map ov).toArray) : Oct (w.alloc (.cells cs e)) (some ⟨w.heap.size, 0, none⟩) xs.length xs := by
  subst hc
  refine ⟨rfl, fun _ => ⟨_, _, rfl, fun j y hy => ?_⟩⟩
  rw [cell_of_row _ _ _ _ _ _ (heap_alloc_new w _)]
  simp [hy]

/-- octets as a text -/
theorem Oct.conv {P : Program} {t e d : TypeId} (h : Oct w A n xs) (hT : ByteTy P t e) (hd : P.underlying d = some .string) (c : Nat) : (convert t d (.slice A n c)).run P w = .ok (.string (bstr xs)) w := by
  rcases A with _ | a
  · have hn : n = 0 := by
      rcases Nat.eq_zero_or_pos n with h0 | h0
      · exact h0
      · obtain ⟨_, _, e, _⟩ := h.2 h0; cases e
    have hx : xs = [] := List.eq_nil_of_length_eq_zero (by rw [h.1, hn])
    subst hx
    rw [run_convert_bytes_string w t d e none n c hT.sl hT.u8 hd]
    simp [Conv.bytesToString, bstr, ByteArray.empty, ByteArray.emptyWithCapacity]
    rfl
  · have e := h.1
    subst e
    refine run_convert_bytes_back w t d _ a c xs hT.sl hT.u8 hd fun j hj => ?_
    obtain ⟨b, off, x, e, hx, hc⟩ := h.at_ hj
    injection e with e
    subst e
    rw [Go.WideShapes.add_plain, hc]
    rw [List.getElem?_eq_getElem hj] at hx
    injection hx with hx
    rw [hx]
end

/-- v is a slice of the call's own (from block B on) that holds xs -/
def Own (w : World) (e : TypeId) (B : Nat) (v : Value) (xs : List UInt8) : Prop := w.ownsRow B e 1 v xs.length (xs.map ov)

section
variable {w w' : World} {e : TypeId} {B : Nat} {v : Value} {xs ys : List UInt8}
theorem Own.nil (w : World) (e : TypeId) (B : Nat) : Own w e B (.slice none 0 0) [] := World.ownsRow_nil w B e 1
theorem Own.alloc (h : Own w e B v xs) (o : Obj) : Own (w.alloc o) e B v xs := World.ownsRow.alloc h o
theorem Own.drew (h : Own w e B v xs) : Own w.drew e B v xs := h
theorem Own.drewN (h : Own w e B v xs) (n : Nat) : Own (w.drewN n) e B v xs := h
theorem Own.more {B' : Nat} (h : Own w e B v xs) (hB : B' ≤ B) : Own w e B' v xs := by
  rcases h.2 with h0 | ⟨g, cap, cur, h1, h2, h3⟩
  · exact ⟨h.1, .inl h0⟩
  · exact ⟨h.1, .inr ⟨g, cap, cur, h1, by omega, h3⟩⟩
theorem Own.ge (h : Own w e B v xs) : ∀ g, v.ownBlock = some g → B ≤ g ∧ g < w.heap.size := by
  intro g hg
  rcases h.2 with ⟨rfl, _⟩ | ⟨g', cap, cur, rfl, hb, hh, _⟩
  · cases hg
  · have : g' = g := by simpa [Value.ownBlock] using hg
    subst this
    refine ⟨hb, ?_⟩
    rcases Nat.lt_or_ge g' w.heap.size with h1 | h1
    · exact h1
    · rw [Array.getElem?_eq_none h1] at hh; cases hh
/-- its form, and that it reads as xs -/
theorem Own.slice (h : Own w e B v xs) : ∃ A c, v = .slice A xs.length c ∧ xs.length ≤ c ∧ Oct w A xs.length xs := by
  rcases h.2 with ⟨rfl, h0⟩ | ⟨g, cap, cur, rfl, hb, hh, hn, hm, hs, ht⟩
  · have hx : xs = [] := List.eq_nil_of_length_eq_zero h0
    subst hx
    exact ⟨none, 0, rfl, Nat.le_refl _, Oct.nil _ _⟩
  · refine ⟨_, cap, rfl, hn, rfl, fun _ => ⟨g, 0, rfl, fun j x hx => ?_⟩⟩
    have hj : j < xs.length := (List.getElem?_eq_some_iff.1 hx).1
    have := World.ownsRow.cellAt (w := w) (base := B) (e := e) (size := 1) (g := g) (n := xs.length) (cap := cap) (xs := xs.map ov) h j (by omega)
    rw [Nat.zero_add, this]
    simp [hx]
theorem Own.form {n : Nat} (h : Own w e B v xs) (hl : xs.length = n) : ∃ A c, v = .slice A n c ∧ n ≤ c ∧ Oct w A n xs := by
  subst hl
  exact h.slice
theorem Own.keep (h : Own w e B v xs) (hk : ∀ g, v.ownBlock = some g → w'.heap[g]? = w.heap[g]?) : Own w' e B v xs := by
  rcases h.2 with h0 | ⟨g, cap, cur, rfl, hb, hh, h3⟩
  · exact ⟨h.1, .inl h0⟩
  · exact ⟨h.1, .inr ⟨g, cap, cur, rfl, hb, (hk g rfl).trans hh, h3⟩⟩
theorem Own.below (h : Own w e B v xs) (hb : Below w.heap.size w w') : Own w' e B v xs := h.keep fun g hg => hb.block g (h.ge g hg).2
end

theorem ov_one (xs : List UInt8) : ∀ u ∈ xs.map ov, u.oneCell' = true := by
  intro u hu
  obtain ⟨x, _, rfl⟩ := List.mem_map.1 hu
  rfl

/-- append of octets onto a row of the call's own -/
theorem run_append_oct {P : Program} {t e ty : TypeId} {w : World} {B : Nat} {v : Value} {xs ys : List UInt8} {A : Option Addr} {m : Nat} (c : Nat) (hT : ByteTy P t e) (hown : Own w e B v xs) (hs : Oct w A m ys)
    (hl : xs.length + m ≤ 100000000000000) (hB : B ≤ w.heap.size) :
    ∃ v' w', (Builtin.append_ #[t, t] ty #[v, .slice A m c]).run P w = .ok v' w' ∧ Own w' e B v' (xs ++ ys) ∧ w.grownBy w' v.ownBlock ∧ (v'.ownBlock = v.ownBlock ∨ v'.ownBlock = some w.heap.size) := by
  obtain ⟨i, hi, hz0, hz1, hz2⟩ := info_parts hT.info
  rcases A with _ | ad
  · have hn : m = 0 := by
      rcases Nat.eq_zero_or_pos m with h0 | h0
      · exact h0
      · obtain ⟨_, _, e, _⟩ := hs.2 h0; cases e
    subst hn
    have hx : ys = [] := List.eq_nil_of_length_eq_zero hs.1
    subst hx
    refine ⟨v, w, ?_, by simpa using hown, World.grownBy.refl w _, .inl rfl⟩
    rcases hown.2 with ⟨rfl, _⟩ | ⟨g, cap, cur, rfl, _, _, hnc, _⟩
    · simp [Builtin.append_, run_underlying hT.sl, sizeOf, typeInfo, hi, Builtin.lenOf, Builtin.firstCells]
    · simp [Builtin.append_, run_underlying hT.sl, sizeOf, typeInfo, hi, Builtin.lenOf, Builtin.firstCells, hnc, storeCells]
  · have e := hs.1
    subst e
    obtain ⟨v', w', hr, h2, h3, _, h5⟩ := run_append_own_at (P := P) w B t ty e i (.int .u8 0) 1 1 hT.sl hi hz0 hz1 hz2 rfl (by decide) v xs.length (xs.map ov) hown ad ys.length c (ys.map ov) (by simp) (fun j u hu => by
        rw [List.getElem?_map] at hu
        rcases hx : ys[j]? with _ | x
        · rw [hx] at hu; cases hu
        · rw [hx] at hu
          injection hu with hu
          subst hu
          have hj : j < ys.length := (List.getElem?_eq_some_iff.1 hx).1
          obtain ⟨b, off, x', e, hx', hc⟩ := hs.at_ hj
          injection e with e
          subst e
          rw [hx] at hx'
          injection hx' with hx'
          subst hx'
          rw [Go.WideShapes.add_plain]; exact hc) (ov_one ys) (by unfold maxLen; omega) (by omega) hB
    refine ⟨v', w', hr, ?_, h3, h5⟩
    unfold Own
    rw [List.map_append, List.length_append]
    exact h2

theorem wpList_append_oct {P : Program} {w : World} {ops : Array Oper} {rest : List Oper} {o : Oper} {a : Act} {Q : Exit → Act → World → Prop} (hgd : o.guard = none) (s x : Operand) (t : TypeId)
    (ho : o.op = .call { callee := .builtin .append, args := #[s, x], argTypes := #[t, t] }) {e : TypeId} (hT : ByteTy P t e) (B : Nat) (v : Value) (xs : List UInt8) (hs : a.eval s = v) (hown : Own w e B v xs)
    (A : Option Addr) (m c : Nat) (ys : List UInt8) (hx : a.eval x = .slice A m c) (hr : Oct w A m ys) (hl : xs.length + m ≤ 100000000000000) (hB : B ≤ w.heap.size)
    (h : ∀ v' w', Own w' e B v' (xs ++ ys) → w.grownBy w' v.ownBlock → (v'.ownBlock = v.ownBlock ∨ v'.ownBlock = some w.heap.size) → wpList P ops Q rest (a.put o.dst v') w') : wpList P ops Q (o :: rest) a w := by
  refine wpList_plain hgd fun K hK => ?_
  obtain ⟨v', w', hrun, h2, h3, h4⟩ := run_append_oct (P := P) (ty := o.type) c hT hown hr hl hB
  unfold Oper.wp execOp
  simp only [ho, resolve, invoke, builtin, Sem.run_bind, Sem.run_pure, Result.andThen_ok, List.map_toArray, List.map_cons, List.map_nil, hs, hx, hrun]
  exact hK _ _ (h v' w' h2 h3 h4)

/-- the same, with the words of a walk whose own rows begin at block B -/
theorem wpList_append_to {P : Program} {w : World} {ops : Array Oper} {rest : List Oper} {o : Oper} {a : Act} {Q : Exit → Act → World → Prop} (hgd : o.guard = none) (s x : Operand) (t : TypeId)
    (ho : o.op = .call { callee := .builtin .append, args := #[s, x], argTypes := #[t, t] }) {e : TypeId} (hT : ByteTy P t e) {w0 : World} {v : Value} {xs : List UInt8} (hs : a.eval s = v) (hown : Own w e w0.heap.size v xs) (hb : Below w0.heap.size w0 w)
    {A : Option Addr} {m : Nat} (c : Nat) {ys : List UInt8} (hx : a.eval x = .slice A m c) (hr : Oct w A m ys) (hl : xs.length + m ≤ 100000000000000)
    (h : ∀ v' w', Own w' e w0.heap.size v' (xs ++ ys) → Below w0.heap.size w0 w' → wpList P ops Q rest (a.put o.dst v') w') : wpList P ops Q (o :: rest) a w :=
  wpList_append_oct hgd s x t ho hT w0.heap.size v xs hs hown A m c ys hx hr hl hb.size fun v' w' h1 h2 _ => h v' w' h1 (hb.grown h2 hb.size fun g hg => (hown.ge g hg).1)

/-- the same, at a step of a region that draws its order -/
theorem step_append_to {P : Program} {w : World} {ops : Array Oper} {o : Oper} {a : Act} {K : Act → World → Prop} {Q : Exit → Act → World → Prop} {E : Prop} (hgd : o.guard = none) (s x : Operand) (t : TypeId)
    (ho : o.op = .call { callee := .builtin .append, args := #[s, x], argTypes := #[t, t] }) {e : TypeId} (hT : ByteTy P t e) {w0 : World} {v : Value} {xs : List UInt8} (hs : a.eval s = v) (hown : Own w e w0.heap.size v xs) (hb : Below w0.heap.size w0 w)
    {A : Option Addr} {m : Nat} (c : Nat) {ys : List UInt8} (hx : a.eval x = .slice A m c) (hr : Oct w A m ys) (hl : xs.length + m ≤ 100000000000000)
    (h : ∀ v' w', Own w' e w0.heap.size v' (xs ++ ys) → Below w0.heap.size w0 w' → K (a.put o.dst v') w') :
    if Region.wanted o (yielded ops a.tmps) = true then Oper.wp P o a w K Q else E := by
  rw [if_pos (by simp [Region.wanted, hgd])]
  obtain ⟨v', w', hrun, h2, h3, _⟩ := run_append_oct (P := P) (ty := o.type) c hT hown hr hl hb.size
  unfold Oper.wp execOp
  simp only [ho, resolve, invoke, builtin, Sem.run_bind, Sem.run_pure, Result.andThen_ok, List.map_toArray, List.map_cons, List.map_nil, hs, hx, hrun]
  exact h v' w' h2 (hb.grown h3 hb.size fun g hg => (hown.ge g hg).1)

theorem wpList_make_oct {P : Program} {w : World} {ops : Array Oper} {rest : List Oper} {o : Oper} {a : Act} {Q : Exit → Act → World → Prop} (hgd : o.guard = none) (l c : Operand) (t : TypeId) (hop : o.op = Op.makeSlice t l c)
    {e : TypeId} (hT : ByteTy P t e) (C : Int) (n : Nat) (h0 : a.eval l = .int .i64 0) (hc : a.eval c = .int .i64 C) (hC : C = (n : Int)) (hn : n ≤ 100000000000000)
    (hK : ∀ w', Own w' e w.heap.size (.slice (some ⟨w.heap.size, 0, none⟩) 0 n) [] → Below w.heap.size w w' → wpList P ops Q rest (a.put o.dst (.slice (some ⟨w.heap.size, 0, none⟩) 0 n)) w') : wpList P ops Q (o :: rest) a w := by
  obtain ⟨i, hi, hz0, hz1, hz2⟩ := info_parts hT.info
  refine wpList_make_own w hgd l c t hop w.heap.size e i (.int .u8 0) 1 hT.sl hi hz0 hz1 .i64 .i64 C n h0 hc hC (by rw [hz2]; omega) (by unfold maxLen; omega) (Nat.le_refl _) fun w' h1 h2 => hK w' h1 ?_
  exact (Below.refl _ _).grown h2 (Nat.le_refl _) (fun _ h => by cases h)

/-- A PAIR BEHIND A POINTER: octets, and a mark -/
def Rd (w : World) (T : TypeId) (R : Nat) (xs : List UInt8) (g : Bool) : Prop :=
  ∃ A c, w.heap[R]? = some (.cells #[.slice A xs.length c, .bool g] T (0, 0)) ∧ xs.length ≤ c ∧ Oct w A xs.length xs

section
variable {w w' : World} {T T' : TypeId} {R R' : Nat} {xs ys : List UInt8} {g g' : Bool} {u v : Value} {A : Option Addr} {n : Nat}
theorem pair_cell (h : w.heap[R]? = some (.cells #[u, v] T (0, 0))) : w.cell? ⟨R, 0, none⟩ = some u ∧ w.cell? ⟨R, 1, none⟩ = some v ∧ w.frozen? ⟨R, 0, none⟩ = false ∧ w.frozen? ⟨R, 1, none⟩ = false := by
  refine ⟨?_, ?_, frozen_of_row w R 0 _ T h, frozen_of_row w R 1 _ T h⟩
  · rw [cell_of_row w R 0 _ T (0, 0) h]; rfl
  · rw [cell_of_row w R 1 _ T (0, 0) h]; rfl
theorem pair_set0 (h : w.heap[R]? = some (.cells #[u, v] T (0, 0))) (x : Value) : (w.setCell ⟨R, 0, none⟩ x).heap[R]? = some (.cells #[x, v] T (0, 0)) := by
  rw [heap_setCell_same w R 0 _ T x h]; rfl
theorem pair_set1 (h : w.heap[R]? = some (.cells #[u, v] T (0, 0))) (x : Value) : (w.setCell ⟨R, 1, none⟩ x).heap[R]? = some (.cells #[u, x] T (0, 0)) := by
  rw [heap_setCell_same w R 1 _ T x h]; rfl
theorem grown_set (w : World) (R i : Nat) (x : Value) : w.grownBy (w.setCell ⟨R, i, none⟩ x) (some R) :=
  ⟨rfl, rfl, rfl, by simp, fun k _ hk => heap_setCell_other w ⟨R, i, none⟩ k x (fun e => hk (by simp [e]))⟩
theorem grown_trans {a b c : World} {R : Nat} (h : a.grownBy b (some R)) (k : b.grownBy c (some R)) : a.grownBy c (some R) :=
  ⟨k.os.trans h.os, k.tape.trans h.tape, k.output.trans h.output, Nat.le_trans h.size k.size, fun i hi hn => (k.block i (Nat.lt_of_lt_of_le hi h.size) hn).trans (h.block i hi hn)⟩
theorem grown_of_below {a b : World} (h : Below a.heap.size a b) (row : Option Nat) : a.grownBy b row := ⟨h.os, h.tape, h.output, h.size, fun i hi _ => h.block i hi⟩
theorem below_of_grown {a b : World} {R B : Nat} (h : a.grownBy b (some R)) (hB : B ≤ a.heap.size) (hR : B ≤ R) : Below B a b :=
  ⟨h.os, h.tape, h.output, h.size, fun k hk => h.block k (by omega) (fun e => by injection e with e; omega)⟩
/-- octets never lie in such a pair -/
theorem Oct.apart {a : Option Addr} {l c : Nat} (h : Oct w A n xs) (hR : w.heap[R]? = some (.cells #[.slice a l c, .bool g] T (0, 0))) : ∀ off, 0 < n → A ≠ some ⟨R, off, none⟩ := by
  intro off hn e
  obtain ⟨b, off', x, e', _, hc⟩ := h.at_ hn
  rw [e] at e'
  injection e' with e'
  injection e' with e1 e2
  subst e1 e2
  rw [cell_of_row w R _ _ T (0, 0) hR] at hc
  match off + 0, hc with
  | 0, hc => simp at hc
  | 1, hc => simp at hc
  | k + 2, hc => simp at hc
theorem Rd.lt (h : Rd w T R xs g) : R < w.heap.size := by
  obtain ⟨A, c, hh, _⟩ := h
  rcases Nat.lt_or_ge R w.heap.size with h1 | h1
  · exact h1
  · rw [Array.getElem?_eq_none h1] at hh; cases hh
theorem Rd.below (h : Rd w T R xs g) (hb : Below w.heap.size w w') : Rd w' T R xs g := by
  have hl := h.lt
  obtain ⟨A, c, hh, hc, ho⟩ := h
  exact ⟨A, c, (hb.block R hl).trans hh, hc, ho.below hb⟩
theorem Rd.ne (h : Rd w T R xs g) (h' : Rd w T' R' ys g') (hT : T ≠ T') : R ≠ R' := by
  rintro rfl
  obtain ⟨A, c, hh, _⟩ := h
  obtain ⟨A', c', hh', _⟩ := h'
  rw [hh] at hh'
  injection hh' with hh'
  injection hh' with _ e
  exact hT e
/-- what another pair's change leaves -/
theorem Rd.other (h : Rd w T R xs g) (h' : Rd w T' R' ys g') (hT : T ≠ T') (hg : w.grownBy w' (some R')) : Rd w' T R xs g := by
  have hne := h.ne h' hT
  have hl := h.lt
  obtain ⟨A, c, hh, hc, ho⟩ := h
  obtain ⟨A', c', hh', _⟩ := h'
  exact ⟨A, c, (hg.block R hl (fun e => hne (by injection e))).trans hh, hc, ho.grown hg (ho.apart hh')⟩
/-- the octets of a pair set anew -/
theorem rd_set {a : Option Addr} {l c c' : Nat} (hR : w.heap[R]? = some (.cells #[.slice a l c, .bool g] T (0, 0))) (ho : Oct w A ys.length ys) (hc : ys.length ≤ c') :
    Rd (w.setCell ⟨R, 0, none⟩ (.slice A ys.length c')) T R ys g ∧ w.grownBy (w.setCell ⟨R, 0, none⟩ (.slice A ys.length c')) (some R) :=
  ⟨⟨A, c', pair_set0 hR _, hc, ho.grown (grown_set w R 0 _) (ho.apart hR)⟩, grown_set w R 0 _⟩
theorem rd_cut {k c : Nat} (hR : w.heap[R]? = some (.cells #[.slice A xs.length c, .bool g] T (0, 0))) (ho : Oct w A xs.length xs) (hc : xs.length ≤ c) (hk : k ≤ xs.length) :
    Rd (w.setCell ⟨R, 0, none⟩ (.slice (Option.map (fun x => x.add k) A) (xs.length - k) (c - k))) T R (xs.drop k) g ∧ w.grownBy (w.setCell ⟨R, 0, none⟩ (.slice (Option.map (fun x => x.add k) A) (xs.length - k) (c - k))) (some R) := by
  have e : xs.length - k = (xs.drop k).length := by rw [List.length_drop]
  have := ho.map hk
  rw [e] at this ⊢
  exact rd_set hR this (by omega)
theorem rd_cut_end {k c : Nat} (hR : w.heap[R]? = some (.cells #[.slice A xs.length c, .bool g] T (0, 0))) (hc : xs.length ≤ c) (hk : k ≤ xs.length) (h : c = k) :
    Rd (w.setCell ⟨R, 0, none⟩ (.slice A (xs.length - k) 0)) T R (xs.drop k) g ∧ w.grownBy (w.setCell ⟨R, 0, none⟩ (.slice A (xs.length - k) 0)) (some R) := by
  have e : xs.length - k = 0 := by omega
  have e2 : xs.drop k = [] := List.drop_eq_nil_of_le (by omega)
  rw [e, e2]
  exact rd_set (ys := []) hR (Oct.nil _ _) (Nat.le_refl _)
theorem rd_spoil {b : Bool} (hR : w.heap[R]? = some (.cells #[u, v] T (0, 0))) :
    Rd ((w.setCell ⟨R, 0, none⟩ (.slice none 0 0)).setCell ⟨R, 1, none⟩ (.bool b)) T R [] b ∧ w.grownBy ((w.setCell ⟨R, 0, none⟩ (.slice none 0 0)).setCell ⟨R, 1, none⟩ (.bool b)) (some R) :=
  ⟨⟨none, 0, pair_set1 (pair_set0 hR _) _, Nat.le_refl _, Oct.nil _ _⟩, grown_trans (grown_set w R 0 _) (grown_set _ R 1 _)⟩
theorem rd_spoil' {b : Bool} (hR : w.heap[R]? = some (.cells #[u, v] T (0, 0))) :
    Rd ((w.setCell ⟨R, 1, none⟩ (.bool b)).setCell ⟨R, 0, none⟩ (.slice none 0 0)) T R [] b ∧ w.grownBy ((w.setCell ⟨R, 1, none⟩ (.bool b)).setCell ⟨R, 0, none⟩ (.slice none 0 0)) (some R) :=
  ⟨⟨none, 0, pair_set0 (pair_set1 hR _) _, Nat.le_refl _, Oct.nil _ _⟩, grown_trans (grown_set w R 1 _) (grown_set _ R 0 _)⟩
theorem rd_new {c : Nat} (ho : Oct w A xs.length xs) (hc : xs.length ≤ c) (T : TypeId) (g : Bool) : Rd (w.alloc (.cells #[.slice A xs.length c, .bool g] T)) T w.heap.size xs g :=
  ⟨A, c, heap_alloc_new w _, hc, ho.alloc _⟩
theorem Oct.rd (h : Oct w A n xs) (h' : Rd w T R ys g) (hg : w.grownBy w' (some R)) : Oct w' A n xs := by
  obtain ⟨A', c', hh', _⟩ := h'
  exact h.grown hg (h.apart hh')
end
end Go.Proofs.YtapklelkcicjlaaGreatDoor.Oc

/-! Contracts of the small functions of octet: fits, few, Bad, Left, Done, spoil. No conditions. -/
namespace Go.Proofs.YtapklelkcicjlaaGreatDoor.W
set_option maxRecDepth 100000
open Go.RowKit Oc

theorem bt : ByteTy Tryz.prog 57 5 := ⟨Tryz.underlying57, Tryz.underlying5, by kernel_rfl⟩

theorem fits_yes (k : Int) (w : World) (h1 : 1 ≤ k) (h2 : k ≤ 8) : Calls Tryz.prog 131 #[.int .i64 k] w fun e w' => e = .returned (.bool true) ∧ w = w' := by
  go_enter Tryz.func131, Tryz.ntmps131
  go_wp2
  go_ret
  exact ⟨rfl, rfl⟩
theorem fits_no (k : Int) (w : World) (h : ¬ (1 ≤ k ∧ k ≤ 8)) : Calls Tryz.prog 131 #[.int .i64 k] w fun e w' => e = .returned (.bool false) ∧ w = w' := by
  by_cases h1 : 1 ≤ k
  · have h2 : ¬ k ≤ 8 := fun h2 => h ⟨h1, h2⟩
    clear h
    go_enter Tryz.func131, Tryz.ntmps131
    go_wp2
    go_ret
    exact ⟨rfl, rfl⟩
  · clear h
    go_enter Tryz.func131, Tryz.ntmps131
    go_wp2
    go_ret
    exact ⟨rfl, rfl⟩

theorem bad_nil (w : World) : Calls Tryz.prog 158 #[.pointer none] w fun e w' => e = .returned (.bool true) ∧ w = w' := by
  go_enter Tryz.func158, Tryz.ntmps158
  go_wp2
  go_ret
  exact ⟨rfl, rfl⟩
theorem bad_any (R : Nat) (u : Value) (g : Bool) (w : World) (h : w.heap[R]? = some (.cells #[u, .bool g] 209 (0, 0))) :
    Calls Tryz.prog 158 #[.pointer (some ⟨R, 0, none⟩)] w fun e w' => e = .returned (.bool (!g)) ∧ w = w' := by
  obtain ⟨c0, c1, f0, f1⟩ := pair_cell h
  have H := Lib.hid h
  clear h f0 f1 c0
  go_enter Tryz.func158, Tryz.ntmps158
  go_wp2
  go_ret
  exact ⟨rfl, rfl⟩
end Go.Proofs.YtapklelkcicjlaaGreatDoor.W

/-! Contracts of octet.At and of the reference's At and Of. No conditions. -/
namespace Go.Proofs.YtapklelkcicjlaaGreatDoor.W
set_option maxRecDepth 100000
open Go.RowKit Oc
set_option linter.unusedVariables false

theorem wrap_in {a : Nat} (h : a < 18446744073709551616) : IntKind.u64.wrap (a : Int) = (a : Int) := by
  rw [IntKind.wrap_u64]
  exact Int.emod_eq_of_lt (by omega) (by omega)
theorem or_step (a : Nat) (x : UInt8) (j : Nat) (hj : j < 8) (ha : a < 256 ^ j) : bits BinOp.or IntKind.u64 (a : Int) (IntKind.u64.wrap (IntKind.u64.wrap (x.toNat : Int) * 2 ^ (8 * j))) = ((a + x.toNat * 256 ^ j : Nat) : Int) := by
  have hx := x.toNat_lt
  have hs := shl_num x j hj
  have h8 := pow_le8 (k := j) (by omega)
  have e : (x.toNat : Int) * 2 ^ (8 * j) = ((x.toNat * 256 ^ j : Nat) : Int) := by rw [pow8, Int.natCast_mul, Int.natCast_pow]; rfl
  rw [wrap_in (a := x.toNat) (by omega), e, wrap_in hs, u64_or_nat a _ (by omega) hs, or_num a _ j ha]
theorem take_at {xs : List UInt8} {i j : Nat} {x : UInt8} (h : xs[i + j]? = some x) : (xs.drop i)[j]? = some x := by rw [List.getElem?_drop]; exact h

set_option maxHeartbeats 1000000 in
theorem at_yes (A : Option Addr) (n c : Nat) (xs : List UInt8) (i k : Nat) (w : World) (hn : n ≤ 1000000000) (ho : Oct w A n xs) (h1 : 1 ≤ k) (h8 : k ≤ 8) (hi : i + k ≤ n) (u : Nat) (hu : num ((xs.drop i).take k) = u) :
    Calls Tryz.prog 159 #[.slice A n c, .int .i64 (i : Int), .int .i64 (k : Int)] w fun e w' => e = .returned (.tuple #[.int .u64 (u : Int), .bool true]) ∧ w = w' := by
  have HO := Lib.hid ho
  have HU := Lib.hid hu
  clear ho hu
  go_enter Tryz.func159, Tryz.ntmps159
  go_wp2_with fail
  refine (fits_yes _ _ (by omega) (by omega)).mono ?_; rintro e w' ⟨rfl, rfl⟩
  go_wp2
  go_loop [8, 26] (fun s q => ∃ j a : Nat, j ≤ k ∧ q = .int .i64 j ∧ s = .int .u64 a ∧ Hid (num ((xs.drop i).take j) = a)) (fun _ q => k - (intOf q).toNat)
  case atStart => exact ⟨0, 0, by omega, rfl, rfl, rfl⟩
  case round =>
    obtain ⟨j, a, hj, rfl, rfl, E⟩ := hrel
    by_cases hlt : j < k
    · obtain ⟨b, off, x, rfl, hx, hcell⟩ := HO.out.at_ (k := i + j) (by omega)
      have ha : Hid (a < 256 ^ j) := by
        have h := num_lt ((xs.drop i).take j)
        rw [E.out] at h
        exact Nat.lt_of_lt_of_le h (Nat.pow_le_pow_right (by decide) (List.length_take_le _ _))
      have HX := Lib.hid (take_at hx)
      clear hx
      go_wp2
      go_round
      case rel => exact ⟨j + 1, _, by omega, by go_num, by rw [or_step a x j (by omega) ha.out], by show num _ = _; rw [num_take _ j x HX.out, E.out]⟩
      case measure => simp [intOf]; omega
    · have : j = k := by omega
      subst this
      have e := E.out.symm.trans HU.out
      subst e
      go_wp2
      go_ret2
      exact ⟨rfl, rfl⟩

theorem at_no (A : Option Addr) (n c : Nat) (i k : Int) (w : World) (hn : n ≤ 1000000000) (h : ¬ (1 ≤ k ∧ k ≤ 8 ∧ 0 ≤ i ∧ i + k ≤ n)) :
    Calls Tryz.prog 159 #[.slice A n c, .int .i64 i, .int .i64 k] w fun e w' => e = .returned (.tuple #[.int .u64 0, .bool false]) ∧ w = w' := by
  by_cases hf : 1 ≤ k ∧ k ≤ 8
  · obtain ⟨h1, h8⟩ := hf
    by_cases h0 : i < 0
    · clear h
      go_enter Tryz.func159, Tryz.ntmps159
      go_wp2_with fail
      refine (fits_yes _ _ (by omega) (by omega)).mono ?_; rintro e w' ⟨rfl, rfl⟩
      go_wp2
      go_ret2
      exact ⟨rfl, rfl⟩
    · have h2 : (n : Int) - k < i := by omega
      clear h
      go_enter Tryz.func159, Tryz.ntmps159
      go_wp2_with fail
      refine (fits_yes _ _ (by omega) (by omega)).mono ?_; rintro e w' ⟨rfl, rfl⟩
      go_wp2
      go_ret2
      exact ⟨rfl, rfl⟩
  · have HF := Lib.hid hf
    clear h hf
    go_enter Tryz.func159, Tryz.ntmps159
    go_wp2_with fail
    refine (fits_no _ _ HF.out).mono ?_; rintro e w' ⟨rfl, rfl⟩
    go_wp2
    go_ret2
    exact ⟨rfl, rfl⟩

theorem of_step (a : Nat) (x : UInt8) (h : x.toNat + 256 * a < 18446744073709551616) : IntKind.u64.wrap (IntKind.u64.wrap (256 * (a : Int)) + IntKind.u64.wrap (x.toNat : Int)) = ((x.toNat + 256 * a : Nat) : Int) := by
  have e : 256 * (a : Int) = ((256 * a : Nat) : Int) := by omega
  rw [e, wrap_in (by omega), wrap_in (by omega), ← Int.natCast_add, wrap_in (by omega), Nat.add_comm]

set_option maxHeartbeats 1000000 in
theorem of_any (A : Option Addr) (n c : Nat) (xs : List UInt8) (w : World) (hn : n ≤ 8) (ho : Oct w A n xs) (u : Nat) (hu : num xs = u) :
    Calls Tryz.prog 127 #[.slice A n c] w fun e w' => e = .returned (.int .u64 (u : Int)) ∧ w = w' := by
  have HO := Lib.hid ho
  have HU := Lib.hid hu
  clear ho hu
  go_enter Tryz.func127, Tryz.ntmps127
  go_wp2
  go_loop [3, 4] (fun s q => ∃ j a : Nat, j ≤ n ∧ q = .int .i64 ((j : Int) - 1) ∧ s = .int .u64 a ∧ Hid (num (xs.drop j) = a)) (fun _ q => (intOf q + 1).toNat)
  case atStart => exact ⟨n, 0, by omega, rfl, rfl, by show num _ = _; rw [List.drop_eq_nil_of_le (by rw [HO.out.len]; exact Nat.le_refl _)]; rfl⟩
  case round =>
    obtain ⟨j, a, hj, rfl, rfl, E⟩ := hrel
    rcases j with _ | j
    · have e := E.out.symm.trans HU.out
      subst e
      go_wp2
      go_ret
      exact ⟨rfl, rfl⟩
    · obtain ⟨b, off, x, rfl, hx, hcell⟩ := HO.out.at_ (k := j) (by omega)
      have HX := Lib.hid (num_drop xs j x hx)
      have hb : Hid (x.toNat + 256 * a < 18446744073709551616) := by
        have h := num_lt8 (xs.drop j) (by rw [List.length_drop, HO.out.len]; omega)
        rw [HX.out, E.out] at h
        exact h
      clear hx
      go_wp2
      go_round
      case rel => exact ⟨j, _, by omega, rfl, by rw [of_step a x hb.out], by show num _ = _; rw [HX.out, E.out]⟩
      case measure => simp [intOf]

end Go.Proofs.YtapklelkcicjlaaGreatDoor.W

/-! Contracts of octet.Put and of the reference's Num and Join: what each call returns, in new memory; nothing old turns. No conditions. -/
namespace Go.Proofs.YtapklelkcicjlaaGreatDoor.W
set_option maxRecDepth 100000
open Go.RowKit Oc
set_option linter.unusedVariables false

/-- what a call leaves that hands back octets in new memory -/
def Made (w : World) (xs : List UInt8) (e : Ending) (w' : World) : Prop := ∃ v, e = .returned v ∧ Own w' 5 w.heap.size v xs ∧ Below w.heap.size w w'

theorem byte_shr (N j : Nat) (h : N < 18446744073709551616) : IntKind.u8.wrap ((N : Int) / 2 ^ (8 * j)) = ((UInt8.ofNat (N / 256 ^ j)).toNat : Int) := by
  have e : (N : Int) / 2 ^ (8 * j) = ((N / 256 ^ j : Nat) : Int) := by rw [pow8, Int.natCast_ediv, Int.natCast_pow]; rfl
  rw [e, IntKind.wrap_u8']
  simp
theorem byte_mod (N : Nat) : (N : Int) % 256 = ((UInt8.ofNat N).toNat : Int) := by simp

set_option maxHeartbeats 1000000 in
theorem put_yes (A : Option Addr) (n c : Nat) (xs : List UInt8) (N k : Nat) (w : World) (hn : n ≤ 1000000000) (ho : Oct w A n xs) (hN : N < 18446744073709551616) (h1 : 1 ≤ k) (h8 : k ≤ 8) :
    Calls Tryz.prog 110 #[.slice A n c, .int .u64 (N : Int), .int .i64 (k : Int)] w (Made w (xs ++ octs N k)) := by
  have HO := Lib.hid ho
  have HN := Lib.hid hN
  have hxl := Lib.hid ho.len
  clear ho hN
  go_enter Tryz.func110, Tryz.ntmps110
  go_wp2_with fail
  refine (fits_yes _ _ (by omega) (by omega)).mono ?_; rintro e w' ⟨rfl, rfl⟩
  go_wp2_with (first
    | (at_make; refine wpList_make_oct rfl _ _ 57 rfl bt _ (n + k) rfl rfl (by omega) (by omega) ?_; intro w1 o1 b1; have O1 := Lib.hid o1; have B1 := Lib.hid b1; clear o1 b1)
    | (at_builtin; refine wpList_append_to rfl _ _ 57 rfl bt rfl O1.out B1.out _ rfl (HO.out.below B1.out) (by simp; omega) ?_; intro v2 w2 o2 b2; have O2 := Lib.hid o2; have B2 := Lib.hid b2; clear o2 b2))
  go_loopw [7, 21] (fun v q wr => ∃ j : Nat, j ≤ k ∧ q = .int .i64 j ∧ Hid (Own wr 5 w.heap.size v (xs ++ octs N j)) ∧ Hid (Below w.heap.size w wr)) (fun _ q _ => k - (intOf q).toNat)
  case atStart => exact ⟨0, by omega, rfl, by simpa [octs, Hid] using O2, B2⟩
  case round =>
    obtain ⟨j, hj, rfl, OJ, BJ⟩ := hrel
    by_cases hlt : j < k
    · go_wp2_with (at_builtin; refine wpList_append_to rfl _ _ 57 rfl bt rfl (OJ.out.alloc _) (BJ.out.alloc BJ.out.size _) _ rfl (Oct.one _ _ (UInt8.ofNat (N / 256 ^ j)) _ (byte_shr N j HN.out)) (by rw [List.length_append, octs_length, hxl.out]; omega) ?_; intro v3 w3 o3 b3; have O3 := Lib.hid o3; have B3 := Lib.hid b3; clear o3 b3)
      go_roundw
      case rel => exact ⟨j + 1, by omega, by go_num, by rw [octs_succ, ← List.append_assoc]; exact O3, B3⟩
      case measure => simp [intOf]; omega
    · have : j = k := by omega
      subst this
      go_wp2
      go_ret
      exact ⟨_, rfl, OJ.out, BJ.out⟩

set_option maxHeartbeats 1000000 in
theorem put_no (A : Option Addr) (n c : Nat) (xs : List UInt8) (N : Nat) (k : Int) (w : World) (hn : n ≤ 1000000000) (ho : Oct w A n xs) (h : ¬ (1 ≤ k ∧ k ≤ 8)) :
    Calls Tryz.prog 110 #[.slice A n c, .int .u64 (N : Int), .int .i64 k] w (Made w xs) := by
  have HO := Lib.hid ho
  have HK := Lib.hid h
  clear ho h
  go_enter Tryz.func110, Tryz.ntmps110
  go_wp2_with fail
  refine (fits_no _ _ HK.out).mono ?_; rintro e w' ⟨rfl, rfl⟩
  go_wp2_with (first
    | (at_make; refine wpList_make_oct rfl _ _ 57 rfl bt _ n rfl rfl (by omega) (by omega) ?_; intro w1 o1 b1; have O1 := Lib.hid o1; have B1 := Lib.hid b1; clear o1 b1)
    | (at_builtin; refine wpList_append_to rfl _ _ 57 rfl bt rfl O1.out B1.out _ rfl (HO.out.below B1.out) (by simp; omega) ?_; intro v2 w2 o2 b2; have O2 := Lib.hid o2; have B2 := Lib.hid b2; clear o2 b2))
  go_loopw [7, 21] (fun v q wr => q = .int .i64 0 ∧ Hid (Own wr 5 w.heap.size v xs) ∧ Hid (Below w.heap.size w wr)) (fun _ _ _ => 0)
  case atStart => exact ⟨rfl, O2, B2⟩
  case round =>
    obtain ⟨rfl, OJ, BJ⟩ := hrel
    go_wp2
    go_ret
    exact ⟨_, rfl, OJ.out, BJ.out⟩

set_option maxHeartbeats 1000000 in
theorem num_yes (N k : Nat) (w : World) (hN : N < 18446744073709551616) (h8 : k ≤ 8) :
    Calls Tryz.prog 105 #[.int .u64 (N : Int), .int .i64 (k : Int)] w (Made w (octs N k)) := by
  have HN := Lib.hid hN
  clear hN
  go_enter Tryz.func105, Tryz.ntmps105
  go_wp2
  go_loopw [0, 5, 6] (fun m v q wr => ∃ j M : Nat, j ≤ k ∧ q = .int .i64 j ∧ m = .int .u64 M ∧ M < 18446744073709551616 ∧ Hid (M = N / 256 ^ j) ∧ Hid (Own wr 5 w.heap.size v (octs N j)) ∧ Hid (Below w.heap.size w wr)) (fun _ _ q _ => k - (intOf q).toNat)
  case atStart => exact ⟨0, N, by omega, rfl, rfl, HN.out, by simp [Hid], Own.nil _ _ _, Below.refl _ _⟩
  case round =>
    obtain ⟨j, M, hj, rfl, rfl, hM, EM, OJ, BJ⟩ := hrel
    by_cases hlt : j < k
    · go_wp2_with (at_builtin; refine wpList_append_to rfl _ _ 57 rfl bt rfl (OJ.out.alloc _) (BJ.out.alloc BJ.out.size _) _ rfl (Oct.one _ _ (UInt8.ofNat M) _ (byte_mod M)) (by rw [octs_length]; omega) ?_; intro v3 w3 o3 b3; have O3 := Lib.hid o3; have B3 := Lib.hid b3; clear o3 b3)
      go_roundw
      case rel => exact ⟨j + 1, M / 256, by omega, by go_num, by go_num, by omega, by show _ = _; rw [EM.out, Nat.div_div_eq_div_mul, Nat.pow_succ], by show Own _ _ _ _ _; rw [octs_succ, ← EM.out]; exact O3.out, B3⟩
      case measure => simp [intOf]; omega
    · have : j = k := by omega
      subst this
      go_wp2
      go_ret
      exact ⟨_, rfl, OJ.out, BJ.out⟩

theorem num_no (N : Nat) (k : Int) (w : World) (h : ¬ (1 ≤ k ∧ k ≤ 8)) :
    Calls Tryz.prog 105 #[.int .u64 (N : Int), .int .i64 k] w (Made w []) := by
  by_cases h1 : 0 < k
  · have h8 : ¬ k ≤ 8 := by omega
    clear h
    go_enter Tryz.func105, Tryz.ntmps105
    go_wp2
    go_loopw [0, 5, 6] (fun m v q wr => q = .int .i64 0 ∧ v = .slice none 0 0 ∧ Hid (wr = w)) (fun _ _ q _ => 0)
    case atStart => exact ⟨rfl, rfl, rfl⟩
    case round =>
      obtain ⟨rfl, rfl, E⟩ := hrel
      go_wp2
      go_ret
      have e := E.out
      subst e
      exact ⟨_, rfl, Own.nil _ _ _, Below.refl _ _⟩
  · clear h
    go_enter Tryz.func105, Tryz.ntmps105
    go_wp2
    go_loopw [0, 5, 6] (fun m v q wr => q = .int .i64 0 ∧ v = .slice none 0 0 ∧ Hid (wr = w)) (fun _ _ q _ => 0)
    case atStart => exact ⟨rfl, rfl, rfl⟩
    case round =>
      obtain ⟨rfl, rfl, E⟩ := hrel
      go_wp2
      go_ret
      have e := E.out
      subst e
      exact ⟨_, rfl, Own.nil _ _ _, Below.refl _ _⟩

set_option maxHeartbeats 1000000 in
theorem join_two (A A2 : Option Addr) (n n2 c c2 : Nat) (xs ys : List UInt8) (b : Nat) (w : World) (hn : n ≤ 1000000000) (hn2 : n2 ≤ 1000000000) (h0 : w.cell? ⟨b, 0, none⟩ = some (.slice A n c)) (h1 : w.cell? ⟨b, 1, none⟩ = some (.slice A2 n2 c2))
    (ho : Oct w A n xs) (ho2 : Oct w A2 n2 ys) :
    Calls Tryz.prog 104 #[.slice (some ⟨b, 0, none⟩) 2 2] w (Made w (xs ++ ys)) := by
  have hb : b < w.heap.size := World.block_lt_of_cell? w _ h0
  have HO := Lib.hid ho
  have HO2 := Lib.hid ho2
  have H1 := Lib.hid h1
  have H0 := Lib.hid h0
  have hxl := Lib.hid ho.len
  clear ho ho2 h1 h0
  go_enter Tryz.func104, Tryz.ntmps104
  go_wp2
  go_loopw [3, 4] (fun v q wr => ∃ j : Nat, j ≤ 2 ∧ q = .int .i64 j ∧ Hid (Own wr 5 w.heap.size v (if j = 0 then [] else if j = 1 then xs else xs ++ ys)) ∧ Hid (Below w.heap.size w wr)) (fun _ q _ => 2 - (intOf q).toNat)
  case atStart => exact ⟨0, by omega, rfl, Own.nil _ _ _, Below.refl _ _⟩
  case round =>
    obtain ⟨j, hj, rfl, OJ, BJ⟩ := hrel
    rcases j with _ | _ | _ | j
    · have hc := (BJ.out.cell (p := ⟨b, 0, none⟩) hb).trans H0.out
      go_wp2_with (at_builtin; refine wpList_append_to rfl _ _ 57 rfl bt rfl OJ.out BJ.out _ rfl (HO.out.below BJ.out) (by simp; omega) ?_; intro v3 w3 o3 b3; have O3 := Lib.hid o3; have B3 := Lib.hid b3; clear o3 b3)
      go_roundw
      case rel => exact ⟨1, by omega, rfl, O3, B3⟩
      case measure => simp [intOf]
    · have hc := (BJ.out.cell (p := ⟨b, 1, none⟩) hb).trans H1.out
      go_wp2_with (at_builtin; refine wpList_append_to rfl _ _ 57 rfl bt rfl OJ.out BJ.out _ rfl (HO2.out.below BJ.out) (by simp [hxl.out]; omega) ?_; intro v3 w3 o3 b3; have O3 := Lib.hid o3; have B3 := Lib.hid b3; clear o3 b3)
      go_roundw
      case rel => exact ⟨2, by omega, rfl, O3, B3⟩
      case measure => simp [intOf]
    · go_wp2
      go_ret
      exact ⟨_, rfl, OJ.out, BJ.out⟩
    · omega
end Go.Proofs.YtapklelkcicjlaaGreatDoor.W

/-! Contracts of the readers: octet's Read, Left, Done, spoil, U, Bytes, and the reference's Take. No conditions. -/
namespace Go.Proofs.YtapklelkcicjlaaGreatDoor.W
set_option maxRecDepth 100000
open Go.RowKit Oc
set_option linter.unusedVariables false

theorem bad_rd {w : World} {R : Nat} {xs : List UInt8} {g : Bool} (h : Rd w 209 R xs g) :
    Calls Tryz.prog 158 #[.pointer (some ⟨R, 0, none⟩)] w fun e w' => e = .returned (.bool (!g)) ∧ w = w' := by
  obtain ⟨A, c, hh, _⟩ := h
  exact bad_any R _ g w hh

theorem spoil_any {w : World} {R : Nat} {u v : Value} (h : w.heap[R]? = some (.cells #[u, v] 209 (0, 0))) :
    Calls Tryz.prog 160 #[.pointer (some ⟨R, 0, none⟩)] w fun e w' => e = .returned (.tuple #[]) ∧ w' = (w.setCell ⟨R, 0, none⟩ (.slice none 0 0)).setCell ⟨R, 1, none⟩ (.bool false) := by
  obtain ⟨c0, c1, f0, f1⟩ := pair_cell h
  have H := Lib.hid h
  clear h
  go_enter Tryz.func160, Tryz.ntmps160
  go_wp2
  go_end0
  exact ⟨rfl, rfl⟩

/-- what a call leaves that turns one pair -/
def Turned (w : World) (T : TypeId) (R : Nat) (v : Value) (xs : List UInt8) (g : Bool) (e : Ending) (w' : World) : Prop := e = .returned v ∧ Rd w' T R xs g ∧ w.grownBy w' (some R)
/-- what Read leaves -/
def NewRd (w : World) (xs : List UInt8) (e : Ending) (w' : World) : Prop :=
  ∃ R, e = .returned (.pointer (some ⟨R, 0, none⟩)) ∧ w.heap.size ≤ R ∧ Rd w' 209 R xs true ∧ Below w.heap.size w w'

theorem read_any (A : Option Addr) (n c : Nat) (xs : List UInt8) (w : World) (hn : n ≤ 1000000000) (ho : Oct w A n xs) :
    Calls Tryz.prog 148 #[.slice A n c] w (NewRd w xs) := by
  have HO := Lib.hid ho
  clear ho
  go_enter Tryz.func148, Tryz.ntmps148
  go_wp2_with (at_builtin; refine wpList_append_to (w0 := w) rfl _ _ 57 rfl bt rfl (Own.nil _ _ _) (Below.refl _ _) _ rfl HO.out (by simp; omega) ?_; intro v1 w1 o1 b1; obtain ⟨A1, c1, rfl, l1, s1⟩ := o1.slice; have S1 := Lib.hid s1; have B1 := Lib.hid b1; clear o1 b1 s1)
  go_ret
  exact ⟨_, rfl, B1.out.size, rd_new S1.out l1 _ _, B1.out.alloc B1.out.size _⟩

theorem u_nil (k : Int) (w : World) : Calls Tryz.prog 149 #[.pointer none, .int .i64 k] w fun e w' => e = .returned (.int .u64 0) ∧ w = w' := by
  go_enter Tryz.func149, Tryz.ntmps149
  go_wp2_with fail
  refine (bad_nil _).mono ?_; rintro e w' ⟨rfl, rfl⟩
  go_wp2
  go_ret
  exact ⟨rfl, rfl⟩
theorem u_bad {w : World} {R : Nat} {xs : List UInt8} (k : Int) (h : Rd w 209 R xs false) : Calls Tryz.prog 149 #[.pointer (some ⟨R, 0, none⟩), .int .i64 k] w fun e w' => e = .returned (.int .u64 0) ∧ w = w' := by
  have H := Lib.hid h
  clear h
  go_enter Tryz.func149, Tryz.ntmps149
  go_wp2_with fail
  refine (bad_rd H.out).mono ?_; rintro e w' ⟨rfl, rfl⟩
  go_wp2
  go_ret
  exact ⟨rfl, rfl⟩

theorem len_drop (xs : List UInt8) (k : Nat) : xs.length - k = (xs.drop k).length := by rw [List.length_drop]

set_option maxHeartbeats 1000000 in
theorem u_take {w : World} {R : Nat} {xs : List UInt8} (k : Nat) (h : Rd w 209 R xs true) (hn : xs.length ≤ 1000000000) (h1 : 1 ≤ k) (h8 : k ≤ 8) (hk : k ≤ xs.length) (u : Nat) (hu : num (xs.take k) = u) :
    Calls Tryz.prog 149 #[.pointer (some ⟨R, 0, none⟩), .int .i64 (k : Int)] w (Turned w 209 R (.int .u64 (u : Int)) (xs.drop k) true) := by
  have H := Lib.hid h
  have HU := Lib.hid hu
  obtain ⟨A, c, hh, hc, ho⟩ := h
  have HO := Lib.hid ho
  obtain ⟨c0, c1, f0, f1⟩ := pair_cell hh
  have HH := Lib.hid hh
  clear hh f1 c1 ho hu
  go_enter Tryz.func149, Tryz.ntmps149
  go_wp2_with fail
  refine (bad_rd H.out).mono ?_; rintro e w' ⟨rfl, rfl⟩
  go_wp2_with fail
  refine (at_yes _ _ _ _ 0 k _ hn HO.out h1 h8 (by omega) u (by simpa using HU.out)).mono ?_; rintro e w' ⟨rfl, rfl⟩
  go_wp2
  all_goals (go_ret; first | exact ⟨rfl, rd_cut HH.out HO.out hc hk⟩ | exact ⟨rfl, rd_cut_end HH.out hc hk ‹_›⟩)

set_option maxHeartbeats 1000000 in
theorem u_fail {w : World} {R : Nat} {xs : List UInt8} (k : Int) (h : Rd w 209 R xs true) (hn : xs.length ≤ 1000000000) (hk : ¬ (1 ≤ k ∧ k ≤ 8 ∧ k ≤ xs.length)) :
    Calls Tryz.prog 149 #[.pointer (some ⟨R, 0, none⟩), .int .i64 k] w (Turned w 209 R (.int .u64 0) [] false) := by
  have H := Lib.hid h
  have HK := Lib.hid hk
  obtain ⟨A, c, hh, hc, ho⟩ := h
  obtain ⟨c0, c1, f0, f1⟩ := pair_cell hh
  have HH := Lib.hid hh
  clear hh f1 c1 ho hk
  go_enter Tryz.func149, Tryz.ntmps149
  go_wp2_with fail
  refine (bad_rd H.out).mono ?_; rintro e w' ⟨rfl, rfl⟩
  go_wp2_with fail
  refine (at_no _ _ _ 0 k _ hn (fun h => HK.out (by omega))).mono ?_; rintro e w' ⟨rfl, rfl⟩
  go_wp2_with fail
  refine (spoil_any HH.out).mono ?_; rintro e w' ⟨rfl, hw⟩
  have HW := Lib.hid hw
  clear hw
  go_wp2
  go_ret
  have e := HW.out
  subst e
  exact ⟨rfl, rd_spoil HH.out⟩

end Go.Proofs.YtapklelkcicjlaaGreatDoor.W
