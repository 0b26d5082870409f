/-
  Pages: plain facts on which octets are one. No conditions.
-/
import Derived.Test.YthclgehifomkhaaDoorPgTurn
namespace Go.Proofs.YthclgehifomkhaaDoor.W
open Go.RowKit Oc
set_option linter.unusedVariables false

/-- is there a kind? -/
abbrev Right (k : Int) : Prop := 1 ≤ k ∧ k ≤ 7
/-- what is summed of a page -/
def body (k : Nat) (ps : List UInt8) : List UInt8 := 213 :: UInt8.ofNat k :: (ps ++ List.replicate (58 - ps.length) 0)
theorem body_length (k : Nat) (ps : List UInt8) (h : ps.length ≤ 58) : (body k ps).length = 60 := by
  simp [body]
  omega
def putE (k : Int) (n : Nat) : Int := if ¬ Right k then 1 else if 58 < n then 7 else 0
def putL (k : Int) (ps : List UInt8) : List UInt8 := if putE k ps.length = 0 then sealed (body k.toNat ps) else []
theorem putE_arg {k : Int} (h : ¬ Right k) (n : Nat) : putE k n = 1 := if_pos h
theorem putE_long {k : Int} (h : Right k) {n : Nat} (hn : 58 < n) : putE k n = 7 := by unfold putE; rw [if_neg (fun h2 => h2 h), if_pos hn]
theorem putE_ok {k : Int} (h : Right k) {n : Nat} (hn : n ≤ 58) : putE k n = 0 := by unfold putE; rw [if_neg (fun h2 => h2 h), if_neg (by omega)]
theorem putL_no {k : Int} {ps : List UInt8} (h : putE k ps.length ≠ 0) : putL k ps = [] := if_neg h
theorem putL_ok {k : Nat} (h : Right (k : Int)) {ps : List UInt8} (hn : ps.length ≤ 58) : putL k ps = sealed (body k ps) := by
  unfold putL
  rw [if_pos (putE_ok h hn)]
  simp

/-- the kind that two octets tell -/
def kindV (x y : UInt8) : Nat := if x = 213 ∧ Right (y.toNat : Int) then y.toNat else 0
def kindL (bs : List UInt8) : Nat := kindV (bs.getD 0 0) (bs.getD 1 0)
def kindE (ys : List UInt8) : Nat := if ys.length = 64 ∧ openE ys = 0 then kindL (openL ys) else 0
def getE (ys : List UInt8) (k : Int) : Int := if ys.length ≠ 64 then 30 else if openE ys ≠ 0 then openE ys else if Right k ∧ (kindL (openL ys) : Int) = k then 0 else 31
def getL (ys : List UInt8) (k : Int) : List UInt8 := if getE ys k = 0 then (openL ys).drop 2 else []
theorem getE_short {ys : List UInt8} (h : ys.length ≠ 64) (k : Int) : getE ys k = 30 := if_pos h
theorem getE_sum {ys : List UInt8} (h : ys.length = 64) (h2 : openE ys ≠ 0) (k : Int) : getE ys k = openE ys := by
  unfold getE; rw [if_neg (fun h3 => h3 h), if_pos h2]
theorem getE_ok {ys : List UInt8} {k : Int} (h : ys.length = 64) (h2 : openE ys = 0) (h3 : Right k) (h4 : (kindL (openL ys) : Int) = k) : getE ys k = 0 := by
  unfold getE; rw [if_neg (fun h3 => h3 h), if_neg (fun h3 => h3 h2), if_pos ⟨h3, h4⟩]
theorem getE_form {ys : List UInt8} {k : Int} (h : ys.length = 64) (h2 : openE ys = 0) (h3 : ¬ (Right k ∧ (kindL (openL ys) : Int) = k)) : getE ys k = 31 := by
  unfold getE; rw [if_neg (fun h3 => h3 h), if_neg (fun h3 => h3 h2), if_neg h3]
theorem getL_no {ys : List UInt8} {k : Int} (h : getE ys k ≠ 0) : getL ys k = [] := if_neg h
theorem getL_ok {ys : List UInt8} {k : Int} (h : getE ys k = 0) : getL ys k = (openL ys).drop 2 := if_pos h
theorem openE_some (ys : List UInt8) (h : ys.length = 64) : openE ys = 0 ∨ openE ys = 40 := by
  unfold openE
  rw [if_neg (by omega)]
  by_cases h2 : num (ys.drop (ys.length - 4)) = sum (ys.take (ys.length - 4))
  · left; rw [if_pos h2]
  · right; rw [if_neg h2]
theorem openL_length {ys : List UInt8} (h : ys.length = 64) (h2 : openE ys = 0) : (openL ys).length = 60 := by
  rw [openL_yes h2, List.length_take, h]
  rfl
theorem getE_zero {ys : List UInt8} {k : Int} (h : getE ys k = 0) : ys.length = 64 ∧ openE ys = 0 ∧ Right k ∧ (kindL (openL ys) : Int) = k := by
  by_cases h1 : ys.length = 64
  · rcases openE_some ys h1 with h2 | h2
    · by_cases h3 : Right k ∧ (kindL (openL ys) : Int) = k
      · exact ⟨h1, h2, h3⟩
      · rw [getE_form h1 h2 h3] at h; cases h
    · rw [getE_sum h1 (by rw [h2]; decide), h2] at h; cases h
  · rw [getE_short h1] at h; cases h
theorem kindE_get {ys : List UInt8} {k : Nat} (h : getE ys (k : Int) = 0) : kindE ys = k := by
  obtain ⟨h1, h2, h3, h4⟩ := getE_zero h
  unfold kindE
  rw [if_pos ⟨h1, h2⟩]
  omega
theorem kindV_le (x y : UInt8) : kindV x y = 0 ∨ Right (kindV x y : Int) := by
  unfold kindV
  by_cases h : x = 213 ∧ Right (y.toNat : Int)
  · rw [if_pos h]; exact .inr h.2
  · rw [if_neg h]; exact .inl rfl
theorem kindE_none {ys : List UInt8} (h : ∀ k : Nat, Right (k : Int) → getE ys (k : Int) ≠ 0) : kindE ys = 0 := by
  unfold kindE
  by_cases h1 : ys.length = 64 ∧ openE ys = 0
  · rw [if_pos h1]
    rcases kindV_le ((openL ys).getD 0 0) ((openL ys).getD 1 0) with h2 | h2
    · exact h2
    · exact absurd (getE_ok h1.1 h1.2 h2 rfl) (h _ h2)
  · rw [if_neg h1]
theorem kindV_is {x y : UInt8} {k : Int} (hk : Right k) : (kindV x y : Int) = k ↔ x = 213 ∧ (y.toNat : Int) = k := by
  unfold kindV
  by_cases h : x = 213 ∧ Right (y.toNat : Int)
  · rw [if_pos h]
    exact ⟨fun e => ⟨h.1, e⟩, fun e => e.2⟩
  · rw [if_neg h]
    refine ⟨fun e => ?_, fun e => absurd ⟨e.1, e.2 ▸ hk⟩ h⟩
    unfold Right at hk
    omega
theorem getD_of {bs : List UInt8} {j : Nat} {x : UInt8} (h : bs[j]? = some x) : bs.getD j 0 = x := by simp [List.getD, h]

/-- what is put is got -/
theorem page_facts {k : Nat} (hk : Right (k : Int)) {ps : List UInt8} (hn : ps.length ≤ 58) : (sealed (body k ps)).length = 64 ∧ openE (sealed (body k ps)) = 0 ∧ openL (sealed (body k ps)) = body k ps ∧ kindL (body k ps) = k := by
  refine ⟨by rw [seal_length, body_length k ps hn], openE_seal _, openL_seal _, ?_⟩
  have h1 : k < 256 := by unfold Right at hk; omega
  have h2 : (UInt8.ofNat k).toNat = k := by simp; omega
  show kindV 213 (UInt8.ofNat k) = k
  unfold kindV
  rw [h2, if_pos ⟨rfl, hk⟩]
theorem page_get {k : Nat} (hk : Right (k : Int)) {ps : List UInt8} (hn : ps.length ≤ 58) : getE (sealed (body k ps)) (k : Int) = 0 := by
  obtain ⟨h1, h2, h3, h4⟩ := page_facts hk hn
  exact getE_ok h1 h2 hk (by rw [h3, h4])
theorem page_got {k : Nat} (hk : Right (k : Int)) {ps : List UInt8} (hn : ps.length ≤ 58) : getL (sealed (body k ps)) (k : Int) = ps ++ List.replicate (58 - ps.length) 0 := by
  rw [getL_ok (page_get hk hn), (page_facts hk hn).2.2.1]
  rfl
theorem page_other {k : Nat} (hk : Right (k : Int)) {ps : List UInt8} (hn : ps.length ≤ 58) {o : Int} (ho : o ≠ k) : getE (sealed (body k ps)) o = 31 := by
  obtain ⟨h1, h2, h3, h4⟩ := page_facts hk hn
  refine getE_form h1 h2 fun h => ho ?_
  rw [h3, h4] at h
  exact h.2.symm
theorem page_kind {k : Nat} (hk : Right (k : Int)) {ps : List UInt8} (hn : ps.length ≤ 58) : kindE (sealed (body k ps)) = k := kindE_get (page_get hk hn)
/-- are all octets 0? -/
def blank (xs : List UInt8) : Bool := xs.all (· == 0)
theorem blank_iff (xs : List UInt8) : blank xs = true ↔ xs = List.replicate xs.length 0 := by
  unfold blank
  rw [List.eq_replicate_iff]
  simp
theorem blank_zeros (n : Nat) : blank (List.replicate n 0) = true := by simp [blank]
theorem page_blank (k : Nat) (ps : List UInt8) : blank (sealed (body k ps)) = false := by
  simp [blank, sealed, body]
/-- bits turned within 32 in a row -/
theorem page_rots {k : Nat} {ps : List UInt8} (hn : ps.length ≤ 58) (at_ T : Nat) (h : ¬ sealed (body k ps) = turned (sealed (body k ps)) at_ T 32) (j : Int) :
    getE (turned (sealed (body k ps)) at_ T 32) j = 40 ∧ kindE (turned (sealed (body k ps)) at_ T 32) = 0 := by
  have hl : (turned (sealed (body k ps)) at_ T 32).length = 64 := by rw [turned_length, seal_length, body_length k ps hn]
  have he : openE (turned (sealed (body k ps)) at_ T 32) = 40 := by
    obtain ⟨ys, hys⟩ : ∃ ys, body k ps = ys := ⟨_, rfl⟩
    rw [hys] at h hl ⊢
    obtain ⟨U, hU, e⟩ := turned_num (sealed ys) at_ T 32
    have hl1 := turned_length (sealed ys) at_ T 32
    have hl2 := seal_length ys
    obtain ⟨cs, hcs⟩ : ∃ cs, turned (sealed ys) at_ T 32 = cs := ⟨_, rfl⟩
    rw [hcs] at e h hl hl1 ⊢
    have hc : cs.length - 4 = ys.length := by omega
    refine openE_no (by omega) fun hq => h ?_
    rw [hc] at hq
    have e2 : cs.take ys.length ++ cs.drop ys.length = cs := List.take_append_drop _ _
    have h3 := burst_seal (xs := ys) (zs := octs (sum ys) 4) (xs' := cs.take ys.length) (zs' := cs.drop ys.length) (by rw [List.length_take]; omega) (by rw [List.length_drop, octs_length]; omega) at_ U hU (by rw [e2]; exact e) (num_sum ys) hq
    rw [e2] at h3
    exact h3
  refine ⟨by rw [getE_sum hl (by rw [he]; decide), he], ?_⟩
  unfold kindE
  rw [if_neg (fun h2 => by rw [he] at h2; cases h2.2)]
end Go.Proofs.YthclgehifomkhaaDoor.W
