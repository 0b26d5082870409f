/-
  What the document's Next makes of pages, extent by extent: plain facts; its All. No conditions.
-/
import Derived.Test.YtgdgehfapfgdfaaGreatDoorGbRef2
namespace Go.Proofs.YtgdgehfapfgdfaaGreatDoor.Tb
open Go.RowKit Oc Dm W Dw Sr
set_option linter.unusedVariables false
set_option maxRecDepth 100000

/-- those below i that are named -/
def lt_ (ls : List Int) (i : Nat) : List Int := ((List.range i).filter (named ls)).map fun (e : Nat) => (e : Int)
theorem lt_zero (ls : List Int) : lt_ ls 0 = [] := rfl
theorem lt_yes {ls : List Int} {i : Nat} (h : named ls i = true) : lt_ ls (i + 1) = lt_ ls i ++ [(i : Int)] := by
  unfold lt_
  rw [List.range_succ, List.filter_append, List.map_append]
  congr 1
  simp [h]
theorem lt_no {ls : List Int} {i : Nat} (h : named ls i = false) : lt_ ls (i + 1) = lt_ ls i := by
  unfold lt_
  rw [List.range_succ, List.filter_append]
  simp [h]
theorem mem_lt {ls : List Int} {i e : Nat} : (e : Int) ∈ lt_ ls i ↔ e < i ∧ (e : Int) ∈ ls := by
  unfold lt_
  rw [List.mem_map]
  constructor
  · rintro ⟨x, hx, hxe⟩
    rw [List.mem_filter, List.mem_range] at hx
    have : x = e := by omega
    subst this
    exact ⟨hx.1, named_iff.1 hx.2⟩
  · rintro ⟨h1, h2⟩
    exact ⟨e, List.mem_filter.2 ⟨List.mem_range.2 h1, named_iff.2 h2⟩, rfl⟩
theorem lt_inside (ls : List Int) (ne e : Nat) : (e : Int) ∈ lt_ ls ne ↔ (e : Int) ∈ inside ls ne := by
  rw [mem_lt, mem_inside]
  constructor
  · rintro ⟨h1, h2⟩; exact ⟨h2, by omega, by omega⟩
  · rintro ⟨h1, h2, h3⟩; exact ⟨by omega, h1⟩
theorem named_of {l l' : List Int} (h : ∀ e : Nat, (e : Int) ∈ l ↔ (e : Int) ∈ l') : named l = named l' := by
  funext e
  rw [Bool.eq_iff_iff, named_iff, named_iff, h]
theorem hit_of {l l' : List Int} (h : named l = named l') : hit l = hit l' := by
  funext j
  unfold hit
  rw [h]
theorem upp_of {l l' : List Int} (h : named l = named l') : upp l = upp l' := by
  funext j p
  unfold upp add1
  rw [h]
theorem nexts_of {l l' : List Int} (h : named l = named l') : nexts l = nexts l' := by
  funext L
  unfold nexts
  rw [hit_of h, upp_of h]
theorem hits_of {l l' : List Int} (h : named l = named l') : hits l = hits l' := by
  funext np
  unfold hits
  rw [hit_of h]
theorem hit_nil (j : Nat) : hit [] j = false := by unfold hit; simp [named]
theorem nexts_nil (L : List Gp) : nexts [] L = L := by
  apply List.ext_getElem?
  intro j
  rw [nexts_at]
  cases L[j]? with
  | none => rfl
  | some p => rw [Option.map_some, hit_nil]; rfl
theorem hit_snoc (l : List Int) (e j : Nat) : hit (l ++ [(e : Int)]) j = (hit l j || decide (j = e / 6)) := by
  rw [Bool.eq_iff_iff, Bool.or_eq_true, hit_iff, hit_iff, decide_eq_true_eq]
  constructor
  · rintro ⟨k, hk, h⟩
    rcases List.mem_append.1 h with h | h
    · exact .inl ⟨k, hk, h⟩
    · rw [List.mem_singleton] at h
      right; omega
  · rintro (⟨k, hk, h⟩ | h)
    · exact ⟨k, hk, List.mem_append_left _ h⟩
    · subst h
      exact ⟨e % 6, by omega, List.mem_append_right _ (by rw [List.mem_singleton]; omega)⟩
theorem add1_snoc (l : List Int) (e x : Nat) (h : ¬ (e : Int) ∈ l) : add1 (l ++ [(e : Int)]) x = if x = e then 1 else add1 l x := by
  unfold add1
  rw [named_snoc]
  by_cases hx : x = e
  · subst hx
    rw [if_pos rfl, if_pos (by simp)]
  · rw [if_neg hx]
    have : ((e : Int) == (x : Int)) = false := by simp; omega
    rw [this, Bool.or_false]
theorem gcs_congr {p q : Gp} (h0 : p.no = q.no) (h1 : p.v = q.v) (h2 : ∀ k, k < 6 → p.g k = q.g k) : gcs p = gcs q := by
  unfold gcs
  rw [h0, h1, h2 0 (by decide), h2 1 (by decide), h2 2 (by decide), h2 3 (by decide), h2 4 (by decide), h2 5 (by decide)]
/-- a page whose generation k went up -/
def gup (y : Gp) (k : Nat) : Gp := ⟨y.no, y.v, up y.g k (y.g k + 1)⟩
def vup (y : Gp) : Gp := ⟨y.no, y.v + 1, y.g⟩
theorem gcs_gup (y : Gp) {k : Nat} (hk : k < 6) : (gcs y).set (2 + k) (.int .u64 ((y.g k : Int) + 1)) = gcs (gup y k) := by
  match k, hk with
  | 0, _ => rfl
  | 1, _ => rfl
  | 2, _ => rfl
  | 3, _ => rfl
  | 4, _ => rfl
  | 5, _ => rfl
theorem gcs_vup (y : Gp) : (gcs y).set 1 (.int .u64 ((y.v : Int) + 1)) = gcs (vup y) := rfl
/-- one named extent more -/
theorem nexts_snoc {l : List Int} {e : Nat} (hn : ¬ (e : Int) ∈ l) {L : List Gp} {y : Gp} (hy : (nexts l L)[e / 6]? = some y) :
    ((nexts l L).map gcs).set (e / 6) (gcs (if hit l (e / 6) = true then gup y (e % 6) else vup (gup y (e % 6)))) = (nexts (l ++ [(e : Int)]) L).map gcs := by
  apply List.ext_getElem?
  intro j
  rw [List.getElem?_set, List.getElem?_map, List.getElem?_map, nexts_at, nexts_at, List.length_map]
  have hlt : e / 6 < (nexts l L).length := (List.getElem?_eq_some_iff.1 hy).1
  rw [nexts_at] at hy
  by_cases hj : e / 6 = j
  · subst hj
    rw [if_pos rfl, if_pos hlt]
    cases hL : L[e / 6]? with
    | none => rw [hL] at hy; cases hy
    | some p =>
      rw [hL, Option.map_some] at hy
      injection hy with hy
      rw [Option.map_some, Option.map_some]
      congr 1
      rw [if_pos (show hit (l ++ [(e : Int)]) (e / 6) = true by rw [hit_snoc]; simp)]
      subst hy
      by_cases h : hit l (e / 6) = true
      · rw [if_pos h, if_pos h]
        refine gcs_congr rfl rfl fun k hk => ?_
        show up (upp l (e / 6) p).g (e % 6) ((upp l (e / 6) p).g (e % 6) + 1) k = p.g k + add1 (l ++ [(e : Int)]) (6 * (e / 6) + k)
        rw [add1_snoc _ _ _ hn]
        unfold up upp
        dsimp only
        by_cases h2 : k = e % 6
        · rw [if_pos h2, if_pos (by omega), ← h2]
          have : add1 l (6 * (e / 6) + k) = 0 := by
            unfold add1
            rw [if_neg]
            rw [named_iff]
            rw [show 6 * (e / 6) + k = e by omega]
            exact hn
          omega
        · rw [if_neg h2, if_neg (by omega)]
      · rw [if_neg h, if_neg h]
        refine gcs_congr rfl rfl fun k hk => ?_
        show up p.g (e % 6) (p.g (e % 6) + 1) k = p.g k + add1 (l ++ [(e : Int)]) (6 * (e / 6) + k)
        rw [add1_snoc _ _ _ hn]
        unfold up
        by_cases h2 : k = e % 6
        · rw [if_pos h2, if_pos (by omega), h2]
        · rw [if_neg h2, if_neg (by omega), add1_no h hk]
          rfl
  · rw [if_neg hj]
    cases hL : L[j]? with
    | none => rfl
    | some p =>
      rw [Option.map_some, Option.map_some, Option.map_some, Option.map_some]
      congr 1
      have e1 : hit (l ++ [(e : Int)]) j = hit l j := by rw [hit_snoc, decide_eq_false (fun h => hj h.symm), Bool.or_false]
      rw [e1]
      split
      · refine gcs_congr rfl rfl fun k hk => ?_
        show p.g k + add1 l (6 * j + k) = p.g k + add1 (l ++ [(e : Int)]) (6 * j + k)
        rw [add1_snoc _ _ _ hn, if_neg (by omega)]
      · rfl
/-- which pages are other ones -/
def flags (l : List Int) (np : Nat) : List Value := (List.range np).map fun j => .bool (hit l j)
theorem flags_len (l : List Int) (np : Nat) : (flags l np).length = np := by simp [flags]
theorem flags_nil (np : Nat) : flags [] np = List.replicate np (.bool false) := by
  unfold flags
  apply List.ext_getElem?
  intro i
  by_cases h : i < np <;> simp [h, hit_nil]
theorem flags_at {l : List Int} {np j : Nat} (h : j < np) : (flags l np)[j]? = some (.bool (hit l j)) := by
  unfold flags
  simp [h]
theorem flags_set (l : List Int) (np e : Nat) : (flags l np).set (e / 6) (.bool true) = flags (l ++ [(e : Int)]) np := by
  unfold flags
  apply List.ext_getElem?
  intro i
  rw [List.getElem?_set]
  by_cases h : e / 6 = i
  · subst h
    rw [if_pos rfl]
    by_cases h2 : e / 6 < np
    · simp [h2, hit_snoc]
    · simp [h2]
  · rw [if_neg h]
    by_cases h2 : i < np
    · simp [h2, hit_snoc]
      intro h3
      exact absurd h3.symm h
    · simp [h2]
theorem boolrow : Rw.ElTy Tryz.prog 102 4 (.bool false) 1 := ⟨Tryz.underlying102, by kernel_rfl, rfl, by decide⟩
section
variable {w w' : World} {H F : Nat → Prop} {T E g cap ne np ga n : Nat} {p : Pn.Pl} {L : List Gp}
theorem gensV_eq (L : List Gp) (ne : Nat) : gensV L ne = ((List.range ne).map fun e => (gen L e : Int)).map (Value.int .u64) := by unfold gensV; rw [List.map_map]; rfl
theorem gensV_snoc (L : List Gp) (j : Nat) : gensV L (j + 1) = gensV L j ++ [.int .u64 (gen L j : Int)] := by unfold gensV; rw [List.range_succ, List.map_append]; rfl
theorem gensV_len (L : List Gp) (ne : Nat) : (gensV L ne).length = ne := by simp [gensV]
theorem rall_any (h : TbAt w H 148 T E g cap p L) (hp : Pln p ne np ga n) (hl : L.length = np) :
    Calls Tryz.prog 42 #[.pointer (some ⟨T, 0, none⟩)] w fun e w' => ∃ v, e = .returned v ∧ Rw.OwnV w' 30 w.heap.size v (gensV L ne) ∧ Below w.heap.size w w' := by
  have HH := Lib.hid h
  have HP := Lib.hid hp
  have HL := Lib.hid hl
  have hne : ne ≤ 100000 := by have := hp.he1; have := hp.hn; have := hp.hn2; omega
  clear h hp hl
  go_enter Tryz.func42, Tryz.ntmps42
  go_wp2
  go_loopw [3, 4] (fun v q4 wr => ∃ j : Nat, j ≤ ne ∧ q4 = .int .i64 (j : Int) ∧ Hid (Rw.OwnV wr 30 w.heap.size v (gensV L j)) ∧ Hid (Below w.heap.size w wr)) (fun _ q4 _ => ne - (intOf q4).toNat)
  case atStart => exact ⟨0, by omega, rfl, Rw.OwnV.nil _ _ _, Below.refl _ _⟩
  case round =>
    obtain ⟨j, hj, rfl, OJ, BJ⟩ := hrel
    have HJ := Lib.hid (HH.out.below BJ.out)
    have c2 : wr.cell? ⟨T, 2, none⟩ = some (.int .i64 (ne : Int)) := by
      have := HJ.out.cells.2.2.1 1 (.int .i64 p.a1) rfl
      rwa [HP.out.h1] at this
    by_cases hlt : j < ne
    · have hlt2 : (j : Int) < (ne : Int) := by omega
      go_wp2_with fail
      refine (rget_yes HJ.out HP.out HL.out j hlt).mono ?_; rintro r w3 ⟨rfl, rfl⟩
      go_wp2_with (at_builtin; refine Rw.wpList_append_one rfl _ _ _ rfl u64row rfl OJ.out BJ.out _ rfl rfl (by rw [gensV_len]; omega) ?_; intro v4 w4 o4 b4; rw [← gensV_snoc] at o4; have O4 := Lib.hid o4; have B4 := Lib.hid b4; clear o4 b4)
      go_roundw
      case rel => exact ⟨j + 1, by omega, by go_num, O4, B4⟩
      case measure => simp [intOf]; omega
    · have hlt2 : ¬ (j : Int) < (ne : Int) := by omega
      have e : j = ne := by omega
      have O5 := Lib.hid OJ.out
      rw [e] at O5
      clear e
      go_wp2
      go_ret
      exact ⟨_, rfl, O5.out, BJ.out⟩
end
end Go.Proofs.YtgdgehfapfgdfaaGreatDoor.Tb
