/-
  Rows and links: what is cut out, what is put in. No conditions.
-/
import Derived.Test.YtngfhcapjonkcaaLsNum
namespace Go.Proofs.Ytngfhcapjonkcaa.Ls
open W
set_option linter.unusedVariables false

theorem head_nd {n : Nat} {L : List (List Nat)} {k : Nat} {r : List Nat} (hO : Ok n L) (hk : L[k]? = some r) : ((n + k) :: r).Nodup := by
  rw [List.nodup_cons]
  exact ⟨fun h => by have := hO.lt k r hk _ h; omega, hO.nd k r hk⟩
/-- who stands in another ring -/
theorem other_ring {n : Nat} {L : List (List Nat)} {k j : Nat} {r t : List Nat} {y : Nat} (hO : Ok n L) (hk : L[k]? = some r) (hj : L[j]? = some t) (hne : j ≠ k) (hy : y ∈ r ∨ y = n + k) : ∀ x ∈ (n + j) :: t, x ≠ y := by
  intro x hx e
  subst e
  rcases List.mem_cons.1 hx with e | hx
  · rcases hy with hy | hy
    · have := hO.lt k r hk _ hy; omega
    · omega
  · rcases hy with hy | hy
    · exact hne (hO.one j k t r x hj hk hx hy)
    · have := hO.lt j t hj _ hx; omega
theorem mem_ring {h x : Nat} {t : List Nat} (hx : x ∈ h :: t ++ [h]) : x ∈ h :: t := by
  rcases List.mem_append.1 hx with h1 | h1
  · exact h1
  · rw [List.mem_singleton] at h1; subst h1; exact List.mem_cons_self ..
theorem same_ring {f g : Nat → Lnk} {h : Nat} {t : List Nat} (hs : ∀ x ∈ h :: t, g x = f x) (hl : Lk f (h :: t ++ [h])) : Lk g (h :: t ++ [h]) :=
  Lk.congr _ (fun x hx => by rw [hs x (mem_ring (List.dropLast_subset _ hx))]) (fun x hx => by rw [hs x (mem_ring (List.mem_of_mem_tail hx))]) hl

/-- A NODE IS CUT OUT -/
theorem fit_cut {n : Nat} {L : List (List Nat)} {f : Nat → Lnk} {k a : Nat} {u v : List Nat} (hO : Ok n L) (hF : Fit n L f) (hk : L[k]? = some (u ++ a :: v)) :
    ∃ p q, p < n + L.length ∧ q < n + L.length ∧ p ≠ a ∧ q ≠ a ∧ (f a).prev = p ∧ (f a).next = q ∧ (f a).list = (k : Int) ∧ Ok n (L.set k (u ++ v)) ∧ Fit n (L.set k (u ++ v)) (cutF f a p q) := by
  have hkl := (List.getElem?_eq_some_iff.1 hk).1
  have hnd := head_nd hO hk
  obtain ⟨u', p, e1, hp⟩ := last_of (n + k) u
  obtain ⟨q, v', e2, hq⟩ := first_of v (n + k)
  obtain ⟨pa, qa, ap, aq, hring⟩ := ring_cut hnd e1 e2 (hF.ring k _ hk)
  have hp' : p ∈ u ++ a :: v ∨ p = n + k := hp.imp_left fun h => List.mem_append_left _ h
  have hq' : q ∈ u ++ a :: v ∨ q = n + k := hq.imp_left fun h => List.mem_append_right _ (List.mem_cons_of_mem _ h)
  have ha' : a ∈ u ++ a :: v := by simp
  have d := nd_of hnd
  refine ⟨p, q, ?_, ?_, pa, qa, ap, aq, hF.list k _ hk a (by simp), ?_, ?_⟩
  · rcases hp' with h | h
    · have := hO.lt k _ hk _ h; omega
    · omega
  · rcases hq' with h | h
    · have := hO.lt k _ hk _ h; omega
    · omega
  · refine ok_set hO hk (fun x hx => hO.lt k _ hk x ?_) ?_ (fun x hx j t hj hne hxt => hne (hO.one j k t _ x hj hk hxt ?_))
    · simp only [List.mem_append, List.mem_cons] at hx ⊢; rcases hx with h | h <;> simp [h]
    · rw [List.nodup_append]; exact ⟨d.un, d.vn, fun x hx y hy e => d.uv x hx (e ▸ hy)⟩
    · simp only [List.mem_append, List.mem_cons] at hx ⊢; rcases hx with h | h <;> simp [h]
  · refine ⟨fun j t hj => ?_, fun j t hj x hx => ?_, fun x hx hfr => ?_⟩
    · rcases (get_set hk).1 hj with ⟨rfl, rfl⟩ | ⟨hne, hj⟩
      · exact hring
      · exact same_ring (fun x hx => cut_far (other_ring hO hk hj hne (.inl ha') x hx) (other_ring hO hk hj hne hp' x hx) (other_ring hO hk hj hne hq' x hx)) (hF.ring j t hj)
    · rcases (get_set hk).1 hj with ⟨rfl, rfl⟩ | ⟨hne, hj⟩
      · have hxa : x ≠ a := by
          rintro rfl
          simp only [List.mem_cons, List.mem_append] at hx
          rcases hx with h | h | h
          · exact d.ha h.symm
          · exact d.au h
          · exact d.av h
        rw [cut_list hxa]
        refine hF.list j _ hk x ?_
        simp only [List.mem_cons, List.mem_append] at hx ⊢
        rcases hx with h | h | h <;> simp [h]
      · rw [cut_list (other_ring hO hk hj hne (.inl ha') x hx)]
        exact hF.list j t hj x hx
    · by_cases e : x = a
      · subst e; exact cut_self
      · have hnot : ∀ (j : Nat) (t : List Nat), L[j]? = some t → x ∉ t := by
          intro j t hj hxt
          by_cases hjk : j = k
          · subst hjk
            rw [hk] at hj
            injection hj with hj
            subst hj
            refine hfr j (u ++ v) ((get_set hk).2 (.inl ⟨rfl, rfl⟩)) ?_
            simp only [List.mem_append, List.mem_cons] at hxt ⊢
            rcases hxt with h | h | h
            · exact .inl h
            · exact absurd h e
            · exact .inr h
          · exact hfr j t ((get_set hk).2 (.inr ⟨hjk, hj⟩)) hxt
        rw [cut_far e ?_ ?_]
        · exact hF.free x hx hnot
        · rintro rfl
          rcases hp' with h | h
          · exact hnot k _ hk h
          · omega
        · rintro rfl
          rcases hq' with h | h
          · exact hnot k _ hk h
          · omega

/-- A NODE IS PUT IN -/
theorem fit_put {n : Nat} {L : List (List Nat)} {f : Nat → Lnk} {k a p q : Nat} {u v u' v' : List Nat} (hO : Ok n L) (hF : Fit n L f) (hk : L[k]? = some (u ++ v)) (ha : a < n) (hfr : ∀ (j : Nat) (t : List Nat), L[j]? = some t → a ∉ t)
    (e1 : (n + k) :: u = u' ++ [p]) (e2 : v ++ [n + k] = q :: v') :
    p < n + L.length ∧ q < n + L.length ∧ p ≠ a ∧ q ≠ a ∧ (f p).next = q ∧ (f p).list = (k : Int) ∧ Ok n (L.set k (u ++ a :: v)) ∧ Fit n (L.set k (u ++ a :: v)) (putF f a p q (k : Int)) := by
  have hkl := (List.getElem?_eq_some_iff.1 hk).1
  have hnd := head_nd hO hk
  have han : a ∉ (n + k) :: (u ++ v) := by
    intro h
    rcases List.mem_cons.1 h with h | h
    · omega
    · exact hfr k _ hk h
  obtain ⟨pa, qa, pq, hring⟩ := ring_put (k := (k : Int)) hnd han e1 e2 (hF.ring k _ hk)
  have hp : p ∈ (n + k) :: u := by rw [e1]; simp
  have hq : q ∈ v ++ [n + k] := by rw [e2]; simp
  have hp' : p ∈ u ++ v ∨ p = n + k := (List.mem_cons.1 hp).symm.imp_left fun h => List.mem_append_left _ h
  have hq' : q ∈ u ++ v ∨ q = n + k := (List.mem_append.1 hq).imp (fun h => List.mem_append_right _ h) (fun h => List.mem_singleton.1 h)
  have d := nd_in hnd han
  refine ⟨?_, ?_, pa, qa, pq, ?_, ?_, ?_⟩
  · rcases hp' with h | h
    · have := hO.lt k _ hk _ h; omega
    · omega
  · rcases hq' with h | h
    · have := hO.lt k _ hk _ h; omega
    · omega
  · refine hF.list k _ hk p ?_
    rcases hp' with h | h
    · exact List.mem_cons_of_mem _ h
    · rw [h]; exact List.mem_cons_self ..
  · refine ok_set hO hk (fun x hx => ?_) ?_ (fun x hx j t hj hne hxt => ?_)
    · by_cases e : x = a
      · rw [e]; exact ha
      · refine hO.lt k _ hk x ?_
        simp only [List.mem_append, List.mem_cons, e, false_or] at hx ⊢; exact hx
    · rw [List.nodup_append, List.nodup_cons]
      refine ⟨d.un, ⟨d.av, d.vn⟩, fun x hx y hy e => ?_⟩
      subst e
      rcases List.mem_cons.1 hy with h | h
      · exact d.au (h ▸ hx)
      · exact d.uv x hx h
    · by_cases e : x = a
      · exact hfr j t hj (e ▸ hxt)
      · refine hne (hO.one j k t _ x hj hk hxt ?_)
        simp only [List.mem_append, List.mem_cons, e, false_or] at hx ⊢; exact hx
  · refine ⟨fun j t hj => ?_, fun j t hj x hx => ?_, fun x hx hfx => ?_⟩
    · rcases (get_set hk).1 hj with ⟨rfl, rfl⟩ | ⟨hne, hj2⟩
      · exact hring
      · refine same_ring (fun x hx => put_far ?_ (other_ring hO hk hj2 hne hp' x hx) (other_ring hO hk hj2 hne hq' x hx)) (hF.ring j t hj2)
        rintro rfl
        rcases List.mem_cons.1 hx with h | h
        · omega
        · exact hfr j t hj2 h
    · rcases (get_set hk).1 hj with ⟨rfl, rfl⟩ | ⟨hne, hj2⟩
      · by_cases e : x = a
        · rw [e, put_self pa qa]
        · rw [put_list e]
          refine hF.list j _ hk x ?_
          simp only [List.mem_cons, List.mem_append, e, false_or] at hx ⊢
          exact hx
      · rw [put_list ?_]
        · exact hF.list j t hj2 x hx
        · rintro rfl
          rcases List.mem_cons.1 hx with h | h
          · omega
          · exact hfr j t hj2 h
    · have hxa : x ≠ a := by
        rintro rfl
        exact hfx k (u ++ x :: v) ((get_set hk).2 (.inl ⟨rfl, rfl⟩)) (by simp)
      have hnot : ∀ (j : Nat) (t : List Nat), L[j]? = some t → x ∉ t := by
        intro j t hj hxt
        by_cases hjk : j = k
        · subst hjk
          rw [hk] at hj
          injection hj with hj
          subst hj
          refine hfx j (u ++ a :: v) ((get_set hk).2 (.inl ⟨rfl, rfl⟩)) ?_
          simp only [List.mem_append, List.mem_cons] at hxt ⊢
          rcases hxt with h | h
          · exact .inl h
          · exact .inr (.inr h)
        · exact hfx j t ((get_set hk).2 (.inr ⟨hjk, hj⟩)) hxt
      rw [put_far hxa ?_ ?_]
      · exact hF.free x hx hnot
      · rintro rfl
        rcases hp' with h | h
        · exact hnot k _ hk h
        · omega
      · rintro rfl
        rcases hq' with h | h
        · exact hnot k _ hk h
        · omega

/-- who is first and last of a ring -/
theorem head_next {f : Nat → Lnk} {h q : Nat} {r v' : List Nat} (e2 : r ++ [h] = q :: v') (hl : Lk f (h :: r ++ [h])) : (f h).next = q := by
  have : h :: r ++ [h] = h :: q :: v' := by rw [List.cons_append, e2]
  rw [this] at hl
  exact hl.1
theorem head_prev {f : Nat → Lnk} {h p : Nat} {r u' : List Nat} (e1 : h :: r = u' ++ [p]) (hl : Lk f (h :: r ++ [h])) : (f h).prev = p := by
  have : h :: r ++ [h] = u' ++ p :: [h] := by rw [e1]; simp
  rw [this] at hl
  exact (Lk.mid u' [] hl).2

/-- in which row a number stands -/
def In (L : List (List Nat)) (k a : Nat) : Prop := ∃ r, L[k]? = some r ∧ a ∈ r
theorem where_is (L : List (List Nat)) (a : Nat) : (∃ (k : Nat) (u v : List Nat), L[k]? = some (u ++ a :: v)) ∨ ∀ (k : Nat) (r : List Nat), L[k]? = some r → a ∉ r := by
  by_cases h : ∃ (k : Nat) (r : List Nat), L[k]? = some r ∧ a ∈ r
  · obtain ⟨k, r, hk, ha⟩ := h
    obtain ⟨u, v, rfl⟩ := List.append_of_mem ha
    exact .inl ⟨k, u, v, hk⟩
  · exact .inr fun k r hk ha => h ⟨k, r, hk, ha⟩

/-- rows without a number -/
def rm (L : List (List Nat)) (a : Nat) : List (List Nat) := L.map fun r => r.filter fun x => x != a
theorem rm_len (L : List (List Nat)) (a : Nat) : (rm L a).length = L.length := List.length_map ..
theorem rm_at {L : List (List Nat)} {a k : Nat} : (rm L a)[k]? = (L[k]?).map fun r => r.filter fun x => x != a := List.getElem?_map ..
theorem filter_id {a : Nat} {r : List Nat} (h : a ∉ r) : (r.filter fun x => x != a) = r := by
  rw [List.filter_eq_self]
  intro x hx
  simp only [bne_iff_ne]
  exact fun e => h (e ▸ hx)
theorem rm_none {L : List (List Nat)} {a : Nat} (h : ∀ (k : Nat) (r : List Nat), L[k]? = some r → a ∉ r) : rm L a = L := by
  apply List.ext_getElem?
  intro k
  rw [rm_at]
  cases e : L[k]? with
  | none => rfl
  | some r => simp only [Option.map_some]; rw [filter_id (h k r e)]
theorem rm_set {n : Nat} {L : List (List Nat)} {a k : Nat} {u v : List Nat} (hO : Ok n L) (hk : L[k]? = some (u ++ a :: v)) : rm L a = L.set k (u ++ v) := by
  have d := nd_of (head_nd hO hk)
  have hlt := (List.getElem?_eq_some_iff.1 hk).1
  apply List.ext_getElem?
  intro j
  rw [rm_at, List.getElem?_set]
  by_cases e : k = j
  · subst e
    rw [hk, if_pos rfl, if_pos hlt]
    simp only [Option.map_some]
    rw [List.filter_append, List.filter_cons_of_neg (by simp), filter_id d.au, filter_id d.av]
  · rw [if_neg e]
    cases ej : L[j]? with
    | none => rfl
    | some r =>
      simp only [Option.map_some]
      rw [filter_id]
      exact fun h => e (hO.one k j _ r a hk ej (by simp) h)
theorem rm_not {L : List (List Nat)} {a : Nat} : ∀ (k : Nat) (r : List Nat), (rm L a)[k]? = some r → a ∉ r := by
  intro k r hk ha
  rw [rm_at] at hk
  cases e : L[k]? with
  | none => rw [e] at hk; cases hk
  | some t =>
    rw [e] at hk
    simp only [Option.map_some, Option.some.injEq] at hk
    subst hk
    simp at ha
/-- rows with a number put ahead of one of them, or behind it -/
def rowOf (L : List (List Nat)) (k : Nat) : List Nat := L[k]?.getD []
def push (L : List (List Nat)) (k a : Nat) : List (List Nat) := (rm L a).set k (a :: rowOf (rm L a) k)
def app (L : List (List Nat)) (k a : Nat) : List (List Nat) := (rm L a).set k (rowOf (rm L a) k ++ [a])
theorem push_len (L : List (List Nat)) (k a : Nat) : (push L k a).length = L.length := by rw [push, List.length_set, rm_len]
theorem app_len (L : List (List Nat)) (k a : Nat) : (app L k a).length = L.length := by rw [app, List.length_set, rm_len]
theorem rowOf_at {L : List (List Nat)} {k : Nat} (h : k < L.length) : L[k]? = some (rowOf L k) := by
  unfold rowOf
  rw [List.getElem?_eq_getElem h]; rfl
end Go.Proofs.Ytngfhcapjonkcaa.Ls
