/- The search of the reference, without memory. -/
import Derived.Test.YtpnjmkmobdaefaaP
namespace Go.Proofs.Ytpnjmkmobdaefaa
set_option linter.unusedVariables false
set_option linter.unusedSimpArgs false
def fr (u : List Bool) (k : Nat) : Prop := u.getD k true = false
theorem fr_set {u : List Bool} {i k : Nat} : fr (u.set i true) k ↔ fr u k ∧ k ≠ i := by
  unfold fr
  simp only [List.getD_eq_getElem?_getD, List.getElem?_set]
  by_cases e : i = k
  · subst e
    by_cases h : i < u.length <;> simp [h]
  · rw [if_neg e]
    constructor
    · exact fun h => ⟨h, fun q => e q.symm⟩
    · exact fun h => h.1
structure WSp (M : List L3) (u : List Bool) (x b : Int) (r : Option (List L3)) (u' : List Bool) : Prop where
  len : u'.length = u.length
  mono : ∀ k, fr u' k → fr u k
  found : ∀ p, r = some p → ∃ t, VT M.reverse x t ∧ (ix t).Nodup ∧ en x t = b ∧ lk M.reverse x t = p ∧ ∀ k ∈ ix t, fr u k
  miss : r = none → ∀ t, VT M.reverse x t → (ix t).Nodup → en x t = b → (∀ k ∈ ix t, fr u k) → False
  new : r = none → ∀ k, fr u k → ¬ fr u' k → ∃ s l, VT M.reverse x s ∧ (ix s).Nodup ∧ (∀ j ∈ ix s, fr u j) ∧ nth M.reverse k = some l ∧ (en x s = l.a ∨ en x s = l.b)
structure LI (M : List L3) (u : List Bool) (x b : Int) (i : Nat) (uc : List Bool) : Prop where
  len : uc.length = u.length
  mono : ∀ k, fr uc k → fr u k
  new : ∀ k, fr u k → ¬ fr uc k → ∃ s l, VT M.reverse x s ∧ (ix s).Nodup ∧ (∀ j ∈ ix s, fr u j) ∧ nth M.reverse k = some l ∧ (en x s = l.a ∨ en x s = l.b)
  av : ∀ t, VT M.reverse x t → (ix t).Nodup → en x t = b → (∀ k ∈ ix t, fr u k) → (∀ k ∈ ix t, fr uc k) ∧ ∀ k z r, t = (k, z) :: r → i ≤ k
theorem LI.start (M : List L3) (u : List Bool) (x b : Int) : LI M u x b 0 u :=
  ⟨rfl, fun _ h => h, fun _ h k => absurd h k, fun _ _ _ _ h => ⟨h, fun _ _ _ _ => Nat.zero_le _⟩⟩
theorem LI.skip1 {M : List L3} {u : List Bool} {x b : Int} {i : Nat} {uc : List Bool} (h : LI M u x b i uc) (hi : ¬ fr uc i) : LI M u x b (i + 1) uc :=
  ⟨h.len, h.mono, h.new, fun t h1 h2 h3 h4 => ⟨(h.av t h1 h2 h3 h4).1, fun k z r e => by
    have a := (h.av t h1 h2 h3 h4).2 k z r e
    have c := (h.av t h1 h2 h3 h4).1 k (by rw [e]; simp [ix])
    have : k ≠ i := fun q => hi (q ▸ c)
    omega⟩⟩
theorem LI.skip2 {M : List L3} {u : List Bool} {x b : Int} {i : Nat} {uc : List Bool} {l : L3} (h : LI M u x b i uc) (hl : M[i]? = some l) (ha : l.a ≠ x) (hb : l.b ≠ x) : LI M u x b (i + 1) uc :=
  ⟨h.len, h.mono, h.new, fun t h1 h2 h3 h4 => ⟨(h.av t h1 h2 h3 h4).1, fun k z r e => by
    have a := (h.av t h1 h2 h3 h4).2 k z r e
    have : k ≠ i := fun q => by
      subst e
      obtain ⟨⟨l', e1, e2⟩, _⟩ := h1
      rw [nth_rev, q, hl] at e1
      cases e1
      rcases e2 with ⟨c, _⟩ | ⟨c, _⟩
      · exact ha c
      · exact hb c
    omega⟩⟩
theorem LI.done {M : List L3} {u : List Bool} {x b : Int} {uc : List Bool} (h : LI M u x b M.length uc) (hx : x ≠ b) : WSp M u x b none uc :=
  ⟨h.len, h.mono, fun p e => (by cases e), fun _ t h1 h2 h3 h4 => (by
    cases t with
    | nil => exact hx h3
    | cons p r =>
      obtain ⟨k, z⟩ := p
      have a := (h.av _ h1 h2 h3 h4).2 k z r rfl
      have c := ix_lt h1 k (by simp [ix])
      simp at c; omega), fun _ => h.new⟩
theorem jn_fun {l : L3} {x z z' : Int} (h : jn l x z) (h' : jn l x z') : z = z' := by
  rcases jn_ends h h' with ⟨_, e⟩ | ⟨e, e'⟩
  · exact e
  · rw [e', e]
theorem WSp.self (M : List L3) (u : List Bool) (b : Int) : WSp M u b b (some []) u :=
  ⟨rfl, fun _ h => h, fun p e => (by cases e; exact ⟨[], trivial, List.nodup_nil, rfl, rfl, fun k hk => (by cases hk)⟩), fun e => (by cases e), fun e => (by cases e)⟩
theorem LI.found {M : List L3} {u : List Bool} {x b z : Int} {i : Nat} {uc u2 : List Bool} {l : L3} {p : List L3} (h : LI M u x b i uc) (hl : M[i]? = some l) (hj : jn l x z) (hf : fr uc i) (hw : WSp M (uc.set i true) z b (some p) u2) : WSp M u x b (some (⟨x, z, l.y⟩ :: p)) u2 := by
  obtain ⟨t, a1, a2, a3, a4, a5⟩ := hw.found p rfl
  refine ⟨hw.len.trans (by simp [h.len]), fun k hk => h.mono k (fr_set.1 (hw.mono k hk)).1, fun q e => ?_, fun e => (by cases e), fun e => (by cases e)⟩
  cases e
  have hn : nth M.reverse i = some l := by rw [nth_rev]; exact hl
  refine ⟨(i, z) :: t, ⟨⟨l, hn, hj⟩, a1⟩, ?_, a3, ?_, ?_⟩
  · show (i :: ix t).Nodup
    exact List.nodup_cons.2 ⟨fun hi => (fr_set.1 (a5 i hi)).2 rfl, a2⟩
  · show (⟨x, z, whyAt M.reverse i⟩ : L3) :: lk M.reverse z t = _
    rw [a4]; unfold whyAt; rw [hn]
  · intro k hk
    rcases List.mem_cons.1 hk with e | e
    · have e : k = i := e
      rw [e]; exact h.mono i hf
    · exact h.mono k (fr_set.1 (a5 k e)).1
theorem LI.fail {M : List L3} {u : List Bool} {x b z : Int} {i : Nat} {uc u2 : List Bool} {l : L3} (hwf : WFR M.reverse) (h : LI M u x b i uc) (hl : M[i]? = some l) (hj : jn l x z) (hf : fr uc i) (hw : WSp M (uc.set i true) z b none u2) : LI M u x b (i + 1) u2 := by
  have hn : nth M.reverse i = some l := by rw [nth_rev]; exact hl
  refine ⟨hw.len.trans (by simp [h.len]), fun k hk => h.mono k (fr_set.1 (hw.mono k hk)).1, fun k hk hk2 => ?_, fun t h1 h2 h3 h4 => ?_⟩
  · by_cases c : fr uc k
    · by_cases e : k = i
      · subst e
        refine ⟨[], l, trivial, List.nodup_nil, fun j hj => (by cases hj), hn, ?_⟩
        rcases hj with ⟨a, _⟩ | ⟨a, _⟩
        · exact .inl a.symm
        · exact .inr a.symm
      · obtain ⟨s, l', b1, b2, b3, b4, b5⟩ := hw.new rfl k (fr_set.2 ⟨c, e⟩) hk2
        refine ⟨(i, z) :: s, l', ⟨⟨l, hn, hj⟩, b1⟩, ?_, ?_, b4, b5⟩
        · show (i :: ix s).Nodup
          exact List.nodup_cons.2 ⟨fun hi => (fr_set.1 (b3 i hi)).2 rfl, b2⟩
        · intro j hj
          rcases List.mem_cons.1 hj with e | e
          · have e : j = i := e
            rw [e]; exact h.mono i hf
          · exact h.mono j (fr_set.1 (b3 j e)).1
    · exact h.new k hk c
  · obtain ⟨a1, a2⟩ := h.av t h1 h2 h3 h4
    have first : ∀ k z' r, t = (k, z') :: r → k ≠ i := by
      intro k z' r e q
      subst e; subst q
      obtain ⟨⟨l', e1, e2⟩, e3⟩ := h1
      rw [hn] at e1
      cases e1
      have := jn_fun e2 hj
      subst this
      have h2' : (k :: ix r).Nodup := h2
      rw [List.nodup_cons] at h2'
      exact hw.miss rfl r e3 h2'.2 h3 (fun j hj => fr_set.2 ⟨a1 j (List.mem_cons_of_mem _ hj), fun q => h2'.1 (q ▸ hj)⟩)
    have hit : i ∉ ix t := by
      intro hi
      obtain ⟨s, v, r, z', l', e, ev, b1, b2, b3, b4, _, _⟩ := vt_touch h1 hi
      rw [hn] at b1
      cases b1
      subst e
      rw [ix_app, List.nodup_append] at h2
      rcases jn_ends hj b2 with ⟨e1, e2⟩ | ⟨e1, e2⟩
      · have := vt_closed hwf b3 h2.1 (by rw [← ev, e1])
        subst this
        exact first i z' r rfl rfl
      · have c : VT M.reverse x (s ++ [(i, z')]) := by
          rw [vt_app]; exact ⟨b3, ⟨l, hn, ev ▸ b2⟩, trivial⟩
        have := vt_closed hwf c (by
          rw [ix_app]
          show (ix s ++ [i]).Nodup
          rw [List.nodup_append]
          exact ⟨h2.1, by simp, fun j hj k hk => by
            have := h2.2.2 j hj i (by simp [ix])
            simp at hk; subst hk; exact this⟩) (by rw [en_app]; exact e1.symm)
        simp at this
    refine ⟨fun k hk => ?_, fun k z' r e => by have := a2 k z' r e; have := first k z' r e; omega⟩
    have hki : k ≠ i := fun e => hit (e ▸ hk)
    by_cases c : fr u2 k
    · exact c
    · exfalso
      obtain ⟨s', l', b1, b2, b3, b4, b5⟩ := hw.new rfl k (fr_set.2 ⟨a1 k hk, hki⟩) c
      obtain ⟨s, v, r, z', l'', e, ev, c1, c2, c3, c4, _, _⟩ := vt_touch h1 hk
      rw [b4] at c1
      cases c1
      subst e
      have hA : VT M.reverse x ((i, z) :: s') := ⟨⟨l, hn, hj⟩, b1⟩
      have hAn : (ix ((i, z) :: s')).Nodup := by
        show (i :: ix s').Nodup
        exact List.nodup_cons.2 ⟨fun hi => (fr_set.1 (b3 i hi)).2 rfl, b2⟩
      have hAe : en x ((i, z) :: s') = en z s' := rfl
      rw [ix_app, List.nodup_append] at h2
      rw [ix_app, List.mem_append, not_or] at hit
      have toU : en z s' = v → False := fun e => by
        have := vt_uniq hwf hA c3 hAn h2.1 (by rw [hAe, e, ev])
        exact hit.1 (by rw [← this]; simp [ix])
      have toZ : en z s' = z' → False := fun e => by
        have cc : VT M.reverse x (s ++ [(k, z')]) := by
          rw [vt_app]; exact ⟨c3, ⟨l', b4, ev ▸ c2⟩, trivial⟩
        have := vt_uniq hwf hA cc hAn (by
          rw [ix_app]
          show (ix s ++ [k]).Nodup
          rw [List.nodup_append]
          exact ⟨h2.1, by simp, fun j hj q hq => by
            have := h2.2.2 j hj k (by simp [ix])
            simp at hq; subst hq; exact this⟩) (by rw [hAe, e, en_app]; rfl)
        have hm : i ∈ ix (s ++ [(k, z')]) := by rw [← this]; simp [ix]
        rw [ix_app, List.mem_append] at hm
        rcases hm with q | q
        · exact hit.1 q
        · simp [ix] at q; exact hki q.symm
      rcases c2 with ⟨p1, p2⟩ | ⟨p1, p2⟩ <;> rcases b5 with q | q
      · exact toU (q.trans p1)
      · exact toZ (q.trans p2)
      · exact toZ (q.trans p2)
      · exact toU (q.trans p1)
/-- the search from nothing used -/
theorem WSp.path {M : List L3} {u u' : List Bool} {x b : Int} {r : Option (List L3)} (hwf : WFR M.reverse) (hu : ∀ k, k < M.length → fr u k) (h : WSp M u x b r u') : r = PR M.reverse x b := by
  cases r with
  | some p =>
    obtain ⟨t, a1, a2, a3, a4, _⟩ := h.found p rfl
    have := tr_path hwf a1 a2
    rw [a3, a4] at this
    exact this.symm
  | none =>
    cases e : PR M.reverse x b with
    | none => rfl
    | some p =>
      obtain ⟨t, a1, a2, a3, a4⟩ := pr_trail e
      exact (h.miss rfl t a1 a2 a3 (fun k hk => hu k (by have := ix_lt a1 k hk; simpa using this))).elim
/-- how many links are free -/
def nfree (u : List Bool) : Nat := (u.filter (fun x => !x)).length
theorem nfree_set : ∀ {u : List Bool} {i : Nat}, fr u i → nfree (u.set i true) < nfree u
  | [], i, h => by simp [fr] at h
  | c :: u, 0, h => by
    have : c = false := by simpa [fr] using h
    subst this
    simp [nfree]
  | c :: u, i + 1, h => by
    have h' : fr u i := by simpa [fr] using h
    have := nfree_set h'
    simp only [nfree, List.set_cons_succ, List.filter_cons] at *
    split <;> simp <;> omega
theorem nfree_le : ∀ {u u' : List Bool}, u'.length = u.length → (∀ k, fr u' k → fr u k) → nfree u' ≤ nfree u
  | [], [], _, _ => Nat.le_refl _
  | c :: u, c' :: u', hl, h => by
    have h' : ∀ k, fr u' k → fr u k := fun k hk => by have := h (k + 1) (by simpa [fr] using hk); simpa [fr] using this
    have ih := nfree_le (by simpa using hl) h'
    have h0 := h 0
    simp only [nfree, List.filter_cons] at *
    cases c <;> cases c' <;> simp [fr] at * <;> omega
  | [], c :: u, hl, _ => by simp at hl
  | c :: u, [], hl, _ => by simp at hl
end Go.Proofs.Ytpnjmkmobdaefaa
