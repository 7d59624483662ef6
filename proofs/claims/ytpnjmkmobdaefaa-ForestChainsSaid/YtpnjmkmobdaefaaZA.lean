/- The law of the chains. -/
import Derived.Test.YtpnjmkmobdaefaaY
namespace Go.Proofs.Ytpnjmkmobdaefaa
open Go.RowKit Go.Maps
set_option linter.unusedVariables false
set_option linter.unusedSimpArgs false
/-- a path of a trail: it starts where the trail starts, each link goes on where the one before ended, is a link of the forest, ends nowhere twice, and not at the start -/
theorem lk_chain {L : List L3} : ∀ {x : Int} {t : List (Nat × Int)} {k : Nat} {l : L3}, VT L x t → (lk L x t)[k]? = some l → l.a = (match k with | 0 => x | j + 1 => (match (lk L x t)[j]? with | some m => m.b | none => 0)) ∧ ∃ i n, nth L i = some n ∧ (n = l ∨ n = turnL l)
  | x, [], k, l, h, hk => by simp [lk] at hk
  | x, (i, z) :: t, 0, l, h, hk => by
    obtain ⟨⟨n, h1, h2⟩, h3⟩ := h
    have hk : some (⟨x, z, whyAt L i⟩ : L3) = some l := hk
    cases hk
    refine ⟨rfl, i, n, h1, ?_⟩
    have hy : whyAt L i = n.y := by unfold whyAt; rw [h1]
    obtain ⟨na, nb, ny⟩ := n
    rw [hy]
    rcases h2 with ⟨e1, e2⟩ | ⟨e1, e2⟩
    · left; dsimp only at *; subst e1; subst e2; rfl
    · right; dsimp only at *; subst e1; subst e2; rfl
  | x, (i, z) :: t, k + 1, l, h, hk => by
    obtain ⟨h0, h3⟩ := h
    have hk : (lk L z t)[k]? = some l := hk
    obtain ⟨a, b⟩ := lk_chain h3 hk
    refine ⟨?_, b⟩
    rw [a]
    cases k with
    | zero => rfl
    | succ j => rfl
theorem lk_b {L : List L3} : ∀ {x : Int} {t : List (Nat × Int)} {k : Nat} {l : L3}, (lk L x t)[k]? = some l → ∃ s r i, t = s ++ (i, l.b) :: r ∧ s.length = k
  | x, [], k, l, hk => by simp [lk] at hk
  | x, (i, z) :: t, 0, l, hk => by
    have hk : some (⟨x, z, whyAt L i⟩ : L3) = some l := hk
    cases hk
    exact ⟨[], t, i, rfl, rfl⟩
  | x, (i, z) :: t, k + 1, l, hk => by
    have hk : (lk L z t)[k]? = some l := hk
    obtain ⟨s, r, j, e, hl⟩ := lk_b hk
    exact ⟨(i, z) :: s, r, j, by rw [e]; rfl, by simp [hl]⟩
theorem ix_app_nodup {s t : List (Nat × Int)} (h : (ix (s ++ t)).Nodup) : (ix s).Nodup ∧ (ix t).Nodup := by
  rw [ix_app] at h
  exact ⟨(List.nodup_append.1 h).1, (List.nodup_append.1 h).2.1⟩
/-- no id is met twice -/
theorem lk_fresh {L : List L3} {x : Int} {t : List (Nat × Int)} (hw : WFR L) (h : VT L x t) (hn : (ix t).Nodup) {k : Nat} {l : L3} (hk : (lk L x t)[k]? = some l) : l.b ≠ x ∧ ∀ j m, j < k → (lk L x t)[j]? = some m → m.b ≠ l.b := by
  obtain ⟨s, r, i, e, hl⟩ := lk_b hk
  have h1 : VT L x (s ++ [(i, l.b)]) := by
    have : t = (s ++ [(i, l.b)]) ++ r := by rw [e]; simp
    rw [this, vt_app] at h
    exact h.1
  have hn1 : (ix (s ++ [(i, l.b)])).Nodup := by
    have : t = (s ++ [(i, l.b)]) ++ r := by rw [e]; simp
    rw [this] at hn
    exact (ix_app_nodup hn).1
  have he : en x (s ++ [(i, l.b)]) = l.b := by rw [en_app]; rfl
  refine ⟨fun q => ?_, fun j m hj hm q => ?_⟩
  · have := vt_closed hw h1 hn1 (he.trans q)
    simp at this
  · obtain ⟨s', r', i', e', hl'⟩ := lk_b hm
    have h2 : VT L x (s' ++ [(i', m.b)]) := by
      have : t = (s' ++ [(i', m.b)]) ++ r' := by rw [e']; simp
      rw [this, vt_app] at h
      exact h.1
    have hn2 : (ix (s' ++ [(i', m.b)])).Nodup := by
      have : t = (s' ++ [(i', m.b)]) ++ r' := by rw [e']; simp
      rw [this] at hn
      exact (ix_app_nodup hn).1
    have he2 : en x (s' ++ [(i', m.b)]) = m.b := by rw [en_app]; rfl
    have := vt_uniq hw h1 h2 hn1 hn2 (by rw [he, he2, q])
    have := congrArg List.length this
    simp [hl, hl'] at this
    omega
/-- what a path is -/
structure CH (M : List L3) (a b : Int) (P : List L3) : Prop where
  from' : ∀ l, P[0]? = some l → l.a = a
  next : ∀ k l m, P[k]? = some l → P[k + 1]? = some m → m.a = l.b
  mem : ∀ (k : Nat) l, P[k]? = some l → l ∈ M ∨ turnL l ∈ M
  ne : ∀ (k : Nat) l, P[k]? = some l → l.b ≠ a
  fresh : ∀ (k : Nat) l (j : Nat) m, P[k]? = some l → P[j]? = some m → j < k → m.b ≠ l.b
  last : ∀ l, P[P.length - 1]? = some l → l.b = b
  nil : P = [] → a = b
theorem lk_last {L : List L3} : ∀ {x : Int} {t : List (Nat × Int)} {l : L3}, (lk L x t)[(lk L x t).length - 1]? = some l → l.b = en x t
  | x, [], l, h => by simp [lk] at h
  | x, [(i, z)], l, h => by
    have h : some (⟨x, z, whyAt L i⟩ : L3) = some l := h
    cases h; rfl
  | x, (i, z) :: (j, y) :: t, l, h => by
    have h : (lk L z ((j, y) :: t))[(lk L z ((j, y) :: t)).length - 1]? = some l := h
    exact lk_last (t := (j, y) :: t) h
theorem path_chain {M : List L3} (hw : WFR M.reverse) {a b : Int} (h : sameB M a b = true) : CH M a b (pathL M a b) := by
  unfold sameB at h
  cases hp : pathO M a b with
  | none => rw [hp] at h; cases h
  | some P =>
    have e : pathL M a b = P := by unfold pathL; rw [hp]; rfl
    rw [e]
    unfold pathO at hp
    split at hp
    · obtain ⟨t, h1, h2, h3, h4⟩ := pr_trail hp
      subst h4
      refine ⟨fun l hl => (lk_chain h1 hl).1, fun k l m hl hm => ?_, fun k l hl => ?_, fun k l hl => (lk_fresh hw h1 h2 hl).1, fun k l j m hl hm hj => (lk_fresh hw h1 h2 hl).2 j m hj hm, fun l hl => (lk_last hl).trans h3, fun hn => ?_⟩
      · have := (lk_chain h1 hm).1
        rw [this]
        simp only [hl]
      · obtain ⟨_, i, n, h5, h6⟩ := lk_chain h1 hl
        rw [nth_rev] at h5
        have hm := List.mem_of_getElem? h5
        rcases h6 with rfl | rfl
        · exact .inl hm
        · exact .inr hm
      · have : t = [] := by
          have := congrArg List.length hn
          rw [lk_len] at this
          exact List.eq_nil_of_length_eq_zero this
        subst this
        exact h3
    · cases hp
end Go.Proofs.Ytpnjmkmobdaefaa
