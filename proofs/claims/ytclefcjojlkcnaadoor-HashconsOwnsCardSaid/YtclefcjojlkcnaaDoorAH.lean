/- Increasing lists of nodes: insertion, removal, uniqueness. -/
import Derived.Test.YtclefcjojlkcnaaDoorAD
import Derived.Test.YtclefcjojlkcnaaDoorT
namespace Go.Proofs.YtclefcjojlkcnaaDoor
set_option linter.unusedVariables false
set_option linter.unusedSimpArgs false
theorem cmpM_zero {a b : Nn} : cmpM a b = 0 ↔ a = b := by
  obtain ⟨o, d, v, s, z⟩ := a
  obtain ⟨o', d', v', s', z'⟩ := b
  unfold cmpM
  rw [cmpN_zero]
  simp
theorem cmpM_anti (a b : Nn) : cmpM b a = - cmpM a b := anti_N _ _ _ _ _ _ _ _ _ _
theorem cmpM_trans {a b c : Nn} (h : cmpM a b < 0) (k : cmpM b c < 0) : cmpM a c < 0 := by
  have h1 : Tri (cmpM a b) (cmpM b c) (cmpM a c) := tri_N _ _ _ _ _ _ _ _ _ _ _ _ _ _ _
  have h2 := h1 (by omega) (by omega)
  have h3 : cmpM a c ≠ 0 := fun e => by have := (h2.2.1 e).1; omega
  omega
theorem cmpM_self (a : Nn) : cmpM a a = 0 := cmpM_zero.2 rfl
/-- increasing -/
abbrev Inc (ms : List Nn) : Prop := ms.Pairwise (fun a b => cmpM a b < 0)
theorem inc_ext : ∀ {xs ys : List Nn}, Inc xs → Inc ys → (∀ z, z ∈ xs ↔ z ∈ ys) → xs = ys
  | [], [], _, _, _ => rfl
  | [], y :: ys, _, _, h => by have := (h y).2 (by simp); cases this
  | x :: xs, [], _, _, h => by have := (h x).1 (by simp); cases this
  | x :: xs, y :: ys, hx, hy, h => by
    have hx' := List.pairwise_cons.1 hx
    have hy' := List.pairwise_cons.1 hy
    have e : x = y := by
      rcases List.mem_cons.1 ((h x).1 (by simp)) with q | q
      · exact q
      · rcases List.mem_cons.1 ((h y).2 (by simp)) with r | r
        · exact r.symm
        · have h1 := hx'.1 y r
          have h2 := hy'.1 x q
          have h3 := cmpM_anti x y
          omega
    subst e
    have hne : ∀ z ∈ xs, z ≠ x := fun z hz e => by subst e; have := hx'.1 z hz; rw [cmpM_self] at this; omega
    have hne2 : ∀ z ∈ ys, z ≠ x := fun z hz e => by subst e; have := hy'.1 z hz; rw [cmpM_self] at this; omega
    rw [inc_ext hx'.2 hy'.2 fun z => ?_]
    constructor
    · intro hz
      rcases List.mem_cons.1 ((h z).1 (by simp [hz])) with q | q
      · exact absurd q (hne z hz)
      · exact q
    · intro hz
      rcases List.mem_cons.1 ((h z).2 (by simp [hz])) with q | q
      · exact absurd q (hne2 z hz)
      · exact q
theorem atI_before (n : Nn) : ∀ (ms : List Nn), ∀ m ∈ ms.take (atI n ms), cmpM m n < 0
  | [], m, h => by simp at h
  | x :: ms, m, h => by
    unfold atI at h
    split at h
    · rename_i hc
      rw [List.take_succ_cons] at h
      rcases List.mem_cons.1 h with rfl | h
      · exact hc
      · exact atI_before n ms m h
    · simp at h
theorem atI_behind (n : Nn) : ∀ (ms : List Nn), Inc ms → ∀ m ∈ ms.drop (atI n ms), ¬ cmpM m n < 0
  | [], _, m, h => by simp at h
  | x :: ms, hi, m, h => by
    have hi' := List.pairwise_cons.1 hi
    unfold atI at h
    split at h
    · rw [List.drop_succ_cons] at h
      exact atI_behind n ms hi'.2 m h
    · rename_i hc
      rw [List.drop_zero] at h
      rcases List.mem_cons.1 h with rfl | h
      · exact hc
      · have h1 := hi'.1 m h
        exact fun h2 => hc (cmpM_trans h1 h2)
theorem isA_mem {n : Nn} {ms : List Nn} (hi : Inc ms) : isA n ms = true ↔ n ∈ ms := by
  constructor
  · intro h
    unfold isA at h
    split at h
    · rename_i hl
      have : ms[atI n ms] = n := cmpM_zero.1 (by simpa using h)
      rw [← this]
      exact List.getElem_mem hl
    · cases h
  · intro h
    have hd : n ∈ ms.drop (atI n ms) := by
      rw [← List.take_append_drop (atI n ms) ms] at h
      rcases List.mem_append.1 h with q | q
      · have := atI_before n ms n q
        rw [cmpM_self] at this
        omega
      · exact q
    have hl : atI n ms < ms.length := by
      rcases Nat.lt_or_ge (atI n ms) ms.length with q | q
      · exact q
      · rw [List.drop_of_length_le q] at hd; cases hd
    unfold isA
    rw [dif_pos hl]
    rw [List.drop_eq_getElem_cons hl] at hd
    rcases List.mem_cons.1 hd with q | q
    · rw [← q, cmpM_self]; rfl
    · have h1 : cmpM ms[atI n ms] n < 0 := by
        have h2 : Inc (ms.drop (atI n ms)) := hi.sublist (List.drop_sublist _ _)
        rw [List.drop_eq_getElem_cons hl] at h2
        exact (List.pairwise_cons.1 h2).1 n q
      have h3 := atI_behind n ms hi ms[atI n ms] (by rw [List.drop_eq_getElem_cons hl]; exact List.mem_cons_self)
      exact absurd h1 h3
/-- a node put in its place -/
def insM (n : Nn) (ms : List Nn) : List Nn := ms.take (atI n ms) ++ n :: ms.drop (atI n ms)
theorem mem_insM {n z : Nn} {ms : List Nn} : z ∈ insM n ms ↔ z = n ∨ z ∈ ms := by
  unfold insM
  rw [List.mem_append, List.mem_cons]
  constructor
  · rintro (h | h | h)
    · exact .inr (List.mem_of_mem_take h)
    · exact .inl h
    · exact .inr (List.mem_of_mem_drop h)
  · rintro (h | h)
    · exact .inr (.inl h)
    · rw [← List.take_append_drop (atI n ms) ms] at h
      rcases List.mem_append.1 h with q | q
      · exact .inl q
      · exact .inr (.inr q)
theorem inc_insM {n : Nn} {ms : List Nn} (hi : Inc ms) (hn : isA n ms = false) : Inc (insM n ms) := by
  have hnm : n ∉ ms := fun h => by rw [(isA_mem hi).2 h] at hn; cases hn
  have hd : ∀ m ∈ ms.drop (atI n ms), cmpM n m < 0 := fun m hm => by
    have h1 := atI_behind n ms hi m hm
    have h2 := cmpM_anti m n
    have h3 : cmpM m n ≠ 0 := fun e => hnm (by rw [← cmpM_zero.1 e]; exact List.mem_of_mem_drop hm)
    omega
  unfold insM
  refine List.pairwise_append.2 ⟨hi.sublist (List.take_sublist _ _), List.pairwise_cons.2 ⟨hd, hi.sublist (List.drop_sublist _ _)⟩, fun a ha b hb => ?_⟩
  have h1 := atI_before n ms a ha
  rcases List.mem_cons.1 hb with rfl | hb
  · exact h1
  · exact cmpM_trans h1 (hd b hb)
/-- a node taken out -/
def delM (n : Nn) (ms : List Nn) : List Nn := ms.take (atI n ms) ++ ms.drop (atI n ms + 1)
theorem inc_delM {n : Nn} {ms : List Nn} (hi : Inc ms) : Inc (delM n ms) := by
  unfold delM
  rw [← List.eraseIdx_eq_take_drop_succ]
  exact hi.sublist (List.eraseIdx_sublist _ _)
theorem mem_delM {n z : Nn} {ms : List Nn} (hi : Inc ms) (hn : isA n ms = true) : z ∈ delM n ms ↔ z ∈ ms ∧ z ≠ n := by
  have hl := by
    have h := hn
    unfold isA at h
    split at h
    · assumption
    · cases h
  have he : ms[atI n ms] = n := by
    have h := hn
    unfold isA at h
    rw [dif_pos hl] at h
    exact cmpM_zero.1 (by simpa using h)
  have hs : ms = ms.take (atI n ms) ++ n :: ms.drop (atI n ms + 1) := by
    conv => lhs; rw [← List.take_append_drop (atI n ms) ms, List.drop_eq_getElem_cons hl, he]
  have hp := hi
  rw [hs] at hp
  have h1 := List.pairwise_append.1 hp
  have h2 := List.pairwise_cons.1 h1.2.1
  unfold delM
  rw [List.mem_append]
  constructor
  · rintro (h | h)
    · exact ⟨List.mem_of_mem_take h, fun e => by subst e; have := h1.2.2 z h z (by simp); rw [cmpM_self] at this; omega⟩
    · exact ⟨List.mem_of_mem_drop h, fun e => by subst e; have := h2.1 z h; rw [cmpM_self] at this; omega⟩
  · rintro ⟨h, hne⟩
    rw [hs] at h
    rcases List.mem_append.1 h with q | q
    · exact .inl q
    · rcases List.mem_cons.1 q with q | q
      · exact absurd q hne
      · exact .inr q
end Go.Proofs.YtclefcjojlkcnaaDoor
