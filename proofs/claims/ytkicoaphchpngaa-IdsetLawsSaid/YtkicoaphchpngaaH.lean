/- The plain mathematics of a binary heap in a list. -/
namespace Go.Proofs.Ytkicoaphchpngaa
def swp (l : List Int) (i j : Nat) : List Int := (l.set i (l.getD j 0)).set j (l.getD i 0)
theorem swp_len (l : List Int) (i j : Nat) : (swp l i j).length = l.length := by unfold swp; simp
theorem swp_at (l : List Int) (i j k : Nat) (hi : i < l.length) (hj : j < l.length) : (swp l i j).getD k 0 = if k = j then l.getD i 0 else if k = i then l.getD j 0 else l.getD k 0 := by
  unfold swp
  simp only [List.getD_eq_getElem?_getD, List.getElem?_set, List.length_set]
  by_cases h1 : k = j
  · subst h1; simp [hj]
  · by_cases h2 : k = i
    · subst h2; simp [hi, h1, Ne.symm h1]
    · simp [h1, h2, Ne.symm h1, Ne.symm h2]
theorem swp_perm (l : List Int) (i j : Nat) (hi : i < l.length) (hj : j < l.length) : (swp l i j).Perm l := by
  have := List.set_set_perm (as := l) hi hj
  unfold swp
  simpa [List.getD_eq_getElem?_getD, hi, hj] using this
def Heap (n : Nat) (l : List Int) : Prop := ∀ k, 0 < k → k < n → l.getD ((k - 1) / 2) 0 ≤ l.getD k 0
def UpEx (n : Nat) (l : List Int) (j : Nat) : Prop :=
  (∀ k, 0 < k → k < n → k ≠ j → l.getD ((k - 1) / 2) 0 ≤ l.getD k 0) ∧ (∀ k, 0 < k → k < n → (k - 1) / 2 = j → 0 < j → l.getD ((j - 1) / 2) 0 ≤ l.getD k 0)
def DnEx (n : Nat) (l : List Int) (i : Nat) : Prop :=
  (∀ k, 0 < k → k < n → (k - 1) / 2 ≠ i → l.getD ((k - 1) / 2) 0 ≤ l.getD k 0) ∧ (∀ k, 0 < k → k < n → (k - 1) / 2 = i → 0 < i → l.getD ((i - 1) / 2) 0 ≤ l.getD k 0)
theorem app_at (l : List Int) (x : Int) (k : Nat) (hk : k < l.length) : (l ++ [x]).getD k 0 = l.getD k 0 := by
  simp [List.getD_eq_getElem?_getD, List.getElem?_append_left hk]
theorem up_start (l : List Int) (x : Int) (h : Heap l.length l) : UpEx (l.length + 1) (l ++ [x]) l.length := by
  constructor
  · intro k h0 h1 h2
    rw [app_at l x k (by omega), app_at l x _ (by omega)]
    exact h k h0 (by omega)
  · intro k h0 h1 h2 h3; omega
theorem up_stop (n : Nat) (l : List Int) (j : Nat) (h : UpEx n l j) (hs : j = 0 ∨ l.getD ((j - 1) / 2) 0 ≤ l.getD j 0) : Heap n l := by
  intro k h0 h1
  by_cases e : k = j
  · subst e
    rcases hs with hs | hs
    · omega
    · exact hs
  · exact h.1 k h0 h1 e
theorem up_step (n : Nat) (l : List Int) (j : Nat) (hn : n ≤ l.length) (h : UpEx n l j) (h0 : 0 < j) (hj : j < n) (hlt : l.getD j 0 < l.getD ((j - 1) / 2) 0) : UpEx n (swp l ((j - 1) / 2) j) ((j - 1) / 2) := by
  have hp : (j - 1) / 2 < j := by omega
  have A := fun k => swp_at l ((j - 1) / 2) j k (by omega) (by omega)
  constructor
  · intro k k0 k1 k2
    rw [A k, A ((k - 1) / 2)]
    by_cases e1 : k = j
    · subst e1; rw [if_pos rfl, if_neg (by omega), if_pos rfl]; omega
    · rw [if_neg e1, if_neg k2]
      by_cases e2 : (k - 1) / 2 = j
      · rw [if_pos e2]; exact h.2 k k0 k1 e2 h0
      · rw [if_neg e2]
        by_cases e3 : (k - 1) / 2 = (j - 1) / 2
        · rw [if_pos e3]
          have := h.1 k k0 k1 e1; rw [e3] at this; omega
        · rw [if_neg e3]; exact h.1 k k0 k1 e1
  · intro k k0 k1 k2 k3
    rw [A k, A _, if_neg (by omega), if_neg (by omega)]
    have hpp := h.1 ((j - 1) / 2) (by omega) (by omega) (by omega)
    by_cases e1 : k = j
    · subst e1; rw [if_pos rfl]; exact hpp
    · rw [if_neg e1, if_neg (by omega)]
      have := h.1 k k0 k1 e1; rw [k2] at this; omega
theorem heap_min (n : Nat) (l : List Int) (h : Heap n l) : ∀ k, k < n → l.getD 0 0 ≤ l.getD k 0 := by
  intro k
  induction k using Nat.strongRecOn with
  | ind k ih =>
    intro hk
    by_cases h0 : k = 0
    · subst h0; exact Int.le_refl _
    · have h1 := ih ((k - 1) / 2) (by omega) (by omega)
      have h2 := h k (by omega) hk
      omega
theorem dn_start (n : Nat) (l : List Int) (hl : l.length = n + 1) (h : Heap (n + 1) l) : DnEx n (swp l 0 n) 0 := by
  have A := fun k => swp_at l 0 n k (by omega) (by omega)
  constructor
  · intro k k0 k1 k2
    rw [A k, A ((k - 1) / 2), if_neg (show ¬ (k - 1) / 2 = n by omega), if_neg k2, if_neg (show ¬ k = n by omega), if_neg (show ¬ k = 0 by omega)]
    exact h k k0 (by omega)
  · intro k k0 k1 k2 k3; omega
theorem dn_stop (n : Nat) (l : List Int) (i : Nat) (h : DnEx n l i) (hs : ∀ k, 0 < k → k < n → (k - 1) / 2 = i → l.getD i 0 ≤ l.getD k 0) : Heap n l := by
  intro k k0 k1
  by_cases e : (k - 1) / 2 = i
  · rw [e]; exact hs k k0 k1 e
  · exact h.1 k k0 k1 e
theorem dn_step (n : Nat) (l : List Int) (i j : Nat) (hn : n ≤ l.length) (h : DnEx n l i) (hj : j < n) (hp : (j - 1) / 2 = i) (j0 : 0 < j) (hmin : ∀ k, 0 < k → k < n → (k - 1) / 2 = i → l.getD j 0 ≤ l.getD k 0) (hlt : l.getD j 0 < l.getD i 0) : DnEx n (swp l i j) j := by
  have A := fun k => swp_at l i j k (by omega) (by omega)
  constructor
  · intro k k0 k1 k2
    rw [A k, A _]
    by_cases e1 : k = j
    · subst e1; rw [if_pos rfl, if_neg k2, if_pos hp]; omega
    · rw [if_neg e1, if_neg k2]
      by_cases e2 : k = i
      · subst e2
        rw [if_pos rfl, if_neg (by omega)]
        exact h.2 j j0 hj hp k0
      · rw [if_neg e2]
        by_cases e3 : (k - 1) / 2 = i
        · rw [if_pos e3]; exact hmin k k0 k1 e3
        · rw [if_neg e3]; exact h.1 k k0 k1 e3
  · intro k k0 k1 k2 k3
    rw [A k, A _, if_neg (by omega), if_pos hp, if_neg (by omega), if_neg (by omega)]
    have := h.1 k k0 k1 (by omega)
    rw [k2] at this; exact this
end Go.Proofs.Ytkicoaphchpngaa
