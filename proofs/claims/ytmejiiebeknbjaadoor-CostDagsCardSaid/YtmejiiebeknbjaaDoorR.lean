/- Sums over different subterms: the pure part. -/
import Derived.Test.YtmejiiebeknbjaaDoorQ
namespace Go.Proofs.YtmejiiebeknbjaaDoor
set_option linter.unusedVariables false
set_option linter.unusedSimpArgs false
/-- the sum without a bound -/
def sumN (c : List Int) : List T → Int
  | [] => 0
  | t :: l => nodeC c t.op + sumN c l
theorem sumN_app (c : List Int) (l m : List T) : sumN c (l ++ m) = sumN c l + sumN c m := by
  induction l with
  | nil => simp [sumN]
  | cons t l ih => simp only [List.cons_append, sumN, ih]; omega
theorem sumN_bd (c : List Int) (l : List T) : (l.length : Int) ≤ sumN c l ∧ sumN c l ≤ 1048576 * l.length := by
  induction l with
  | nil => simp [sumN]
  | cons t l ih => have := node_bd c t.op; simp only [sumN, List.length_cons]; omega
theorem foldl_sum (c : List Int) (l : List T) : ∀ a : Int, 0 ≤ a → a + 1048576 * l.length ≤ inf → l.foldl (fun a t => addC a (nodeC c t.op)) a = a + sumN c l := by
  induction l with
  | nil => intro a _ _; simp [sumN]
  | cons t l ih =>
    intro a h0 h1
    simp only [List.length_cons] at h1
    have hb := node_bd c t.op
    have he : addC a (nodeC c t.op) = a + nodeC c t.op := by
      unfold addC; rw [cl_id h0 (by omega), cl_id (by omega) (by unfold inf at *; omega)]; omega
    show List.foldl _ (addC a (nodeC c t.op)) l = _
    rw [he, ih _ (by omega) (by omega), sumN]; omega
theorem sumC_eq (c : List Int) (l : List T) (h : l.length ≤ 1000) : sumC c l = sumN c l := by
  unfold sumC; rw [foldl_sum c l 0 (by omega) (by unfold inf; omega)]; omega
theorem sumN_perm (c : List Int) {l m : List T} (h : l.Perm m) : sumN c l = sumN c m := by
  induction h with
  | nil => rfl
  | cons x _ ih => simp only [sumN, ih]
  | swap x y l => simp only [sumN]; omega
  | trans _ _ h1 h2 => rw [h1, h2]
theorem sumN_sub (c : List Int) : ∀ {l m : List T}, l.Nodup → (∀ x ∈ l, x ∈ m) → sumN c l ≤ sumN c m
  | [], m, _, _ => by have := sumN_bd c m; simp only [sumN]; omega
  | x :: l, m, hn, hs => by
    have hx := hs x (by simp)
    have hp := sumN_perm c (List.perm_cons_erase hx)
    rw [hp]
    simp only [sumN]
    have hn' := List.nodup_cons.1 hn
    have := sumN_sub c (m := m.erase x) hn'.2 (fun y hy => (List.mem_erase_of_ne (fun e => hn'.1 (by rw [← e]; exact hy))).2 (hs y (by simp [hy])))
    omega
/-- all subterms, operands first -/
def allT : T → List T
  | .mk op wd vl nm ts => allL ts ++ [.mk op wd vl nm ts]
where
  allL : List T → List T
  | [] => []
  | t :: ts => allT t ++ allL ts
theorem nodup_snoc {S : List T} {t : T} (h : S.Nodup) (hn : t ∉ S) : (S ++ [t]).Nodup := by
  rw [List.nodup_append]
  refine ⟨h, by simp, ?_⟩
  intro a ha b hb e
  simp only [List.mem_singleton] at hb
  subst hb; subst e
  exact hn ha
theorem subs_nodup (t : T) : ∀ S, S.Nodup → (subsT S t).Nodup := by
  induction t using T.ind with
  | h op wd vl nm ts ih =>
    have hl : ∀ (us : List T), (∀ u ∈ us, ∀ S, S.Nodup → (subsT S u).Nodup) → ∀ S, S.Nodup → (subsL S us).Nodup := by
      intro us
      induction us with
      | nil => intro _ S h; rw [subsL_nil]; exact h
      | cons u us ihu => intro h S hS; rw [subsL_cons]; exact ihu (fun x hx => h x (by simp [hx])) _ (h u (by simp) S hS)
    intro S hS
    have h1 := hl ts ih S hS
    rw [subsT_mk]
    split
    · exact h1
    · rename_i hn; exact nodup_snoc h1 hn
theorem subsL_nodup : ∀ (us : List T) (S : List T), S.Nodup → (subsL S us).Nodup
  | [], S, h => by rw [subsL_nil]; exact h
  | u :: us, S, h => by rw [subsL_cons]; exact subsL_nodup us _ (subs_nodup u S h)
theorem mem_allT_mk (op wd : Int) (vl : Nat) (nm : ByteArray) (ts : List T) (x : T) : x ∈ allT (.mk op wd vl nm ts) ↔ x ∈ allT.allL ts ∨ x = .mk op wd vl nm ts := by
  rw [allT]; simp
theorem mem_allL (ts : List T) (x : T) : x ∈ allT.allL ts ↔ ∃ t ∈ ts, x ∈ allT t := by
  induction ts with
  | nil => simp [allT.allL]
  | cons t ts ih => simp [allT.allL, ih]
theorem mem_subs (t : T) : ∀ S x, x ∈ subsT S t ↔ x ∈ S ∨ x ∈ allT t := by
  induction t using T.ind with
  | h op wd vl nm ts ih =>
    have hl : ∀ (us : List T), (∀ u ∈ us, ∀ S x, x ∈ subsT S u ↔ x ∈ S ∨ x ∈ allT u) → ∀ S x, x ∈ subsL S us ↔ x ∈ S ∨ x ∈ allT.allL us := by
      intro us
      induction us with
      | nil => intro _ S x; rw [subsL_nil]; simp [allT.allL]
      | cons u us ihu =>
        intro h S x
        rw [subsL_cons, ihu (fun y hy => h y (by simp [hy])), h u (by simp)]
        simp only [allT.allL, List.mem_append]
        constructor
        · rintro ((h1 | h1) | h1)
          · exact .inl h1
          · exact .inr (.inl h1)
          · exact .inr (.inr h1)
        · rintro (h1 | h1 | h1)
          · exact .inl (.inl h1)
          · exact .inl (.inr h1)
          · exact .inr h1
    intro S x
    have h1 := hl ts ih S
    rw [subsT_mk, mem_allT_mk]
    split
    · rename_i hm
      rw [h1]
      constructor
      · rintro (h2 | h2)
        · exact .inl h2
        · exact .inr (.inl h2)
      · rintro (h2 | h2 | h2)
        · exact .inl h2
        · exact .inr h2
        · subst h2; exact (h1 _).1 hm
    · rw [List.mem_append, h1]
      simp only [List.mem_singleton]
      constructor
      · rintro ((h2 | h2) | h2)
        · exact .inl h2
        · exact .inr (.inl h2)
        · exact .inr (.inr h2)
      · rintro (h2 | h2 | h2)
        · exact .inl (.inl h2)
        · exact .inl (.inr h2)
        · exact .inr h2
theorem mem_subsL : ∀ (us : List T) S x, x ∈ subsL S us ↔ x ∈ S ∨ ∃ u ∈ us, x ∈ allT u
  | [], S, x => by rw [subsL_nil]; simp
  | u :: us, S, x => by
    rw [subsL_cons, mem_subsL us, mem_subs]
    simp only [List.mem_cons]
    constructor
    · rintro ((h1 | h1) | ⟨v, hv, h1⟩)
      · exact .inl h1
      · exact .inr ⟨u, .inl rfl, h1⟩
      · exact .inr ⟨v, .inr hv, h1⟩
    · rintro (h1 | ⟨v, rfl | hv, h1⟩)
      · exact .inl (.inl h1)
      · exact .inl (.inr h1)
      · exact .inr ⟨v, hv, h1⟩
theorem self_allT (t : T) : t ∈ allT t := by
  cases t with
  | mk op wd vl nm ts => rw [mem_allT_mk]; exact .inr rfl
theorem size_mem {ts : List T} {u : T} (h : u ∈ ts) : size u ≤ sizeL ts := by
  induction ts with
  | nil => cases h
  | cons t ts ih =>
    rw [sizeL]
    rcases List.mem_cons.1 h with rfl | h
    · omega
    · have := ih h; omega
theorem size_allT (t : T) : ∀ x ∈ allT t, size x ≤ size t := by
  induction t using T.ind with
  | h op wd vl nm ts ih =>
    intro x hx
    rw [mem_allT_mk, mem_allL] at hx
    rcases hx with ⟨u, hu, hx⟩ | rfl
    · have h1 := ih u hu x hx
      have h2 := size_mem hu
      rw [size]; omega
    · omega
/-- the different subterms of trees -/
theorem subs_len (us : List T) : (subsL [] us).length ≤ sizeL us := by
  obtain ⟨l, h1, h2⟩ := subsL_ext us []
  rw [h1]; simpa using h2
theorem dag_eq (c : List Int) {us vs : List T} (h1 : sizeL us ≤ 1000) (h2 : sizeL vs ≤ 1000) (h : ∀ x, (∃ u ∈ us, x ∈ allT u) ↔ ∃ v ∈ vs, x ∈ allT v) : sumC c (subsL [] us) = sumC c (subsL [] vs) := by
  rw [sumC_eq c _ (Nat.le_trans (subs_len us) h1), sumC_eq c _ (Nat.le_trans (subs_len vs) h2)]
  apply Int.le_antisymm
  · refine sumN_sub c (subsL_nodup us [] (by simp)) fun x hx => ?_
    rw [mem_subsL] at hx ⊢
    rcases hx with hx | hx
    · cases hx
    · exact .inr ((h x).1 hx)
  · refine sumN_sub c (subsL_nodup vs [] (by simp)) fun x hx => ?_
    rw [mem_subsL] at hx ⊢
    rcases hx with hx | hx
    · cases hx
    · exact .inr ((h x).2 hx)
theorem dag_le (c : List Int) {us vs : List T} (h1 : sizeL us ≤ 1000) (h2 : sizeL vs ≤ 1000) (h : ∀ x, (∃ u ∈ us, x ∈ allT u) → ∃ v ∈ vs, x ∈ allT v) : sumC c (subsL [] us) ≤ sumC c (subsL [] vs) := by
  rw [sumC_eq c _ (Nat.le_trans (subs_len us) h1), sumC_eq c _ (Nat.le_trans (subs_len vs) h2)]
  refine sumN_sub c (subsL_nodup us [] (by simp)) fun x hx => ?_
  rw [mem_subsL] at hx ⊢
  rcases hx with hx | hx
  · cases hx
  · exact .inr (h x hx)
theorem dag_bd (c : List Int) {us : List T} (h1 : sizeL us ≤ 1000) : 0 ≤ sumC c (subsL [] us) ∧ sumC c (subsL [] us) ≤ 1048576000 := by
  rw [sumC_eq c _ (Nat.le_trans (subs_len us) h1)]
  have := sumN_bd c (subsL [] us)
  have := subs_len us
  omega
theorem dag_add (c : List Int) (t u : T) (h : size t + size u ≤ 1000) : sumC c (subsL [] [t, u]) ≤ addC (sumC c (subsL [] [t])) (sumC c (subsL [] [u])) := by
  have ht : sizeL [t] ≤ 1000 := by simp only [sizeL]; omega
  have hu : sizeL [u] ≤ 1000 := by simp only [sizeL]; omega
  have htu : sizeL [t, u] ≤ 1000 := by simp only [sizeL]; omega
  have b1 := dag_bd c ht
  have b2 := dag_bd c hu
  have he : addC (sumC c (subsL [] [t])) (sumC c (subsL [] [u])) = sumC c (subsL [] [t]) + sumC c (subsL [] [u]) := by
    unfold addC; rw [cl_id b1.1 (by unfold inf; omega), cl_id b2.1 (by unfold inf; omega)]; unfold inf; omega
  rw [he, sumC_eq c _ (Nat.le_trans (subs_len _) htu), sumC_eq c _ (Nat.le_trans (subs_len _) ht), sumC_eq c _ (Nat.le_trans (subs_len _) hu), ← sumN_app]
  refine sumN_sub c (subsL_nodup _ [] (by simp)) fun x hx => ?_
  rw [mem_subsL] at hx
  rw [List.mem_append, mem_subsL, mem_subsL]
  rcases hx with hx | ⟨v, hv, hx⟩
  · cases hx
  · rcases List.mem_cons.1 hv with rfl | hv
    · exact .inl (.inr ⟨v, by simp, hx⟩)
    · rw [List.mem_singleton] at hv
      subst hv
      exact .inr (.inr ⟨v, by simp, hx⟩)
/-- a term costs more than an operand, shared -/
theorem dag_lt (c : List Int) (op wd : Int) (vl : Nat) (nm : ByteArray) (ts : List T) (u : T) (hu : u ∈ ts) (h : size (.mk op wd vl nm ts) ≤ 1000) : sumC c (subsL [] [u]) < sumC c (subsL [] [.mk op wd vl nm ts]) := by
  have hs := size_mem hu
  have h' : 1 + sizeL ts ≤ 1000 := h
  have h1 : sizeL [u] ≤ 1000 := by simp only [sizeL]; omega
  have h2 : sizeL [T.mk op wd vl nm ts] ≤ 1000 := by simp only [sizeL]; omega
  rw [sumC_eq c _ (Nat.le_trans (subs_len _) h1), sumC_eq c _ (Nat.le_trans (subs_len _) h2)]
  have hn : T.mk op wd vl nm ts ∉ subsL [] [u] := fun hm => by
    rw [mem_subsL] at hm
    rcases hm with hm | ⟨v, hv, hm⟩
    · cases hm
    · rw [List.mem_singleton] at hv
      subst hv
      have := size_allT v _ hm
      rw [size] at this
      omega
  have := sumN_sub c (nodup_snoc (subsL_nodup [u] [] (by simp)) hn) (m := subsL [] [T.mk op wd vl nm ts]) (fun x hx => by
    rw [mem_subsL]
    refine .inr ⟨T.mk op wd vl nm ts, List.mem_singleton.2 rfl, ?_⟩
    rw [mem_allT_mk, mem_allL]
    rcases List.mem_append.1 hx with h3 | h3
    · rw [mem_subsL] at h3
      rcases h3 with h3 | ⟨v, hv, h3⟩
      · cases h3
      · rw [List.mem_singleton] at hv
        exact .inl ⟨u, hu, hv ▸ h3⟩
    · rw [List.mem_singleton] at h3
      exact .inr h3)
  rw [sumN_app] at this
  have hb := node_bd c (T.mk op wd vl nm ts).op
  simp only [sumN] at this
  omega
end Go.Proofs.YtmejiiebeknbjaaDoor
