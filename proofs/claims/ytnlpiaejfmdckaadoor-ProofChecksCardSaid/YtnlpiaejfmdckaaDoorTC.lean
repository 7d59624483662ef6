/- The plain mathematics of sets as sorted lists. -/
import Derived.Lib.SlicesCompact
namespace Go.Proofs.YtnlpiaejfmdckaaDoor.Ids
abbrev SS (l : List Int) : Prop := l.Pairwise (· < ·)
def ins (x : Int) : List Int → List Int
  | [] => [x]
  | a :: l => if a < x then a :: ins x l else if a = x then a :: l else x :: a :: l
theorem mem_ins (x y : Int) (l : List Int) : y ∈ ins x l ↔ y = x ∨ y ∈ l := by
  induction l with
  | nil => simp [ins]
  | cons a l ih =>
    unfold ins
    split
    · simp only [List.mem_cons, ih]; constructor
      · rintro (h | h | h) <;> simp [h]
      · rintro (h | h | h) <;> simp [h]
    · split
      · rename_i h; subst h; simp
      · simp
theorem ss_ins (x : Int) (l : List Int) (h : SS l) : SS (ins x l) := by
  induction l with
  | nil => simp [ins, SS]
  | cons a l ih =>
    have h1 := List.pairwise_cons.1 h
    unfold ins
    split
    · refine List.pairwise_cons.2 ⟨fun b hb => ?_, ih h1.2⟩
      rcases (mem_ins x b l).1 hb with rfl | hb
      · assumption
      · exact h1.1 b hb
    · split
      · exact h
      · refine List.pairwise_cons.2 ⟨fun b hb => ?_, h⟩
        rcases List.mem_cons.1 hb with rfl | hb
        · omega
        · have := h1.1 b hb; omega
def cnt (l : List Int) (x : Int) : Nat := l.countP (· < x)
theorem cnt_zero (l : List Int) (x : Int) (h : ∀ b ∈ l, x ≤ b) : cnt l x = 0 := by
  unfold cnt; rw [List.countP_eq_zero]; intro b hb; have := h b hb; simp; omega
theorem ins_eq (x : Int) (l : List Int) (h : SS l) : (l[cnt l x]? = some x → ins x l = l) ∧ (¬ l[cnt l x]? = some x → ins x l = l.take (cnt l x) ++ x :: l.drop (cnt l x)) := by
  induction l with
  | nil => simp [ins]
  | cons a l ih =>
    have h1 := List.pairwise_cons.1 h
    have ih := ih h1.2
    by_cases hlt : a < x
    · have hc : cnt (a :: l) x = cnt l x + 1 := by unfold cnt; rw [List.countP_cons]; simp [hlt]
      rw [hc]
      simp only [ins, if_pos hlt, List.getElem?_cons_succ, List.take_succ_cons, List.drop_succ_cons, List.cons_append, List.cons.injEq, true_and]
      exact ih
    · have hc : cnt (a :: l) x = 0 := cnt_zero _ _ (fun b hb => by
        rcases List.mem_cons.1 hb with rfl | hb
        · omega
        · have := h1.1 b hb; omega)
      rw [hc]
      by_cases he : a = x
      · subst he; simp [ins]
      · simp [ins, hlt, he]
def ofL (l : List Int) : List Int := l.foldl (fun o x => ins x o) []
theorem ofL_snoc (l : List Int) (x : Int) : ofL (l ++ [x]) = ins x (ofL l) := by unfold ofL; rw [List.foldl_append]; rfl
theorem fold_mem (l o : List Int) (y : Int) : y ∈ l.foldl (fun o x => ins x o) o ↔ y ∈ l ∨ y ∈ o := by
  induction l generalizing o with
  | nil => simp
  | cons a l ih =>
    rw [List.foldl_cons, ih, mem_ins]; simp only [List.mem_cons]
    constructor
    · rintro (h | h | h) <;> simp [h]
    · rintro ((h | h) | h) <;> simp [h]
theorem mem_ofL (l : List Int) (y : Int) : y ∈ ofL l ↔ y ∈ l := by unfold ofL; rw [fold_mem]; simp
theorem fold_ss (l o : List Int) (h : SS o) : SS (l.foldl (fun o x => ins x o) o) := by
  induction l generalizing o with
  | nil => exact h
  | cons a l ih => exact ih _ (ss_ins a o h)
theorem ss_ofL (l : List Int) : SS (ofL l) := fold_ss l [] List.Pairwise.nil
theorem ss_ext (a b : List Int) (ha : SS a) (hb : SS b) (h : ∀ y, y ∈ a ↔ y ∈ b) : a = b := by
  induction a generalizing b with
  | nil =>
    cases b with
    | nil => rfl
    | cons y b => have := (h y).2 (by simp); simp at this
  | cons x a ih =>
    cases b with
    | nil => have := (h x).1 (by simp); simp at this
    | cons y b =>
      have ha1 := List.pairwise_cons.1 ha
      have hb1 := List.pairwise_cons.1 hb
      have e : x = y := by
        have h1 := (h x).1 (by simp)
        have h2 := (h y).2 (by simp)
        rcases List.mem_cons.1 h1 with h1 | h1
        · exact h1
        · rcases List.mem_cons.1 h2 with h2 | h2
          · exact h2.symm
          · have := hb1.1 x h1; have := ha1.1 y h2; omega
      subst e
      rw [ih b ha1.2 hb1.2 (fun z => ?_)]
      have hz := h z
      simp only [List.mem_cons] at hz
      constructor
      · intro hm
        have hne : z ≠ x := by have := ha1.1 z hm; omega
        rcases hz.1 (Or.inr hm) with h3 | h3
        · exact absurd h3 hne
        · exact h3
      · intro hm
        have hne : z ≠ x := by have := hb1.1 z hm; omega
        rcases hz.2 (Or.inr hm) with h3 | h3
        · exact absurd h3 hne
        · exact h3
theorem ofL_of_ss (l : List Int) (h : SS l) : ofL l = l := ss_ext _ _ (ss_ofL l) h (fun y => mem_ofL l y)
theorem ofL_len (l : List Int) : (ofL l).length ≤ l.length := by
  have hn : (ofL l).Nodup := (ss_ofL l).imp (fun h => by omega)
  have hs : (ofL l) ⊆ l := fun y hy => (mem_ofL l y).1 hy
  exact hn.length_le_of_subset hs
open Go.Lib in
theorem compact_sorted (d : Array Int) (hs : ∀ i j, i ≤ j → j < d.size → d[i]! ≤ d[j]!) (m : Nat) (hm : m ≤ d.size) :
    SS (compactUpTo d m) ∧ ∀ y, y ∈ compactUpTo d m ↔ ∃ j, j < m ∧ d[j]! = y := by
  induction m with
  | zero => simp [compactUpTo, SS]
  | succ m ih =>
    obtain ⟨h1, h2⟩ := ih (by omega)
    rw [compactUpTo_succ]
    by_cases hk : keeps d m = true
    · rw [if_pos hk]
      constructor
      · refine List.pairwise_append.2 ⟨h1, by simp, fun a ha b hb => ?_⟩
        simp at hb; subst hb
        obtain ⟨j, hj, rfl⟩ := (h2 a).1 ha
        have hm0 : 0 < m := by omega
        have hne : d[m]! ≠ d[m - 1]! := by
          intro e; rw [keeps_neg hm0 e] at hk; cases hk
        have q1 := hs j (m - 1) (by omega) (by omega)
        have q2 := hs (m - 1) m (by omega) (by omega)
        omega
      · intro y
        rw [List.mem_append, h2 y]
        constructor
        · rintro (⟨j, hj, e⟩ | h)
          · exact ⟨j, by omega, e⟩
          · simp at h; exact ⟨m, by omega, h.symm⟩
        · rintro ⟨j, hj, e⟩
          by_cases e1 : j = m
          · subst e1; exact Or.inr (by simp [e])
          · exact Or.inl ⟨j, by omega, e⟩
    · rw [if_neg hk, List.append_nil]
      refine ⟨h1, fun y => ?_⟩
      rw [h2 y]
      have hm0 : 0 < m := by
        by_cases h0 : m = 0
        · subst h0; exact absurd (keeps_lt_one d 0 (by omega)) hk
        · omega
      have he : d[m]! = d[m - 1]! := Classical.byContradiction fun hne => hk (keeps_pos hne)
      constructor
      · rintro ⟨j, hj, e⟩; exact ⟨j, by omega, e⟩
      · rintro ⟨j, hj, e⟩
        by_cases e1 : j = m
        · subst e1; exact ⟨j - 1, by omega, by rw [← he]; exact e⟩
        · exact ⟨j, by omega, e⟩
open Go.Lib in
theorem compact_ofL (zs : List Int) : compact (zs.mergeSort fun x y => decide (x ≤ y)) = ofL zs := by
  have hp := List.mergeSort_perm zs (fun x y => decide (x ≤ y))
  have hso : (zs.mergeSort fun x y => decide (x ≤ y)).Pairwise fun x y => decide (x ≤ y) = true := List.pairwise_mergeSort (fun a b c h1 h2 => by simp at *; omega) (fun a b => by simp; omega) zs
  generalize zs.mergeSort (fun x y => decide (x ≤ y)) = ys at hp hso ⊢
  unfold compact
  obtain ⟨h1, h2⟩ := compact_sorted ys.toArray (fun i j hij hj => by
    by_cases e : i = j
    · subst e; exact Int.le_refl _
    · have hj' : j < ys.length := by simpa using hj
      have := List.pairwise_iff_getElem.1 hso i j (by omega) hj' (by omega)
      have e1 : ys.toArray[i]! = ys[i] := by simp [show i < ys.length by omega]
      have e2 : ys.toArray[j]! = ys[j] := by simp [hj']
      rw [e1, e2]; simpa using this) ys.length (by simp)
  refine ss_ext _ _ h1 (ss_ofL zs) (fun y => ?_)
  rw [h2 y, mem_ofL, ← hp.mem_iff, List.mem_iff_getElem]
  constructor
  · rintro ⟨j, hj, e⟩; exact ⟨j, hj, by simpa [hj] using e⟩
  · rintro ⟨j, hj, e⟩; exact ⟨j, hj, by simpa [hj] using e⟩
end Go.Proofs.YtnlpiaejfmdckaaDoor.Ids
