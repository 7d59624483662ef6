/- Different subterms and their numbers: the pure part. -/
import Derived.Test.YtmejiiebeknbjaaDoorP
namespace Go.Proofs.YtmejiiebeknbjaaDoor
set_option linter.unusedVariables false
set_option linter.unusedSimpArgs false
noncomputable def pos (S : List T) (t : T) : Nat := S.idxOf t
theorem pos_lt {S : List T} {t : T} (h : t ∈ S) : pos S t < S.length := List.idxOf_lt_length_of_mem h
theorem pos_app {S : List T} {t : T} (h : t ∈ S) (l : List T) : pos (S ++ l) t = pos S t := by unfold pos; rw [List.idxOf_append, if_pos h]
theorem pos_new {S : List T} {t : T} (h : t ∉ S) : pos (S ++ [t]) t = S.length := by unfold pos; rw [List.idxOf_append, if_neg h]; simp
theorem pos_inj {S : List T} {a b : T} (ha : a ∈ S) (hb : b ∈ S) (h : pos S a = pos S b) : a = b := by
  have h1 : S[S.idxOf a]'(List.idxOf_lt_length_of_mem ha) = a := List.getElem_idxOf _
  have h2 : S[S.idxOf b]'(List.idxOf_lt_length_of_mem hb) = b := List.getElem_idxOf _
  rw [← h1, ← h2]
  congr 1
theorem subsL_nil (S : List T) : subsL S [] = S := by rw [subsL]
theorem subsL_cons (S : List T) (t : T) (ts : List T) : subsL S (t :: ts) = subsL (subsT S t) ts := by rw [subsL]
theorem subsL_app (S : List T) (a b : List T) : subsL S (a ++ b) = subsL (subsL S a) b := by
  induction a generalizing S with
  | nil => rw [subsL_nil]; rfl
  | cons t a ih => show subsL S (t :: (a ++ b)) = _; rw [subsL_cons, ih, subsL_cons]
theorem subsT_mk (S : List T) (op wd : Int) (vl : Nat) (nm : ByteArray) (ts : List T) : subsT S (.mk op wd vl nm ts) = if T.mk op wd vl nm ts ∈ subsL S ts then subsL S ts else subsL S ts ++ [T.mk op wd vl nm ts] := by rw [subsT]
theorem subsL_snoc (S : List T) (ts : List T) (k : Nat) (h : k < ts.length) : subsL S (ts.take (k + 1)) = subsT (subsL S (ts.take k)) ts[k] := by
  rw [List.take_succ_eq_append_getElem h, subsL_app, subsL_cons, subsL_nil]
/-- what is added is added at the end -/
theorem subs_ext (t : T) : ∀ S, ∃ l, subsT S t = S ++ l ∧ l.length ≤ size t := by
  induction t using T.ind with
  | h op wd vl nm ts ih =>
    have hl : ∀ (us : List T), (∀ u ∈ us, ∀ S, ∃ l, subsT S u = S ++ l ∧ l.length ≤ size u) → ∀ S, ∃ l, subsL S us = S ++ l ∧ l.length ≤ sizeL us := by
      intro us
      induction us with
      | nil => intro _ S; exact ⟨[], by rw [subsL_nil, List.append_nil], by simp⟩
      | cons u us ihu =>
        intro h S
        obtain ⟨l, h1, h1'⟩ := h u (by simp) S
        obtain ⟨m, h2, h2'⟩ := ihu (fun x hx => h x (by simp [hx])) (subsT S u)
        exact ⟨l ++ m, by rw [subsL_cons, h2, h1, List.append_assoc], by rw [sizeL, List.length_append]; omega⟩
    intro S
    obtain ⟨l, h1, h2⟩ := hl ts ih S
    rw [subsT_mk]
    split
    · exact ⟨l, h1, by rw [size]; omega⟩
    · exact ⟨l ++ [_], by rw [h1, List.append_assoc], by rw [size, List.length_append]; simp; omega⟩
theorem subsL_ext (us : List T) : ∀ S, ∃ l, subsL S us = S ++ l ∧ l.length ≤ sizeL us := by
  induction us with
  | nil => intro S; exact ⟨[], by rw [subsL_nil, List.append_nil], by simp⟩
  | cons u us ihu =>
    intro S
    obtain ⟨l, h1, h1'⟩ := subs_ext u S
    obtain ⟨m, h2, h2'⟩ := ihu (subsT S u)
    exact ⟨l ++ m, by rw [subsL_cons, h2, h1, List.append_assoc], by rw [sizeL, List.length_append]; omega⟩
theorem subs_self (S : List T) (t : T) : t ∈ subsT S t := by
  cases t with
  | mk op wd vl nm ts =>
    rw [subsT_mk]
    split
    · assumption
    · simp
theorem subs_keep {S : List T} {x : T} (h : x ∈ S) (t : T) : x ∈ subsT S t := by
  obtain ⟨l, e, _⟩ := subs_ext t S
  rw [e]; exact List.mem_append_left _ h
theorem subsL_keep {S : List T} {x : T} (h : x ∈ S) (ts : List T) : x ∈ subsL S ts := by
  obtain ⟨l, e, _⟩ := subsL_ext ts S
  rw [e]; exact List.mem_append_left _ h
theorem subsL_all : ∀ (ts : List T) (S : List T), ∀ u ∈ ts, u ∈ subsL S ts
  | [], _, u, h => by cases h
  | t :: ts, S, u, h => by
    rw [subsL_cons]
    rcases List.mem_cons.1 h with rfl | h
    · exact subsL_keep (subs_self S _) ts
    · exact subsL_all ts _ u h
/-- operands of a member are members -/
def Closed (S : List T) : Prop := ∀ t ∈ S, ∀ u ∈ t.ts, u ∈ S
theorem closed_nil : Closed [] := fun t h => by cases h
theorem closed_subs (t : T) : ∀ S, Closed S → Closed (subsT S t) := by
  induction t using T.ind with
  | h op wd vl nm ts ih =>
    have hl : ∀ (us : List T), (∀ u ∈ us, ∀ S, Closed S → Closed (subsT S u)) → ∀ S, Closed S → Closed (subsL S us) := by
      intro us
      induction us with
      | nil => intro _ S h; rw [subsL_nil]; exact h
      | cons u us ihu => intro h S hS; rw [subsL_cons]; exact ihu (fun x hx => h x (by simp [hx])) _ (h u (by simp) S hS)
    intro S hS
    have h1 := hl ts ih S hS
    rw [subsT_mk]
    split
    · exact h1
    · intro t ht u hu
      rcases List.mem_append.1 ht with ht | ht
      · exact List.mem_append_left _ (h1 t ht u hu)
      · simp only [List.mem_singleton] at ht
        subst ht
        exact List.mem_append_left _ (subsL_all ts S u hu)
theorem closedL_subs : ∀ (us : List T) (S : List T), Closed S → Closed (subsL S us)
  | [], S, h => by rw [subsL_nil]; exact h
  | u :: us, S, h => by rw [subsL_cons]; exact closedL_subs us _ (closed_subs u S h)
theorem sumC_snoc (c : List Int) (S : List T) (t : T) : sumC c (S ++ [t]) = addC (sumC c S) (nodeC c t.op) := by unfold sumC; rw [List.foldl_append]; rfl
/-- the numbers of the operands -/
noncomputable def opn (S : List T) (ts : List T) : List Int := ts.map fun u => (pos S u : Int)
theorem opn_app {S : List T} {ts : List T} (h : ∀ u ∈ ts, u ∈ S) (l : List T) : opn (S ++ l) ts = opn S ts := by
  unfold opn; exact List.map_congr_left fun u hu => by rw [pos_app (h u hu)]
theorem opn_inj {S : List T} : ∀ {ts us : List T}, (∀ u ∈ ts, u ∈ S) → (∀ u ∈ us, u ∈ S) → opn S ts = opn S us → ts = us
  | [], [], _, _, _ => rfl
  | [], _ :: _, _, _, h => by simp [opn] at h
  | _ :: _, [], _, _, h => by simp [opn] at h
  | a :: ts, b :: us, ha, hb, h => by
    simp only [opn, List.map_cons, List.cons.injEq] at h
    have h1 : a = b := pos_inj (ha a (by simp)) (hb b (by simp)) (Int.ofNat_inj.1 h.1)
    rw [h1, opn_inj (fun u hu => ha u (by simp [hu])) (fun u hu => hb u (by simp [hu])) h.2]
end Go.Proofs.YtmejiiebeknbjaaDoor
