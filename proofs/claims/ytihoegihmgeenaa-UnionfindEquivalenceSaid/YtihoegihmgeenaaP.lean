/- The plain mathematics of disjoint sets with undo: histories, newest first. -/
namespace Go.Proofs.Ytihoegihmgeenaa
set_option linter.unusedVariables false
abbrev HOp := Option (Nat × Nat)
def nE : List HOp → Nat
  | [] => 0
  | none :: h => nE h + 1
  | some _ :: h => nE h
def lst : List HOp → List Nat
  | [] => []
  | none :: h => lst h ++ [nE h]
  | some (r, c) :: h => (lst h).set r (min ((lst h).getD r 0) ((lst h).getD c 0))
def par : List HOp → List Nat
  | [] => []
  | none :: h => par h ++ [nE h]
  | some (r, c) :: h => (par h).set c r
def siz : List HOp → List Nat
  | [] => []
  | none :: h => siz h ++ [1]
  | some (r, c) :: h => (siz h).set r ((siz h).getD r 0 + (siz h).getD c 0)
def nxt : List HOp → List Nat
  | [] => []
  | none :: h => nxt h ++ [nE h]
  | some (r, c) :: h => ((nxt h).set r ((nxt h).getD c 0)).set c ((nxt h).getD r 0)
def trl : List HOp → List (Int × Int)
  | [] => []
  | none :: h => trl h ++ [(-1, 0)]
  | some (r, c) :: h => trl h ++ [((c : Int), (((lst h).getD r 0 : Nat) : Int))]
def R : List HOp → Nat → Nat
  | [], x => x
  | none :: h, x => R h x
  | some (r, c) :: h, x => if R h x = c then r else R h x
def mu : List HOp → Nat → Nat
  | [], _ => 0
  | none :: h, x => mu h x
  | some (r, c) :: h, x => if R h x = c then mu h x + mu h r + 1 else mu h x
def ok : List HOp → Prop
  | [] => True
  | none :: h => ok h
  | some (r, c) :: h => ok h ∧ r < nE h ∧ c < nE h ∧ r ≠ c ∧ R h r = r ∧ R h c = c
def lab (h : List HOp) (x : Nat) : Nat := (lst h).getD (R h x) 0
theorem getD_set (l : List Nat) (i j x : Nat) : (l.set i x).getD j 0 = if i = j ∧ i < l.length then x else l.getD j 0 := by
  simp only [List.getD_eq_getElem?_getD, List.getElem?_set]
  by_cases h : i = j
  · subst h
    by_cases hl : i < l.length
    · simp [hl]
    · simp [hl]
  · simp [h]
theorem getD_snoc (l : List Nat) (j x : Nat) : (l ++ [x]).getD j 0 = if j = l.length then x else l.getD j 0 := by
  simp only [List.getD_eq_getElem?_getD, List.getElem?_append]
  by_cases h : j < l.length
  · simp [h, Nat.ne_of_lt h]
  · by_cases h2 : j = l.length
    · simp [h2]
    · simp [h, h2]
      have : j - l.length ≠ 0 := by omega
      cases hk : j - l.length with
      | zero => omega
      | succ k => simp
theorem len_lst : ∀ h, (lst h).length = nE h
  | [] => rfl
  | none :: h => by simp [lst, nE, len_lst h]
  | some (r, c) :: h => by simp [lst, nE, len_lst h]
theorem len_par : ∀ h, (par h).length = nE h
  | [] => rfl
  | none :: h => by simp [par, nE, len_par h]
  | some (r, c) :: h => by simp [par, nE, len_par h]
theorem len_siz : ∀ h, (siz h).length = nE h
  | [] => rfl
  | none :: h => by simp [siz, nE, len_siz h]
  | some (r, c) :: h => by simp [siz, nE, len_siz h]
theorem len_nxt : ∀ h, (nxt h).length = nE h
  | [] => rfl
  | none :: h => by simp [nxt, nE, len_nxt h]
  | some (r, c) :: h => by simp [nxt, nE, len_nxt h]
theorem len_trl : ∀ h, (trl h).length = h.length
  | [] => rfl
  | none :: h => by simp [trl, len_trl h]
  | some (r, c) :: h => by simp [trl, len_trl h]
theorem nE_le : ∀ h, nE h ≤ h.length
  | [] => Nat.le_refl _
  | none :: h => by simp [nE, nE_le h]
  | some (r, c) :: h => by have := nE_le h; simp [nE]; omega
theorem R_ge : ∀ h, ok h → ∀ x, nE h ≤ x → R h x = x
  | [], _, x, _ => rfl
  | none :: h, k, x, hx => by simp only [nE] at hx; exact R_ge h k x (by omega)
  | some (r, c) :: h, k, x, hx => by
    simp only [nE] at hx; simp only [R]; rw [R_ge h k.1 x hx]; rw [if_neg]; have := k.2.2.1; omega
theorem R_lt : ∀ h, ok h → ∀ x, x < nE h → R h x < nE h
  | [], _, x, hx => hx
  | none :: h, k, x, hx => by
    simp only [nE] at hx ⊢; simp only [R]
    by_cases e : x < nE h
    · have := R_lt h k x e; omega
    · rw [R_ge h k x (by omega)]; exact hx
  | some (r, c) :: h, k, x, hx => by
    simp only [nE] at hx ⊢; simp only [R]
    split
    · exact k.2.1
    · exact R_lt h k.1 x hx
theorem R_hit {h : List HOp} {r c x : Nat} (e : R h x = c) : R (some (r, c) :: h) x = r := by simp only [R]; rw [if_pos e]
theorem R_miss {h : List HOp} {r c x : Nat} (e : R h x ≠ c) : R (some (r, c) :: h) x = R h x := by simp only [R]; rw [if_neg e]
theorem set_at {l : List Nat} {i x : Nat} (h : i < l.length) : (l.set i x).getD i 0 = x := by rw [getD_set, if_pos ⟨rfl, h⟩]
theorem set_off {l : List Nat} {i j x : Nat} (h : i ≠ j) : (l.set i x).getD j 0 = l.getD j 0 := by rw [getD_set, if_neg (fun g => h g.1)]
theorem R_idem : ∀ h, ok h → ∀ x, R h (R h x) = R h x
  | [], _, x => rfl
  | none :: h, k, x => by simp only [R]; exact R_idem h k x
  | some (r, c) :: h, k, x => by
    by_cases e : R h x = c
    · rw [R_hit e, R_miss (by rw [k.2.2.2.2.1]; exact k.2.2.2.1), k.2.2.2.2.1]
    · rw [R_miss e, R_miss (by rw [R_idem h k.1 x]; exact e), R_idem h k.1 x]
theorem par_lt : ∀ h, ok h → ∀ x, x < nE h → (par h).getD x 0 < nE h
  | [], _, x, hx => by simp [nE] at hx
  | none :: h, k, x, hx => by
    simp only [nE] at hx ⊢; simp only [par, getD_snoc, len_par]
    by_cases e : x = nE h
    · simp [e]
    · rw [if_neg e]; have := par_lt h k x (by omega); omega
  | some (r, c) :: h, k, x, hx => by
    simp only [nE] at hx ⊢; simp only [par, getD_set, len_par]
    split
    · exact k.2.1
    · exact par_lt h k.1 x hx
theorem R_par : ∀ h, ok h → ∀ x, x < nE h → R h ((par h).getD x 0) = R h x
  | [], _, x, hx => by simp [nE] at hx
  | none :: h, k, x, hx => by
    simp only [nE] at hx; simp only [par, getD_snoc, len_par, R]
    by_cases e : x = nE h
    · simp [e]
    · rw [if_neg e]; exact R_par h k x (by omega)
  | some (r, c) :: h, k, x, hx => by
    simp only [nE] at hx; simp only [par]
    by_cases e : c = x
    · subst e
      rw [set_at (by rw [len_par]; exact hx), R_hit k.2.2.2.2.2, R_miss (by rw [k.2.2.2.2.1]; exact k.2.2.2.1), k.2.2.2.2.1]
    · rw [set_off e]
      have h1 := R_par h k.1 x hx
      by_cases e2 : R h x = c
      · rw [R_hit e2, R_hit (h1.trans e2)]
      · rw [R_miss e2, R_miss (by rw [h1]; exact e2), h1]
theorem par_root : ∀ h, ok h → ∀ x, x < nE h → ((par h).getD x 0 = x ↔ R h x = x)
  | [], _, x, hx => by simp [nE] at hx
  | none :: h, k, x, hx => by
    simp only [nE] at hx; simp only [par, getD_snoc, len_par, R]
    by_cases e : x = nE h
    · simp [e, R_ge h k (nE h) (Nat.le_refl _)]
    · rw [if_neg e]; exact par_root h k x (by omega)
  | some (r, c) :: h, k, x, hx => by
    simp only [nE] at hx; simp only [par]
    by_cases e : c = x
    · subst e; rw [set_at (by rw [len_par]; exact hx), R_hit k.2.2.2.2.2]
    · rw [set_off e, par_root h k.1 x hx]
      by_cases e2 : R h x = c
      · rw [R_hit e2, e2]; constructor
        · intro g; exact absurd g e
        · intro g; subst g; exact absurd (k.2.2.2.2.1.symm.trans e2) k.2.2.2.1
      · rw [R_miss e2]
theorem mu_par : ∀ h, ok h → ∀ x, x < nE h → (par h).getD x 0 ≠ x → mu h ((par h).getD x 0) < mu h x
  | [], _, x, hx, _ => by simp [nE] at hx
  | none :: h, k, x, hx, hne => by
    simp only [nE] at hx; simp only [par, getD_snoc, len_par, mu] at hne ⊢
    by_cases e : x = nE h
    · rw [if_pos e] at hne; exact absurd e.symm hne
    · rw [if_neg e] at hne ⊢; exact mu_par h k x (by omega) hne
  | some (r, c) :: h, k, x, hx, hne => by
    simp only [nE] at hx; simp only [par] at hne ⊢
    by_cases e : c = x
    · subst e
      rw [set_at (by rw [len_par]; exact hx)]
      simp only [mu]
      rw [if_pos k.2.2.2.2.2, if_neg (by rw [k.2.2.2.2.1]; exact k.2.2.2.1)]; omega
    · rw [set_off e] at hne ⊢
      have h1 := mu_par h k.1 x hx hne
      simp only [mu]
      rw [R_par h k.1 x hx]
      split <;> omega
theorem lst_R : ∀ h, ok h → ∀ x, x < nE h → R h (lab h x) = R h x ∧ lab h x ≤ x ∧ lab h x < nE h
  | [], _, x, hx => by simp [nE] at hx
  | none :: h, k, x, hx => by
    simp only [nE] at hx; simp only [lab, lst, getD_snoc, len_lst, R, nE]
    by_cases e : x = nE h
    · subst e; rw [R_ge h k _ (Nat.le_refl _)]; simp [R_ge h k _ (Nat.le_refl _)]
    · have h1 := R_lt h k x (by omega)
      have h2 := lst_R h k x (by omega)
      unfold lab at h2
      rw [if_neg (by omega)]
      exact ⟨h2.1, h2.2.1, by omega⟩
  | some (r, c) :: h, k, x, hx => by
    simp only [nE] at hx
    have ihr := lst_R h k.1 r k.2.1
    have ihc := lst_R h k.1 c k.2.2.1
    have ihx := lst_R h k.1 x hx
    obtain ⟨k1, k2, k3, k4, k5, k6⟩ := k
    unfold lab at ihr ihc ihx ⊢
    rw [k5] at ihr
    rw [k6] at ihc
    have hmin : R (some (r, c) :: h) (min ((lst h).getD r 0) ((lst h).getD c 0)) = r := by
      rcases Nat.le_total ((lst h).getD r 0) ((lst h).getD c 0) with q | q
      · rw [Nat.min_eq_left q, R_miss (by rw [ihr.1]; exact k4)]; exact ihr.1
      · rw [Nat.min_eq_right q, R_hit ihc.1]
    show _ ∧ _ ∧ _ < nE h
    simp only [lst]
    by_cases e : R h x = c
    · rw [R_hit e, set_at (by rw [len_lst]; exact k2)]
      rw [e] at ihx
      exact ⟨hmin, by omega, by omega⟩
    · rw [R_miss e]
      by_cases e2 : r = R h x
      · rw [← e2, set_at (by rw [len_lst]; exact k2)]
        rw [← e2] at ihx
        exact ⟨hmin, by omega, by omega⟩
      · rw [set_off e2, R_miss (by rw [ihx.1]; exact e)]
        exact ihx
theorem lab_iff (h : List HOp) (k : ok h) (x y : Nat) (hx : x < nE h) (hy : y < nE h) : lab h x = lab h y ↔ R h x = R h y := by
  constructor
  · intro e; rw [← (lst_R h k x hx).1, e, (lst_R h k y hy).1]
  · intro e; unfold lab; rw [e]
theorem lab_none (h : List HOp) (k : ok h) (x : Nat) (hx : x < nE h + 1) : lab (none :: h) x = if x = nE h then nE h else lab h x := by
  unfold lab; simp only [lst, R, getD_snoc, len_lst]
  by_cases e : x = nE h
  · subst e; rw [R_ge h k _ (Nat.le_refl _)]
  · have := R_lt h k x (by omega)
    rw [if_neg (by omega), if_neg e]
theorem lab_some (h : List HOp) (r c : Nat) (k : ok (some (r, c) :: h)) (x : Nat) (hx : x < nE h) :
    lab (some (r, c) :: h) x = if lab h x = max (lab h r) (lab h c) then min (lab h r) (lab h c) else lab h x := by
  have hr := lab_iff h k.1 r c k.2.1 k.2.2.1
  have hxr := lab_iff h k.1 x r hx k.2.1
  have hxc := lab_iff h k.1 x c hx k.2.2.1
  obtain ⟨k1, k2, k3, k4, k5, k6⟩ := k
  rw [k5, k6] at hr
  rw [k5] at hxr
  rw [k6] at hxc
  have er : (lst h).getD r 0 = lab h r := by unfold lab; rw [k5]
  have ec : (lst h).getD c 0 = lab h c := by unfold lab; rw [k6]
  have hne : lab h r ≠ lab h c := fun g => k4 (hr.1 g)
  have e0 : lab (some (r, c) :: h) x = ((lst h).set r (min (lab h r) (lab h c))).getD (R (some (r, c) :: h) x) 0 := by
    rw [← er, ← ec]; rfl
  rw [e0]
  by_cases e : R h x = c
  · rw [R_hit e, set_at (by rw [len_lst]; exact k2)]
    have := hxc.2 e
    split <;> omega
  · rw [R_miss e]
    have n1 : lab h x ≠ lab h c := fun g => e (hxc.1 g)
    by_cases e2 : R h x = r
    · rw [e2, set_at (by rw [len_lst]; exact k2)]
      have := hxr.2 e2
      split <;> omega
    · rw [set_off (fun g => e2 g.symm)]
      have n2 : lab h x ≠ lab h r := fun g => e2 (hxr.1 g)
      rw [if_neg (by omega)]; rfl
theorem siz_le : ∀ h, ∀ x, (siz h).getD x 0 ≤ 2 ^ h.length
  | [], x => by simp [siz]
  | none :: h, x => by
    simp only [siz, getD_snoc, List.length_cons, Nat.pow_succ]
    have := siz_le h x
    have hp : 0 < 2 ^ h.length := Nat.two_pow_pos _
    split <;> omega
  | some (r, c) :: h, x => by
    simp only [siz, getD_set, List.length_cons, Nat.pow_succ]
    have h1 := siz_le h x
    have h2 := siz_le h r
    have h3 := siz_le h c
    split <;> omega
def C : List HOp → Nat → List Nat
  | [], _ => []
  | none :: h, x => if x = nE h then [x] else C h x
  | some (r, c) :: h, x => if x = r then C h c ++ C h r else C h x
def mem (h : List HOp) (x : Nat) : List Nat := (List.range (nE h)).filter (fun y => R h y == x)
structure Cyc (h : List HOp) (x : Nat) (l : List Nat) : Prop where
  pos : 0 < l.length
  last : l.getD (l.length - 1) 0 = x
  perm : l.Perm (mem h x)
  step : ∀ i, i + 1 < l.length → (nxt h).getD (l.getD i 0) 0 = l.getD (i + 1) 0
  close : (nxt h).getD x 0 = l.getD 0 0
theorem Cyc.nodup {h : List HOp} {x : Nat} {l : List Nat} (k : Cyc h x l) : l.Nodup :=
  k.perm.nodup_iff.2 (List.nodup_range.filter _)
theorem Cyc.at {h : List HOp} {x : Nat} {l : List Nat} (k : Cyc h x l) {i : Nat} (hi : i < l.length) : l.getD i 0 < nE h ∧ R h (l.getD i 0) = x := by
  have hm : l.getD i 0 ∈ l := by
    rw [List.getD_eq_getElem?_getD, List.getElem?_eq_getElem hi]; exact List.getElem_mem hi
  have := k.perm.mem_iff.1 hm
  simp only [mem, List.mem_filter, List.mem_range, beq_iff_eq] at this
  exact this
theorem Cyc.ne_last {h : List HOp} {x : Nat} {l : List Nat} (k : Cyc h x l) {i : Nat} (hi : i + 1 < l.length) : l.getD i 0 ≠ x := by
  intro e
  have h1 := k.last
  rw [List.getD_eq_getElem?_getD, List.getElem?_eq_getElem (by omega)] at h1 e
  simp only [Option.getD_some] at h1 e
  have := (List.getElem_inj k.nodup).1 (e.trans h1.symm)
  omega
theorem getD_app (a b : List Nat) (i : Nat) : (a ++ b).getD i 0 = if i < a.length then a.getD i 0 else b.getD (i - a.length) 0 := by
  simp only [List.getD_eq_getElem?_getD, List.getElem?_append]
  split <;> rfl
theorem filter_or (p q : Nat → Bool) : ∀ l : List Nat, (∀ y ∈ l, ¬ (p y = true ∧ q y = true)) → (l.filter (fun y => p y || q y)).Perm (l.filter p ++ l.filter q)
  | [], _ => by simp
  | a :: l, hd => by
    have ih := filter_or p q l (fun y hy => hd y (List.mem_cons_of_mem _ hy))
    have h0 := hd a List.mem_cons_self
    cases hp : p a
    · cases hq : q a
      · simp only [List.filter_cons, hp, hq]; simpa using ih
      · simp only [List.filter_cons, hp, hq]
        simp only [Bool.false_or, if_true, Bool.false_eq_true, if_false]
        exact (ih.cons a).trans List.perm_middle.symm
    · cases hq : q a
      · simp only [List.filter_cons, hp, hq]
        simp only [Bool.true_or, if_true, Bool.false_eq_true, if_false, List.cons_append]
        exact ih.cons a
      · exact absurd ⟨hp, hq⟩ h0
theorem cyc_C : ∀ h, ok h → ∀ x, x < nE h → R h x = x → Cyc h x (C h x)
  | [], _, x, hx, _ => by simp [nE] at hx
  | none :: h, k, x, hx, hr => by
    simp only [nE] at hx
    simp only [R] at hr
    by_cases e : x = nE h
    · subst e
      have hm : mem (none :: h) (nE h) = [nE h] := by
        unfold mem
        simp only [nE, R, List.range_succ, List.filter_append]
        have h1 : (List.range (nE h)).filter (fun y => R h y == nE h) = [] := by
          rw [List.filter_eq_nil_iff]
          intro y hy
          have := R_lt h k y (List.mem_range.1 hy)
          simp; omega
        rw [h1]; simp [R_ge h k _ (Nat.le_refl _)]
      have hc : C (none :: h) (nE h) = [nE h] := by simp [C]
      rw [hc]
      refine ⟨by simp, by simp, by rw [hm], fun i hi => by simp at hi, ?_⟩
      simp [nxt, len_nxt]
    · have ih := cyc_C h k x (by omega) hr
      have hc : C (none :: h) x = C h x := by simp [C, e]
      have hm : mem (none :: h) x = mem h x := by
        unfold mem
        simp only [nE, R, List.range_succ, List.filter_append]
        have : ¬ nE h = x := fun g => e g.symm
        simp [R_ge h k _ (Nat.le_refl _), this]
      have hn : ∀ y, y < nE h → (nxt (none :: h)).getD y 0 = (nxt h).getD y 0 := by
        intro y hy; simp only [nxt, getD_snoc, len_nxt]; rw [if_neg (by omega)]
      rw [hc]
      exact ⟨ih.pos, ih.last, by rw [hm]; exact ih.perm, fun i hi => by rw [hn _ (ih.at (by omega)).1]; exact ih.step i hi, by rw [hn _ (by omega)]; exact ih.close⟩
  | some (r, c) :: h, k, x, hx, hr => by
    simp only [nE] at hx
    obtain ⟨k1, k2, k3, k4, k5, k6⟩ := k
    have ir := cyc_C h k1 r k2 k5
    have ic := cyc_C h k1 c k3 k6
    have hnr : (nxt (some (r, c) :: h)).getD r 0 = (nxt h).getD c 0 := by
      simp only [nxt]; rw [set_off (fun g => k4 g.symm), set_at (by rw [len_nxt]; exact k2)]
    have hnc : (nxt (some (r, c) :: h)).getD c 0 = (nxt h).getD r 0 := by
      simp only [nxt]; rw [set_at (by simp [len_nxt]; exact k3)]
    have hno : ∀ y, y ≠ r → y ≠ c → (nxt (some (r, c) :: h)).getD y 0 = (nxt h).getD y 0 := by
      intro y h1 h2; simp only [nxt]; rw [set_off (fun g => h2 g.symm), set_off (fun g => h1 g.symm)]
    by_cases e : x = r
    · subst e
      have hc : C (some (x, c) :: h) x = C h c ++ C h x := by simp [C]
      have hm : (mem (some (x, c) :: h) x).Perm (mem h c ++ mem h x) := by
        have h1 := filter_or (fun y => R h y == c) (fun y => R h y == x) (List.range (nE h)) (by
          intro y _ g; simp only [beq_iff_eq] at g; exact k4 (g.2.symm.trans g.1))
        have h2 : mem (some (x, c) :: h) x = (List.range (nE h)).filter (fun y => (R h y == c) || (R h y == x)) := by
          unfold mem
          simp only [nE]
          congr 1
          funext y
          simp only [R]
          by_cases q : R h y = c
          · simp [q]
          · simp [q]
        rw [h2]; exact h1
      rw [hc]
      have hlc := ic.pos
      have hlr := ir.pos
      refine ⟨by simp; omega, ?_, (List.Perm.append ic.perm ir.perm).trans hm.symm, ?_, ?_⟩
      · rw [getD_app, List.length_append, if_neg (by omega)]
        rw [show (C h c).length + (C h x).length - 1 - (C h c).length = (C h x).length - 1 by omega]
        exact ir.last
      · intro i hi
        rw [List.length_append] at hi
        rw [getD_app, getD_app]
        by_cases a : i + 1 < (C h c).length
        · rw [if_pos (by omega), if_pos a]
          have h1 := ic.at (show i < _ by omega)
          rw [hno _ (fun g => by rw [g, k5] at h1; exact k4 h1.2) (ic.ne_last a)]
          exact ic.step i a
        · rw [if_neg a]
          by_cases b : i < (C h c).length
          · rw [if_pos b]
            have : i = (C h c).length - 1 := by omega
            rw [this, ic.last, hnc, ir.close]
            congr 1; omega
          · rw [if_neg b]
            have h1 := ir.at (show i - (C h c).length < _ by omega)
            rw [hno _ (ir.ne_last (by omega)) (fun g => by rw [g, k6] at h1; exact k4 h1.2.symm)]
            rw [ir.step _ (by omega)]
            congr 1; omega
      · rw [hnr, ic.close, getD_app, if_pos ic.pos]
    · have hxc : x ≠ c := fun g => by subst g; rw [R_hit k6] at hr; exact k4 hr
      have hRx : R h x ≠ c := fun g => by rw [R_hit g] at hr; exact e hr.symm
      rw [R_miss hRx] at hr
      have ih := cyc_C h k1 x hx hr
      have hc : C (some (r, c) :: h) x = C h x := by simp [C, e]
      have hm : mem (some (r, c) :: h) x = mem h x := by
        unfold mem
        simp only [nE]
        congr 1
        funext y
        simp only [R]
        by_cases q : R h y = c
        · have a1 : (r == x) = false := beq_eq_false_iff_ne.2 (fun g => e g.symm)
          have a2 : (c == x) = false := beq_eq_false_iff_ne.2 (fun g => hxc g.symm)
          simp [q, a1, a2]
        · simp [q]
      rw [hc]
      refine ⟨ih.pos, ih.last, by rw [hm]; exact ih.perm, fun i hi => ?_, ?_⟩
      · have h1 := ih.at (show i < _ by omega)
        rw [hno _ (fun g => by rw [g, k5] at h1; exact e h1.2.symm) (fun g => by rw [g, k6] at h1; exact hxc h1.2.symm)]
        exact ih.step i hi
      · rw [hno _ e hxc]; exact ih.close
def itr (nx : List Nat) (x : Nat) : Nat → Nat
  | 0 => x
  | k + 1 => nx.getD (itr nx x k) 0
theorem ring (h : List HOp) (k : ok h) (x : Nat) (hx : x < nE h) :
    ∃ L, 0 < L ∧ L ≤ nE h ∧ itr (nxt h) x L = x ∧ (∀ j, 0 < j → j < L → itr (nxt h) x j ≠ x) ∧ ((List.range L).map (itr (nxt h) x)).Perm (mem h (R h x)) ∧ ∀ j, itr (nxt h) x j < nE h := by
  have hc := cyc_C h k (R h x) (R_lt h k x hx) (R_idem h k x)
  generalize C h (R h x) = l at hc
  have hxm : x ∈ l := hc.perm.mem_iff.2 (by simp [mem, hx])
  obtain ⟨p, hp, hpx⟩ := List.mem_iff_getElem.1 hxm
  have hit : ∀ j, itr (nxt h) x j = l.getD ((p + j) % l.length) 0 := by
    intro j
    induction j with
    | zero => simp only [itr, Nat.add_zero]; rw [Nat.mod_eq_of_lt hp, List.getD_eq_getElem?_getD, List.getElem?_eq_getElem hp]; exact hpx.symm
    | succ j ih =>
      simp only [itr]; rw [ih]
      have hq := Nat.mod_lt (p + j) hc.pos
      by_cases a : (p + j) % l.length + 1 < l.length
      · rw [hc.step _ a]
        congr 1
        rw [← Nat.add_assoc, Nat.add_mod (p + j) 1]
        by_cases o : l.length = 1
        · omega
        · rw [Nat.mod_eq_of_lt (show 1 < l.length by omega), Nat.mod_eq_of_lt a]
      · have hl : (p + j) % l.length = l.length - 1 := by omega
        rw [hl, hc.last, hc.close]
        congr 1
        have := Nat.mod_add_div (p + j) l.length
        rw [hl] at this
        have e2 : p + (j + 1) = l.length * ((p + j) / l.length + 1) := by rw [Nat.mul_add]; omega
        rw [e2, Nat.mul_mod_right]
  have hle : l.length ≤ nE h := by
    have := hc.perm.length_eq
    rw [this]
    exact Nat.le_trans (List.length_filter_le _ _) (by simp)
  refine ⟨l.length, hc.pos, hle, ?_, ?_, ?_, fun j => ?_⟩
  · rw [hit, Nat.add_mod_right, Nat.mod_eq_of_lt hp, List.getD_eq_getElem?_getD, List.getElem?_eq_getElem hp]; exact hpx
  · intro j h0 hj e
    rw [hit] at e
    have hq := Nat.mod_lt (p + j) hc.pos
    rw [List.getD_eq_getElem?_getD, List.getElem?_eq_getElem hq] at e
    have h1 := (List.getElem_inj hc.nodup).1 (e.trans hpx.symm)
    by_cases a : p + j < l.length
    · rw [Nat.mod_eq_of_lt a] at h1; omega
    · rw [Nat.mod_eq_sub_mod (by omega), Nat.mod_eq_of_lt (by omega)] at h1; omega
  · have e : (List.range l.length).map (itr (nxt h) x) = l.drop p ++ l.take p := by
      apply List.ext_getElem (by simp; omega)
      intro j h1 h2
      simp only [List.length_map, List.length_range] at h1
      rw [List.getElem_map, List.getElem_range, hit, List.getElem_append]
      by_cases a : p + j < l.length
      · rw [dif_pos (by simp; omega), Nat.mod_eq_of_lt a, List.getD_eq_getElem?_getD, List.getElem?_eq_getElem a, List.getElem_drop]; rfl
      · rw [dif_neg (by simp; omega), Nat.mod_eq_sub_mod (by omega), Nat.mod_eq_of_lt (by omega), List.getElem_take, List.getD_eq_getElem?_getD, List.getElem?_eq_getElem (by omega), Option.getD_some]
        congr 1
        simp; omega
    rw [e]
    exact (List.perm_append_comm.trans (by rw [List.take_append_drop])).trans hc.perm
  · rw [hit]; exact (hc.at (Nat.mod_lt _ hc.pos)).1
abbrev ROp := Bool × Int × Int
def M : List ROp → List HOp → Prop
  | l, [] => l = []
  | l, none :: h => ∃ l' a b, l = l' ++ [(true, a, b)] ∧ M l' h
  | l, some (r, c) :: h => ∃ (l' : List ROp) (a b : Nat), l = l' ++ [(false, (a : Int), (b : Int))] ∧ M l' h ∧ a < nE h ∧ b < nE h ∧ ((R h a = r ∧ R h b = c) ∨ (R h a = c ∧ R h b = r))
theorem M_len : ∀ h l, M l h → l.length = h.length
  | [], l, k => by simp only [M] at k; subst k; rfl
  | none :: h, l, k => by obtain ⟨l', a, b, rfl, k'⟩ := k; simp [M_len h l' k']
  | some (r, c) :: h, l, k => by obtain ⟨l', a, b, rfl, k', _⟩ := k; simp [M_len h l' k']
theorem ok_drop : ∀ j h, ok h → ok (h.drop j)
  | 0, h, k => k
  | j + 1, [], k => k
  | j + 1, none :: h, k => ok_drop j h k
  | j + 1, some (r, c) :: h, k => ok_drop j h k.1
theorem M_drop : ∀ j h l, M l h → M (l.take (h.length - j)) (h.drop j)
  | 0, h, l, k => by rw [Nat.sub_zero, List.drop_zero, ← M_len h l k, List.take_length]; exact k
  | j + 1, [], l, k => by simp only [M] at k; subst k; simp [M]
  | j + 1, none :: h, l, k => by
    obtain ⟨l', a, b, rfl, k'⟩ := k
    have h1 := M_drop j h l' k'
    have h2 := M_len h l' k'
    rw [List.length_cons, Nat.add_sub_add_right, List.drop_succ_cons, List.take_append_of_le_length (by omega)]; exact h1
  | j + 1, some (r, c) :: h, l, k => by
    obtain ⟨l', a, b, rfl, k', _⟩ := k
    have h1 := M_drop j h l' k'
    have h2 := M_len h l' k'
    rw [List.length_cons, Nat.add_sub_add_right, List.drop_succ_cons, List.take_append_of_le_length (by omega)]; exact h1
/-- the state after the first i operations -/
def pre (h : List HOp) (i : Nat) : List HOp := h.drop (h.length - i)
theorem pre_len (h : List HOp) (i : Nat) (hi : i ≤ h.length) : (pre h i).length = i := by unfold pre; rw [List.length_drop]; omega
theorem M_pre {h : List HOp} {l : List ROp} (k : M l h) (i : Nat) (hi : i ≤ h.length) : M (l.take i) (pre h i) := by
  have := M_drop (h.length - i) h l k
  rwa [show h.length - (h.length - i) = i by omega] at this
theorem ok_pre {h : List HOp} (k : ok h) (i : Nat) : ok (pre h i) := ok_drop _ _ k
theorem pre_all (h : List HOp) : pre h h.length = h := by simp [pre]
theorem pre_zero (h : List HOp) : pre h 0 = [] := by simp [pre]
theorem pre_succ (h : List HOp) (i : Nat) (hi : i < h.length) : ∃ o, pre h (i + 1) = o :: pre h i ∧ h[h.length - (i + 1)]? = some o := by
  unfold pre
  rw [List.drop_eq_getElem_cons (show h.length - (i + 1) < h.length by omega)]
  refine ⟨_, ?_, List.getElem?_eq_getElem (by omega)⟩
  rw [show h.length - (i + 1) + 1 = h.length - i by omega]
/-- the labels of the elements -/
def labs (h : List HOp) : List Nat := (List.range (nE h)).map (lab h)
theorem len_labs (h : List HOp) : (labs h).length = nE h := by simp [labs]
theorem labs_at (h : List HOp) (x : Nat) (hx : x < nE h) : (labs h).getD x 0 = lab h x := by
  simp [labs, List.getD_eq_getElem?_getD, hx]
theorem labs_none (h : List HOp) (k : ok h) : labs (none :: h) = labs h ++ [nE h] := by
  unfold labs
  simp only [nE, List.range_succ, List.map_append, List.map_cons, List.map_nil]
  rw [lab_none h k _ (by omega), if_pos rfl]
  congr 1
  apply List.map_congr_left
  intro x hx
  have := List.mem_range.1 hx
  rw [lab_none h k _ (by omega), if_neg (by omega)]
def swp (a b v : Nat) : Nat := if v = max a b then min a b else v
theorem lab_R (h : List HOp) (k : ok h) (x : Nat) : lab h (R h x) = lab h x := by unfold lab; rw [R_idem h k]
theorem labs_some (h : List HOp) (r c a b : Nat) (k : ok (some (r, c) :: h)) (hab : (R h a = r ∧ R h b = c) ∨ (R h a = c ∧ R h b = r)) :
    labs (some (r, c) :: h) = (labs h).map (swp (lab h a) (lab h b)) := by
  unfold labs
  simp only [nE, List.map_map]
  apply List.map_congr_left
  intro x hx
  have hx := List.mem_range.1 hx
  rw [lab_some h r c k x hx]
  simp only [Function.comp, swp]
  rcases hab with ⟨h1, h2⟩ | ⟨h1, h2⟩
  · have e1 : lab h a = lab h r := by rw [← lab_R h k.1 a, h1]
    have e2 : lab h b = lab h c := by rw [← lab_R h k.1 b, h2]
    rw [e1, e2]
  · have e1 : lab h a = lab h c := by rw [← lab_R h k.1 a, h1]
    have e2 : lab h b = lab h r := by rw [← lab_R h k.1 b, h2]
    rw [e1, e2, Nat.max_comm, Nat.min_comm]
theorem lab_lt (h : List HOp) (k : ok h) (x : Nat) (hx : x < nE h) : lab h x < nE h := (lst_R h k x hx).2.2
/-- the members of a set, by labels -/
theorem mem_lab (h : List HOp) (k : ok h) (x : Nat) (hx : x < nE h) : mem h (R h x) = (List.range (nE h)).filter (fun y => lab h y == lab h x) := by
  unfold mem
  apply List.filter_congr
  intro y hy
  have hy := List.mem_range.1 hy
  rw [Bool.eq_iff_iff, beq_iff_eq, beq_iff_eq]
  exact (lab_iff h k y x hy hx).symm
/-- sorted as numbers, the ring is the list of members -/
theorem sorted_mem (h : List HOp) (x : Nat) : ((mem h x).map (fun n : Nat => (n : Int))).Pairwise (· ≤ ·) := by
  unfold mem
  rw [List.pairwise_map]
  have : (List.range (nE h)).Pairwise (· < ·) := List.pairwise_lt_range
  exact (this.filter _).imp (fun h => by omega)
theorem sort_ring {h : List HOp} {x : Nat} {l ts : List Int} (hl : l.Perm ((mem h x).map (fun n : Nat => (n : Int)))) (ht : ts.Perm l) (hs : ts.Pairwise (· ≤ ·)) : ts = (mem h x).map (fun n : Nat => (n : Int)) :=
  List.Perm.eq_of_pairwise (le := (· ≤ ·)) (fun a b _ _ h1 h2 => by omega) hs (sorted_mem h x) (ht.trans hl)
/-- undoing the latest operation -/
theorem undo_par (h : List HOp) (k : ok h) (r c : Nat) (hc : c < nE h) (e : R h c = c) : (par (some (r, c) :: h)).set c c = par h := by
  simp only [par, List.set_set]
  apply List.ext_getElem (by simp)
  intro j h1 h2
  rw [List.getElem_set]
  split
  · rename_i g; subst g
    have := (par_root h k c hc).2 e
    rw [List.getD_eq_getElem?_getD, List.getElem?_eq_getElem h2] at this
    exact this.symm
  · rfl
theorem set_same (l : List Nat) (i : Nat) : l.set i (l.getD i 0) = l := by
  apply List.ext_getElem (by simp)
  intro j h1 h2
  rw [List.getElem_set]
  split
  · rename_i g; subst g; simp [List.getD_eq_getElem?_getD, h2]
  · rfl
theorem undo_lst (h : List HOp) (r c : Nat) : (lst (some (r, c) :: h)).set r ((lst h).getD r 0) = lst h := by
  simp only [lst, List.set_set]; exact set_same _ _
theorem undo_siz (h : List HOp) (r c : Nat) (hr : r < nE h) (hrc : r ≠ c) : (siz (some (r, c) :: h)).set r ((siz (some (r, c) :: h)).getD r 0 - (siz (some (r, c) :: h)).getD c 0) = siz h := by
  simp only [siz, List.set_set]
  rw [set_at (by rw [len_siz]; exact hr), set_off hrc, Nat.add_sub_cancel]; exact set_same _ _
theorem undo_nxt (h : List HOp) (r c : Nat) (hr : r < nE h) (hc : c < nE h) (hrc : r ≠ c) :
    ((nxt (some (r, c) :: h)).set r ((nxt (some (r, c) :: h)).getD c 0)).set c ((nxt (some (r, c) :: h)).getD r 0) = nxt h := by
  simp only [nxt]
  rw [set_at (by simp [len_nxt]; exact hc), set_off (fun g => hrc g.symm), set_at (by rw [len_nxt]; exact hr)]
  apply List.ext_getElem (by simp)
  intro j h1 h2
  simp only [List.getElem_set]
  split
  · rename_i g; subst g; simp [List.getD_eq_getElem?_getD, h2]
  · split
    · rename_i g; subst g; simp [List.getD_eq_getElem?_getD, h2]
    · rfl
end Go.Proofs.Ytihoegihmgeenaa
