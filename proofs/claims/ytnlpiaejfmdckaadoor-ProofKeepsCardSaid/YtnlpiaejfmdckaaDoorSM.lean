/- Needed: the reference's way and the program's give the same list. -/
import Derived.Test.YtnlpiaejfmdckaaDoorSL
namespace Go.Proofs.YtnlpiaejfmdckaaDoor
set_option linter.unusedVariables false
set_option linter.unusedSimpArgs false
/-- what is marked after the rounds k - 1, .., 0 -/
def rB (ss : List S) : Nat → List Bool → List Bool
  | 0, nb => nb
  | k + 1, nb => rB ss k (if nb.getD k false = true then mkB nb (rfs ss k) else nb)
theorem rB_succ (ss : List S) (k : Nat) (nb : List Bool) : rB ss (k + 1) nb = rB ss k (if nb.getD k false = true then mkB nb (rfs ss k) else nb) := rfl
/-- the marked places below k, in order -/
def flt (nb : List Bool) : Nat → List Int
  | 0 => []
  | k + 1 => flt nb k ++ (if nb.getD k false = true then [(k : Int)] else [])
theorem flt_succ (nb : List Bool) (k : Nat) : flt nb (k + 1) = flt nb k ++ (if nb.getD k false = true then [(k : Int)] else []) := rfl
theorem mkB_at : ∀ (rs : List Int) (nb : List Bool) (j : Nat), (∀ r ∈ rs, 0 ≤ r ∧ r < (j : Int)) → (mkB nb rs).getD j false = nb.getD j false
  | [], nb, j, h => rfl
  | r :: rs, nb, j, h => by
    rw [mkB_cons, mkB_at rs _ j (fun x hx => h x (by simp [hx]))]
    have := h r (by simp)
    rw [List.getD_eq_getElem?_getD, List.getD_eq_getElem?_getD, List.getElem?_set_ne (by omega)]
theorem rB_at (ss : List S) : ∀ (k : Nat) (nb : List Bool) (j : Nat), (∀ i, i < k → ∀ r ∈ rfs ss i, 0 ≤ r ∧ r < (i : Int)) → k ≤ j → (rB ss k nb).getD j false = nb.getD j false
  | 0, nb, j, h, hk => rfl
  | k + 1, nb, j, h, hk => by
    rw [rB_succ, rB_at ss k _ j (fun i hi => h i (by omega)) (by omega)]
    split
    · exact mkB_at _ _ _ fun r hr => by have := h k (by omega) r hr; omega
    · rfl
theorem ndP_flt (ss : List S) : ∀ (k : Nat) (nb : List Bool) (acc : List Int), (∀ i, i < k → ∀ r ∈ rfs ss i, 0 ≤ r ∧ r < (i : Int)) → ndP ss k nb acc = acc ++ (flt (rB ss k nb) k).reverse
  | 0, nb, acc, h => by simp [ndP, flt]
  | k + 1, nb, acc, h => by
    rw [ndP_succ, flt_succ, rB_succ]
    rw [rB_at ss k _ k (fun i hi => h i (by omega)) (Nat.le_refl _)]
    by_cases hb : nb.getD k false = true
    · simp only [if_pos hb]
      rw [mkB_at _ _ _ (fun r hr => by have := h k (by omega) r hr; omega), if_pos hb, ndP_flt ss k _ _ (fun i hi => h i (by omega))]
      simp
    · simp only [if_neg hb]
      rw [ndP_flt ss k _ _ (fun i hi => h i (by omega))]
      simp
theorem ndd_flt (ss : List S) (h : vld ss = true) : ndd ss = flt (rB ss ss.length ((List.replicate ss.length false).set (ss.length - 1) true)) ss.length := by
  unfold ndd
  obtain ⟨h1, h2, h3⟩ := vld_ok h
  rw [if_pos h, ndP_flt ss ss.length _ _ (fun i hi r hr => by
    unfold rfs at hr
    rw [List.getElem?_eq_getElem hi] at hr
    exact well_mem (h3 i hi) r hr)]
  simp
end Go.Proofs.YtnlpiaejfmdckaaDoor
