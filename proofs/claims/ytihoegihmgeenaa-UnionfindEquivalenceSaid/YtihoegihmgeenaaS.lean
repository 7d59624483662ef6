/- The reference's Labels. -/
import Derived.Test.YtihoegihmgeenaaR
import Derived.Outline
import Derived.Deep.DeepMust
namespace Go.Proofs.Ytihoegihmgeenaa
open Go.RowKit
set_option linter.unusedVariables false
set_option linter.unusedSimpArgs false
abbrev dOp : ROp := (false, 0, 0)
def rops (l : List ROp) : List Value := l.flatMap (fun p => [.bool p.1, .int .i64 p.2.1, .int .i64 p.2.2])
theorem len_rops (l : List ROp) : (rops l).length = l.length * 3 := by
  induction l with
  | nil => rfl
  | cons a l ih => simp only [rops, List.flatMap_cons, List.length_append, List.length_cons, List.length_nil] at ih ⊢; omega
theorem rops_at (l : List ROp) (k : Nat) (hk : k < l.length) : (rops l)[k * 3]? = some (.bool (l.getD k dOp).1) ∧ (rops l)[k * 3 + 1]? = some (.int .i64 (l.getD k dOp).2.1) ∧ (rops l)[k * 3 + 2]? = some (.int .i64 (l.getD k dOp).2.2) := by
  induction l generalizing k with
  | nil => simp at hk
  | cons a l ih =>
    cases k with
    | zero => simp [rops]
    | succ k =>
      have := ih k (by simpa using hk)
      have e : rops (a :: l) = [.bool a.1, .int .i64 a.2.1, .int .i64 a.2.2] ++ rops l := rfl
      rw [e]
      refine ⟨?_, ?_, ?_⟩
      · rw [List.getElem?_append_right (by simp; omega), show (k + 1) * 3 - [Value.bool a.1, .int .i64 a.2.1, .int .i64 a.2.2].length = k * 3 by simp; omega, this.1]; simp
      · rw [List.getElem?_append_right (by simp; omega), show (k + 1) * 3 + 1 - [Value.bool a.1, .int .i64 a.2.1, .int .i64 a.2.2].length = k * 3 + 1 by simp; omega, this.2.1]; simp
      · rw [List.getElem?_append_right (by simp; omega), show (k + 1) * 3 + 2 - [Value.bool a.1, .int .i64 a.2.1, .int .i64 a.2.2].length = k * 3 + 2 by simp; omega, this.2.2]; simp
theorem rop_cells {w : World} {B g n cap : Nat} {l : List ROp} (o : w.ownsRow B 58 3 (.slice (some ⟨g, 0, none⟩) n cap) n (rops l)) (k : Nat) (hk : k < n) :
    w.cell? ⟨g, k * 3, none⟩ = some (.bool (l.getD k dOp).1) ∧ w.cell? ⟨g, k * 3 + 1, none⟩ = some (.int .i64 (l.getD k dOp).2.1) ∧ w.cell? ⟨g, k * 3 + 2, none⟩ = some (.int .i64 (l.getD k dOp).2.2) := by
  have hl : l.length = n := by have := o.1; rw [len_rops] at this; omega
  have := rops_at l k (by omega)
  exact ⟨by rw [World.ownsRow.cellAt o _ (by omega)]; exact this.1, by rw [World.ownsRow.cellAt o _ (by omega)]; exact this.2.1, by rw [World.ownsRow.cellAt o _ (by omega)]; exact this.2.2⟩
/-- what the k-th operation is -/
theorem M_at {h : List HOp} {l : List ROp} (m : M l h) (k : Nat) (hk : k < h.length) :
    (∃ a b, l.getD k dOp = (true, a, b) ∧ pre h (k + 1) = none :: pre h k) ∨
    (∃ (r c a b : Nat), l.getD k dOp = (false, (a : Int), (b : Int)) ∧ pre h (k + 1) = some (r, c) :: pre h k ∧ a < nE (pre h k) ∧ b < nE (pre h k) ∧ ((R (pre h k) a = r ∧ R (pre h k) b = c) ∨ (R (pre h k) a = c ∧ R (pre h k) b = r))) := by
  obtain ⟨o, ho, _⟩ := pre_succ h k hk
  have m1 := M_pre m (k + 1) hk
  have hl := M_len h l m
  rw [ho] at m1
  have hg : ∀ (l' : List ROp) (x : ROp), l'.length = k → l.take (k + 1) = l' ++ [x] → l.getD k dOp = x := by
    intro l' x h1 h2
    have h3 : (l.take (k + 1))[k]? = some x := by rw [h2, List.getElem?_append_right (by omega)]; simp [h1]
    rw [List.getElem?_take_of_lt (by omega)] at h3
    rw [List.getD_eq_getElem?_getD, h3]; rfl
  cases o with
  | none =>
    obtain ⟨l', a, b, h1, h2⟩ := m1
    have := M_len _ _ h2
    rw [pre_len h k (by omega)] at this
    exact .inl ⟨a, b, hg l' _ this h1, ho⟩
  | some p =>
    obtain ⟨r, c⟩ := p
    obtain ⟨l', a, b, h1, h2, h3, h4, h5⟩ := m1
    have := M_len _ _ h2
    rw [pre_len h k (by omega)] at this
    exact .inr ⟨r, c, a, b, hg l' _ this h1, ho, h3, h4, h5⟩
/-- the list after j steps of the replacement -/
def swpTo (a b : Nat) (L : List Nat) (j : Nat) : List Nat := (L.take j).map (swp a b) ++ L.drop j
theorem len_swpTo (a b : Nat) (L : List Nat) (j : Nat) : (swpTo a b L j).length = L.length := by simp [swpTo]; omega
theorem swpTo_zero (a b : Nat) (L : List Nat) : swpTo a b L 0 = L := by simp [swpTo]
theorem swpTo_all (a b : Nat) (L : List Nat) : swpTo a b L L.length = L.map (swp a b) := by simp [swpTo]
theorem swpTo_at (a b : Nat) (L : List Nat) (j : Nat) (hj : j < L.length) : (swpTo a b L j).getD j 0 = L.getD j 0 := by
  simp only [swpTo, List.getD_eq_getElem?_getD]
  rw [List.getElem?_append_right (by simp; omega)]
  simp only [List.length_map, List.length_take, List.getElem?_drop]
  congr 2; omega
theorem swpTo_succ (a b : Nat) (L : List Nat) (j : Nat) (hj : j < L.length) : swpTo a b L (j + 1) = (swpTo a b L j).set j (swp a b (L.getD j 0)) := by
  unfold swpTo
  rw [List.take_succ_eq_append_getElem hj, List.map_append, List.set_append_right _ _ (by simp; omega), List.drop_eq_getElem_cons hj]
  simp only [List.length_map, List.length_take, Nat.min_eq_left (Nat.le_of_lt hj), Nat.sub_self, List.set_cons_zero, List.append_assoc]
  simp [List.getD_eq_getElem?_getD, hj]
theorem swpTo_same (a b : Nat) (L : List Nat) (j : Nat) (hj : j < L.length) (hne : L.getD j 0 ≠ max a b) : swpTo a b L (j + 1) = swpTo a b L j := by
  rw [swpTo_succ a b L j hj]
  have : swp a b (L.getD j 0) = (swpTo a b L j).getD j 0 := by rw [swpTo_at a b L j hj]; unfold swp; rw [if_neg hne]
  rw [this, set_same]
def LPost (w : World) (L : List Nat) (e : Ending) (w' : World) : Prop := ∃ v, e = .returned v ∧ w'.ownsRow w.heap.size 3 1 v L.length (nums L) ∧ Below w.heap.size w w'
end Go.Proofs.Ytihoegihmgeenaa
