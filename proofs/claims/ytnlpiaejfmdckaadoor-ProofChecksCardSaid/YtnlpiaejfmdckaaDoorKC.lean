/- Many cells written. -/
import Derived.Test.YtnlpiaejfmdckaaDoorKA
namespace Go.Proofs.YtnlpiaejfmdckaaDoor
open Go.RowKit
set_option linter.unusedVariables false
set_option linter.unusedSimpArgs false
set_option maxHeartbeats 2000000
theorem set12 {w : World} {b : Nat} {x0 x1 x2 x3 x4 x5 x6 x7 x8 x9 x10 x11 x12 x13 : Value} (N : w.heap[b]? = some (.cells #[x0, x1, x2, x3, x4, x5, x6, x7, x8, x9, x10, x11, x12, x13] 44 (0, 0))) (r u a0 a1 a2 a3 a4 b0 b1 b2 b3 b4 : Value) : ((((((((((((w.setCell ⟨b, 1, none⟩ r).setCell ⟨b, 3, none⟩ u).setCell ⟨b, 4, none⟩ a0).setCell ⟨b, 5, none⟩ a1).setCell ⟨b, 6, none⟩ a2).setCell ⟨b, 7, none⟩ a3).setCell ⟨b, 8, none⟩ a4).setCell ⟨b, 9, none⟩ b0).setCell ⟨b, 10, none⟩ b1).setCell ⟨b, 11, none⟩ b2).setCell ⟨b, 12, none⟩ b3).setCell ⟨b, 13, none⟩ b4).heap[b]? = some (.cells #[x0, r, x2, u, a0, a1, a2, a3, a4, b0, b1, b2, b3, b4] 44 (0, 0)) := by
  have h0 := heap_setCell_same _ b 1 _ 44 r N
  simp only [List.setIfInBounds_toArray, List.set_cons_zero, List.set_cons_succ] at h0
  have h1 := heap_setCell_same _ b 3 _ 44 u h0
  simp only [List.setIfInBounds_toArray, List.set_cons_zero, List.set_cons_succ] at h1
  have h2 := heap_setCell_same _ b 4 _ 44 a0 h1
  simp only [List.setIfInBounds_toArray, List.set_cons_zero, List.set_cons_succ] at h2
  have h3 := heap_setCell_same _ b 5 _ 44 a1 h2
  simp only [List.setIfInBounds_toArray, List.set_cons_zero, List.set_cons_succ] at h3
  have h4 := heap_setCell_same _ b 6 _ 44 a2 h3
  simp only [List.setIfInBounds_toArray, List.set_cons_zero, List.set_cons_succ] at h4
  have h5 := heap_setCell_same _ b 7 _ 44 a3 h4
  simp only [List.setIfInBounds_toArray, List.set_cons_zero, List.set_cons_succ] at h5
  have h6 := heap_setCell_same _ b 8 _ 44 a4 h5
  simp only [List.setIfInBounds_toArray, List.set_cons_zero, List.set_cons_succ] at h6
  have h7 := heap_setCell_same _ b 9 _ 44 b0 h6
  simp only [List.setIfInBounds_toArray, List.set_cons_zero, List.set_cons_succ] at h7
  have h8 := heap_setCell_same _ b 10 _ 44 b1 h7
  simp only [List.setIfInBounds_toArray, List.set_cons_zero, List.set_cons_succ] at h8
  have h9 := heap_setCell_same _ b 11 _ 44 b2 h8
  simp only [List.setIfInBounds_toArray, List.set_cons_zero, List.set_cons_succ] at h9
  have h10 := heap_setCell_same _ b 12 _ 44 b3 h9
  simp only [List.setIfInBounds_toArray, List.set_cons_zero, List.set_cons_succ] at h10
  have h11 := heap_setCell_same _ b 13 _ 44 b4 h10
  simp only [List.setIfInBounds_toArray, List.set_cons_zero, List.set_cons_succ] at h11
  exact h11
theorem set12_st (w : World) (b : Nat) (r u a0 a1 a2 a3 a4 b0 b1 b2 b3 b4 : Value) : Step w ((((((((((((w.setCell ⟨b, 1, none⟩ r).setCell ⟨b, 3, none⟩ u).setCell ⟨b, 4, none⟩ a0).setCell ⟨b, 5, none⟩ a1).setCell ⟨b, 6, none⟩ a2).setCell ⟨b, 7, none⟩ a3).setCell ⟨b, 8, none⟩ a4).setCell ⟨b, 9, none⟩ b0).setCell ⟨b, 10, none⟩ b1).setCell ⟨b, 11, none⟩ b2).setCell ⟨b, 12, none⟩ b3).setCell ⟨b, 13, none⟩ b4) (oneF b) (oneF b) := ((((((((((((((((((((((((Step.refl w (oneF b)).trans (step_set 1 r))).trans (step_set 3 u))).trans (step_set 4 a0))).trans (step_set 5 a1))).trans (step_set 6 a2))).trans (step_set 7 a3))).trans (step_set 8 a4))).trans (step_set 9 b0))).trans (step_set 10 b1))).trans (step_set 11 b2))).trans (step_set 12 b3))).trans (step_set 13 b4))
theorem set14 {w : World} {b : Nat} {x0 x1 x2 x3 x4 x5 x6 x7 x8 x9 x10 x11 x12 x13 : Value} (N : w.heap[b]? = some (.cells #[x0, x1, x2, x3, x4, x5, x6, x7, x8, x9, x10, x11, x12, x13] 44 (0, 0))) (z0 z1 z2 z3 z4 z5 z6 z7 z8 z9 z10 z11 z12 z13 : Value) : ((((((((((((((w.setCell ⟨b, 0, none⟩ z0).setCell ⟨b, 1, none⟩ z1).setCell ⟨b, 2, none⟩ z2).setCell ⟨b, 3, none⟩ z3).setCell ⟨b, 4, none⟩ z4).setCell ⟨b, 5, none⟩ z5).setCell ⟨b, 6, none⟩ z6).setCell ⟨b, 7, none⟩ z7).setCell ⟨b, 8, none⟩ z8).setCell ⟨b, 9, none⟩ z9).setCell ⟨b, 10, none⟩ z10).setCell ⟨b, 11, none⟩ z11).setCell ⟨b, 12, none⟩ z12).setCell ⟨b, 13, none⟩ z13).heap[b]? = some (.cells #[z0, z1, z2, z3, z4, z5, z6, z7, z8, z9, z10, z11, z12, z13] 44 (0, 0)) := by
  have h0 := heap_setCell_same _ b 0 _ 44 z0 N
  simp only [List.setIfInBounds_toArray, List.set_cons_zero, List.set_cons_succ] at h0
  have h1 := heap_setCell_same _ b 1 _ 44 z1 h0
  simp only [List.setIfInBounds_toArray, List.set_cons_zero, List.set_cons_succ] at h1
  have h2 := heap_setCell_same _ b 2 _ 44 z2 h1
  simp only [List.setIfInBounds_toArray, List.set_cons_zero, List.set_cons_succ] at h2
  have h3 := heap_setCell_same _ b 3 _ 44 z3 h2
  simp only [List.setIfInBounds_toArray, List.set_cons_zero, List.set_cons_succ] at h3
  have h4 := heap_setCell_same _ b 4 _ 44 z4 h3
  simp only [List.setIfInBounds_toArray, List.set_cons_zero, List.set_cons_succ] at h4
  have h5 := heap_setCell_same _ b 5 _ 44 z5 h4
  simp only [List.setIfInBounds_toArray, List.set_cons_zero, List.set_cons_succ] at h5
  have h6 := heap_setCell_same _ b 6 _ 44 z6 h5
  simp only [List.setIfInBounds_toArray, List.set_cons_zero, List.set_cons_succ] at h6
  have h7 := heap_setCell_same _ b 7 _ 44 z7 h6
  simp only [List.setIfInBounds_toArray, List.set_cons_zero, List.set_cons_succ] at h7
  have h8 := heap_setCell_same _ b 8 _ 44 z8 h7
  simp only [List.setIfInBounds_toArray, List.set_cons_zero, List.set_cons_succ] at h8
  have h9 := heap_setCell_same _ b 9 _ 44 z9 h8
  simp only [List.setIfInBounds_toArray, List.set_cons_zero, List.set_cons_succ] at h9
  have h10 := heap_setCell_same _ b 10 _ 44 z10 h9
  simp only [List.setIfInBounds_toArray, List.set_cons_zero, List.set_cons_succ] at h10
  have h11 := heap_setCell_same _ b 11 _ 44 z11 h10
  simp only [List.setIfInBounds_toArray, List.set_cons_zero, List.set_cons_succ] at h11
  have h12 := heap_setCell_same _ b 12 _ 44 z12 h11
  simp only [List.setIfInBounds_toArray, List.set_cons_zero, List.set_cons_succ] at h12
  have h13 := heap_setCell_same _ b 13 _ 44 z13 h12
  simp only [List.setIfInBounds_toArray, List.set_cons_zero, List.set_cons_succ] at h13
  exact h13
theorem set14_st (w : World) (b : Nat) (z0 z1 z2 z3 z4 z5 z6 z7 z8 z9 z10 z11 z12 z13 : Value) : Step w ((((((((((((((w.setCell ⟨b, 0, none⟩ z0).setCell ⟨b, 1, none⟩ z1).setCell ⟨b, 2, none⟩ z2).setCell ⟨b, 3, none⟩ z3).setCell ⟨b, 4, none⟩ z4).setCell ⟨b, 5, none⟩ z5).setCell ⟨b, 6, none⟩ z6).setCell ⟨b, 7, none⟩ z7).setCell ⟨b, 8, none⟩ z8).setCell ⟨b, 9, none⟩ z9).setCell ⟨b, 10, none⟩ z10).setCell ⟨b, 11, none⟩ z11).setCell ⟨b, 12, none⟩ z12).setCell ⟨b, 13, none⟩ z13) (oneF b) (oneF b) := ((((((((((((((((((((((((((((Step.refl w (oneF b)).trans (step_set 0 z0))).trans (step_set 1 z1))).trans (step_set 2 z2))).trans (step_set 3 z3))).trans (step_set 4 z4))).trans (step_set 5 z5))).trans (step_set 6 z6))).trans (step_set 7 z7))).trans (step_set 8 z8))).trans (step_set 9 z9))).trans (step_set 10 z10))).trans (step_set 11 z11))).trans (step_set 12 z12))).trans (step_set 13 z13))
end Go.Proofs.YtnlpiaejfmdckaaDoor
