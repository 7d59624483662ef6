/- Contracts of the functions of package opinfo and of its reference. -/
import Derived.Test.YtngmhgcnohgaiaaDoorRows
import Derived.WalkKit
import Derived.WalkSpells
import Derived.WalkLawsBesides
import Derived.Lib.Hide
namespace Go.Proofs.YtngmhgcnohgaiaaDoor
open Go.RowKit
theorem ret_bool {a b : Bool} (h : a = b) : Ending.returned (.bool a) = .returned (.bool b) := by rw [h]
theorem ret_int {k : IntKind} {a b : Int} (h : a = b) : Ending.returned (.int k a) = .returned (.int k b) := by rw [h]
def patB (op : Int) : Bool := decide (24 ≤ op ∧ op ≤ 26)
def comB (op : Int) : Bool := decide ((5 ≤ op ∧ op ≤ 8) ∨ op = 10 ∨ op = 16)
def leafB (op : Int) : Bool := decide (op = 1 ∨ op = 2 ∨ op = 24 ∨ op = 25)
def arity (op : Int) : Int := if op < 1 ∨ 26 < op then -1 else if op ≤ 2 ∨ op = 24 ∨ op = 25 then 0 else if op ≤ 4 ∨ (21 ≤ op ∧ op ≤ 23) ∨ op = 26 then 1 else if op = 19 then 3 else 2
set_option maxHeartbeats 1000000 in
theorem arity_any (op : Int) (w : World) :
    Calls Tryd.prog 13 #[.int .i64 op] w fun e w' => e = .returned (.int .i64 (arity op)) ∧ w' = w := by
  go_enter Tryd.func13, Tryd.ntmps13
  go_wp2
  all_goals go_ret
  all_goals refine ⟨?_, rfl⟩
  all_goals simp only [beq_iff_eq, beq_eq_false_iff_ne] at *
  all_goals exact ret_int (by unfold arity; (repeat' split) <;> omega)
theorem arity_leaf (op : Int) : (arity op == 0) = leafB op := by
  unfold arity leafB
  (repeat' split) <;> (rw [Bool.eq_iff_iff, beq_iff_eq, decide_eq_true_eq]; omega)
theorem ints_alloc (w : World) (zs : List Int) (T k : Nat) (h : k < zs.length) : (w.alloc (.cells (zs.map (Value.int .i64)).toArray T)).cell? ⟨w.heap.size, 0 + k, none⟩ = some (.int .i64 (zs.getD k 0)) := by
  rw [World.cell?_alloc_new]; simp [h]
def hasB (zs : List Int) (op : Int) : Bool := zs.contains op
theorem has_snoc (zs : List Int) (op : Int) (k : Nat) (hk : k < zs.length) (h1 : hasB (zs.take k) op = false) (h2 : (zs[k] == op) = false) : hasB (zs.take (k + 1)) op = false := by
  unfold hasB at *
  rw [List.take_succ_eq_append_getElem hk, List.contains_eq_mem, decide_eq_false_iff_not, List.mem_append, List.mem_singleton]
  rw [List.contains_eq_mem, decide_eq_false_iff_not] at h1
  rw [beq_eq_false_iff_ne] at h2
  rintro (h | h)
  · exact h1 h
  · exact h2 h.symm
theorem has_at (zs : List Int) (op : Int) (k : Nat) (hk : k < zs.length) (h2 : (zs[k] == op) = true) : hasB zs op = true := by
  unfold hasB
  simp at h2 ⊢
  exact h2 ▸ List.getElem_mem hk
theorem leafs (op : Int) : hasB [1, 2, 24, 25] op = leafB op := by
  unfold leafB hasB; rw [Bool.eq_iff_iff]; simp
theorem pats (op : Int) : hasB [24, 25, 26] op = patB op := by
  unfold patB hasB; rw [Bool.eq_iff_iff]; simp; omega
theorem coms (op : Int) : hasB [5, 6, 7, 8, 10, 16] op = comB op := by
  unfold comB hasB; rw [Bool.eq_iff_iff]; simp; omega
end Go.Proofs.YtngmhgcnohgaiaaDoor
