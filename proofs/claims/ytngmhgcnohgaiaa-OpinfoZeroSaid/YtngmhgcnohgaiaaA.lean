/- Contracts of the functions of package opinfo and of its reference. -/
import Derived.Test.YtngmhgcnohgaiaaRows
import Derived.WalkKit
import Derived.WalkSpells
import Derived.WalkLawsBesides
import Derived.Lib.Hide
namespace Go.Proofs.Ytngmhgcnohgaiaa
open Go.RowKit
theorem ret_bool {a b : Bool} (h : a = b) : Ending.returned (.bool a) = .returned (.bool b) := by rw [h]
theorem ret_int {k : IntKind} {a b : Int} (h : a = b) : Ending.returned (.int k a) = .returned (.int k b) := by rw [h]
def patB (op : Int) : Bool := decide (24 ≤ op ∧ op ≤ 26)
def comB (op : Int) : Bool := decide ((5 ≤ op ∧ op ≤ 8) ∨ op = 10 ∨ op = 16)
def leafB (op : Int) : Bool := decide (op = 1 ∨ op = 2 ∨ op = 24 ∨ op = 25)
def arity (op : Int) : Int := if op < 1 ∨ 26 < op then -1 else if op ≤ 2 ∨ op = 24 ∨ op = 25 then 0 else if op ≤ 4 ∨ (21 ≤ op ∧ op ≤ 23) ∨ op = 26 then 1 else if op = 19 then 3 else 2
set_option maxHeartbeats 400000 in
theorem pattern_any (op : Int) (w : World) :
    Calls Try.prog 13 #[.int .i64 op] w fun e w' => e = .returned (.bool (patB op)) ∧ w' = w := by
  go_enter Try.func13, Try.ntmps13
  go_wp2
  all_goals go_ret
  all_goals refine ⟨?_, rfl⟩
  all_goals simp only [beq_iff_eq, beq_eq_false_iff_ne] at *
  all_goals exact ret_bool (by unfold patB; symm; first | (apply decide_eq_true; omega) | (apply decide_eq_false; omega))
set_option maxHeartbeats 400000 in
theorem commutes_any (op : Int) (w : World) :
    Calls Try.prog 9 #[.int .i64 op] w fun e w' => e = .returned (.bool (comB op)) ∧ w' = w := by
  go_enter Try.func9, Try.ntmps9
  go_wp2
  all_goals go_ret
  all_goals refine ⟨?_, rfl⟩
  all_goals simp only [beq_iff_eq, beq_eq_false_iff_ne] at *
  all_goals exact ret_bool (by unfold comB; symm; first | (apply decide_eq_true; omega) | (apply decide_eq_false; omega))
set_option maxHeartbeats 1000000 in
theorem arity_any (op : Int) (w : World) :
    Calls Try.prog 7 #[.int .i64 op] w fun e w' => e = .returned (.int .i64 (arity op)) ∧ w' = w := by
  go_enter Try.func7, Try.ntmps7
  go_wp2
  all_goals go_ret
  all_goals refine ⟨?_, rfl⟩
  all_goals simp only [beq_iff_eq, beq_eq_false_iff_ne] at *
  all_goals exact ret_int (by unfold arity; (repeat' split) <;> omega)
theorem arity_leaf (op : Int) : (arity op == 0) = leafB op := by
  unfold arity leafB
  (repeat' split) <;> (rw [Bool.eq_iff_iff, beq_iff_eq, decide_eq_true_eq]; omega)
set_option maxHeartbeats 400000 in
theorem leaf_any (op : Int) (w : World) :
    Calls Try.prog 11 #[.int .i64 op] w fun e w' => e = .returned (.bool (leafB op)) ∧ w' = w := by
  go_enter Try.func11, Try.ntmps11
  go_wp2_with (go_at_call 7; refine (arity_any _ _).mono ?_; rintro e w' ⟨rfl, rfl⟩)
  go_ret
  exact ⟨ret_bool (arity_leaf op), rfl⟩
theorem ints_alloc (w : World) (zs : List Int) (T k : Nat) (h : k < zs.length) : (w.alloc (.cells (zs.map (Value.int .i64)).toArray T)).cell? ⟨w.heap.size, 0 + k, none⟩ = some (.int .i64 (zs.getD k 0)) := by
  rw [World.cell?_alloc_new]; simp [h]
def hasB (zs : List Int) (op : Int) : Bool := zs.contains op
theorem has_snoc (zs : List Int) (op : Int) (k : Nat) (hk : k < zs.length) (h1 : hasB (zs.take k) op = false) (h2 : (zs[k] == op) = false) : hasB (zs.take (k + 1)) op = false := by
  unfold hasB at *
  rw [List.take_succ_eq_append_getElem hk, List.contains_eq_mem, decide_eq_false_iff_not, List.mem_append, List.mem_singleton]
  rw [List.contains_eq_mem, decide_eq_false_iff_not] at h1
  rw [beq_eq_false_iff_ne] at h2
  rintro (h | h)
  · exact h1 h
  · exact h2 h.symm
theorem has_at (zs : List Int) (op : Int) (k : Nat) (hk : k < zs.length) (h2 : (zs[k] == op) = true) : hasB zs op = true := by
  unfold hasB
  simp at h2 ⊢
  exact h2 ▸ List.getElem_mem hk
set_option maxHeartbeats 400000 in
theorem is_any (op : Int) (zs : List Int) (n b off cap : Nat) (w : World) (hn : zs.length = n) (hl : n ≤ 1000) (hc : ∀ k, k < zs.length → w.cell? ⟨b, off + k, none⟩ = some (.int .i64 (zs.getD k 0))) :
    Calls Try.prog 19 #[.int .i64 op, .slice (some ⟨b, off, none⟩) n cap] w fun e w' => e = .returned (.bool (hasB zs op)) ∧ w' = w := by
  subst hn
  go_enter Try.func19, Try.ntmps19
  go_wp2
  go_loop [8] (fun i => ∃ k : Nat, k ≤ zs.length ∧ i = .int .i64 k ∧ hasB (zs.take k) op = false) (fun i => zs.length - (intOf i).toNat)
  case atStart => exact ⟨0, Nat.zero_le _, rfl, rfl⟩
  case round =>
    obtain ⟨k, hk, rfl, hno⟩ := hrel
    have hno' := Lib.hid hno
    clear hno
    by_cases hlt : k < zs.length
    · have hcell := hc k hlt
      go_wp2
      · have h : (zs[k] == op) = true := by assumption
        go_ret
        exact ⟨ret_bool (has_at zs op k hlt h).symm, rfl⟩
      · have h : (zs[k] == op) = false := by assumption
        go_round
        case rel => exact ⟨k + 1, by omega, by go_num, has_snoc zs op k hlt hno'.out h⟩
        case measure => simp [intOf]; omega
    · go_wp2
      go_ret
      have hno := hno'.out
      rw [List.take_of_length_le (by omega)] at hno
      exact ⟨ret_bool hno.symm, rfl⟩
/-- a list of numbers laid as a literal, and asked for op -/
theorem is_lit (op : Int) (zs : List Int) (n : Nat) (w : World) (hn : zs.length = n) (hl : n ≤ 1000) :
    Calls Try.prog 19 #[.int .i64 op, .slice (some ⟨w.heap.size, 0, none⟩) n n] (w.alloc (.cells (zs.map (Value.int .i64)).toArray 22)) fun e w' => e = .returned (.bool (hasB zs op)) ∧ w' = w.alloc (.cells (zs.map (Value.int .i64)).toArray 22) :=
  is_any op zs n _ 0 n _ hn hl (fun k h => ints_alloc w zs 22 k h)
theorem leafs (op : Int) : hasB [1, 2, 24, 25] op = leafB op := by
  unfold leafB hasB; rw [Bool.eq_iff_iff]; simp
theorem pats (op : Int) : hasB [24, 25, 26] op = patB op := by
  unfold patB hasB; rw [Bool.eq_iff_iff]; simp; omega
theorem coms (op : Int) : hasB [5, 6, 7, 8, 10, 16] op = comB op := by
  unfold comB hasB; rw [Bool.eq_iff_iff]; simp; omega
set_option maxHeartbeats 400000 in
theorem rleaf_any (op : Int) (w : World) :
    Calls Try.prog 12 #[.int .i64 op] w fun e w' => e = .returned (.bool (leafB op)) ∧ w' = w.alloc (.cells #[.int .i64 1, .int .i64 2, .int .i64 24, .int .i64 25] 22) := by
  go_enter Try.func12, Try.ntmps12
  go_wp2_with fail
  refine (is_lit op [1, 2, 24, 25] 4 w rfl (by omega)).mono ?_
  rintro e w' ⟨rfl, rfl⟩
  go_wp2_with fail
  go_ret
  exact ⟨ret_bool (leafs op), rfl⟩
set_option maxHeartbeats 400000 in
theorem rpattern_any (op : Int) (w : World) :
    Calls Try.prog 14 #[.int .i64 op] w fun e w' => e = .returned (.bool (patB op)) ∧ w' = w.alloc (.cells #[.int .i64 24, .int .i64 25, .int .i64 26] 22) := by
  go_enter Try.func14, Try.ntmps14
  go_wp2_with fail
  refine (is_lit op [24, 25, 26] 3 w rfl (by omega)).mono ?_
  rintro e w' ⟨rfl, rfl⟩
  go_wp2_with fail
  go_ret
  exact ⟨ret_bool (pats op), rfl⟩
set_option maxHeartbeats 400000 in
theorem rcommutes_any (op : Int) (w : World) :
    Calls Try.prog 10 #[.int .i64 op] w fun e w' => e = .returned (.bool (comB op)) ∧ w' = w.alloc (.cells #[.int .i64 5, .int .i64 6, .int .i64 7, .int .i64 8, .int .i64 10, .int .i64 16] 22) := by
  go_enter Try.func10, Try.ntmps10
  go_wp2_with fail
  refine (is_lit op [5, 6, 7, 8, 10, 16] 6 w rfl (by omega)).mono ?_
  rintro e w' ⟨rfl, rfl⟩
  go_wp2_with fail
  go_ret
  exact ⟨ret_bool (coms op), rfl⟩
end Go.Proofs.Ytngmhgcnohgaiaa
