/- The cost of an operator; sums of costs. -/
import Derived.Test.YtmejiiebeknbjaaDoorB
namespace Go.Proofs.YtmejiiebeknbjaaDoor
open Go.RowKit
set_option linter.unusedVariables false
set_option linter.unusedSimpArgs false
theorem ret_int {k : IntKind} {a b : Int} (h : a = b) : Ending.returned (.int k a) = .returned (.int k b) := by rw [h]
def arity (op : Int) : Int := if op < 1 ∨ 26 < op then -1 else if op ≤ 2 ∨ op = 24 ∨ op = 25 then 0 else if op ≤ 4 ∨ (21 ≤ op ∧ op ≤ 23) ∨ op = 26 then 1 else if op = 19 then 3 else 2
set_option maxHeartbeats 1000000 in
theorem arity22 (op : Int) (w : World) : Calls Tryd.prog 22 #[.int .i64 op] w fun e w' => e = .returned (.int .i64 (arity op)) ∧ w = w' := by
  go_enter Tryd.func22, Tryd.ntmps22
  go_wp2
  all_goals go_ret
  all_goals refine ⟨?_, rfl⟩
  all_goals simp only [beq_iff_eq, beq_eq_false_iff_ne] at *
  all_goals exact ret_int (by unfold arity; (repeat' split) <;> omega)
/-- a list of costs as an array's cells -/
def ca (cs : List Int) : Array Value := (cs.map (Value.int .i64)).toArray
theorem ca_size (cs : List Int) : (ca cs).size = cs.length := by simp [ca]
theorem ca_get (cs : List Int) (k : Nat) (h : k < cs.length) : (ca cs)[k]? = some (.int .i64 (cs.getD k 0)) := by simp [ca, List.getD_eq_getElem?_getD, h]
theorem nodeC_in (cs : List Int) (k : Nat) (h1 : 1 ≤ k) (h2 : k ≤ 26) : nodeC cs k = min (max (cs.getD k 0) 1) 1048576 := by
  unfold nodeC; rw [if_neg (by omega)]; simp
theorem nodeC_out (cs : List Int) (op : Int) (h : op < 1 ∨ 26 < op) : nodeC cs op = 1 := by unfold nodeC; rw [if_pos h]
set_option maxHeartbeats 1000000 in
theorem node9 (cs : List Int) (op : Int) (w : World) (hc : cs.length = 32) : Calls Tryd.prog 9 #[.agg (ca cs), .int .i64 op] w fun e w' => e = .returned (.int .i64 (nodeC cs op)) ∧ BK w w' := by
  have hk := bk_alloc (BK.refl w) (.cells (ca cs) 23)
  have ha := arity22 op
  by_cases h : op < 1 ∨ 26 < op
  · have hn := Lib.hid (nodeC_out cs op h)
    have h1 : arity op = -1 := by unfold arity; rw [if_pos h]
    rw [h1] at ha
    have HK := Lib.hid hk
    clear h h1 hk
    go_enter Tryd.func9, Tryd.ntmps9
    go_wp2_with (go_at_call 22; refine (ha _).mono ?_; rintro e w' ⟨rfl, rfl⟩)
    go_ret
    exact ⟨ret_int hn.out.symm, HK.out⟩
  · obtain ⟨k, rfl⟩ : ∃ k : Nat, op = k := ⟨op.toNat, by omega⟩
    have h1 : 1 ≤ k := by omega
    have h2 : k ≤ 26 := by omega
    have hn := Lib.hid (nodeC_in cs k h1 h2)
    have ha0 : 0 ≤ arity k := by unfold arity; rw [if_neg h]; (repeat' split) <;> omega
    have ha1 : decide (arity k < 0) = false := by simp; omega
    have hcell : (w.alloc (.cells (ca cs) 23)).cell? ⟨w.heap.size, k, none⟩ = some (.int .i64 (cs.getD k 0)) := by rw [World.cell?_alloc_new]; exact ca_get cs k (by omega)
    generalize cs.getD k 0 = x at hcell hn
    generalize arity k = a at ha ha0 ha1
    have HK := Lib.hid hk
    clear h hk
    have hi0 : (0 : Int) ≤ k := by omega
    have hi1 : (k : Int) < 32 := by omega
    go_enter Tryd.func9, Tryd.ntmps9
    go_wp2_with (go_at_call 22; refine (ha _).mono ?_; rintro e w' ⟨rfl, rfl⟩)
    all_goals go_ret
    all_goals exact ⟨ret_int (by have := hn.out; omega), HK.out⟩
set_option maxHeartbeats 1000000 in
theorem node10 (cs : List Int) (op : Int) (w : World) (hc : cs.length = 32) : Calls Tryd.prog 10 #[.agg (ca cs), .int .i64 op] w fun e w' => e = .returned (.int .i64 (nodeC cs op)) ∧ BK w w' := by
  have hk := bk_alloc (BK.refl w) (.cells (ca cs) 23)
  by_cases h : op < 1 ∨ 26 < op
  · have hn := Lib.hid (nodeC_out cs op h)
    have HK := Lib.hid hk
    clear hk
    by_cases h0 : op < 1
    all_goals
      go_enter Tryd.func10, Tryd.ntmps10
      go_wp2_with fail
      go_ret
      exact ⟨ret_int hn.out.symm, HK.out⟩
  · obtain ⟨k, rfl⟩ : ∃ k : Nat, op = k := ⟨op.toNat, by omega⟩
    have h1 : 1 ≤ k := by omega
    have h2 : k ≤ 26 := by omega
    have hn := Lib.hid (nodeC_in cs k h1 h2)
    have hcell : (w.alloc (.cells (ca cs) 23)).cell? ⟨w.heap.size, k, none⟩ = some (.int .i64 (cs.getD k 0)) := by rw [World.cell?_alloc_new]; exact ca_get cs k (by omega)
    generalize cs.getD k 0 = x at hcell hn
    have HK := Lib.hid hk
    have hi0 : (0 : Int) ≤ k := by omega
    have hi1 : (k : Int) < 32 := by omega
    have hi2 : decide ((k : Int) < 1) = false := by simp; omega
    have hi3 : decide ((26 : Int) < k) = false := by simp; omega
    clear h hk
    go_enter Tryd.func10, Tryd.ntmps10
    go_wp2_with fail
    all_goals go_ret
    all_goals exact ⟨ret_int (by have := hn.out; omega), HK.out⟩
set_option maxHeartbeats 400000 in
theorem clamp23 (a : Int) (w : World) : Calls Tryd.prog 23 #[.int .i64 a] w fun e w' => e = .returned (.int .i64 (cl a)) ∧ w = w' := by
  go_enter Tryd.func23, Tryd.ntmps23
  go_wp2_with fail
  all_goals go_ret
  all_goals exact ⟨ret_int (by unfold cl inf; omega), rfl⟩
set_option maxHeartbeats 400000 in
theorem add11 (a b : Int) (w : World) : Calls Tryd.prog 11 #[.int .i64 a, .int .i64 b] w fun e w' => e = .returned (.int .i64 (addC a b)) ∧ w = w' := by
  have h1 := cl_bd a
  have h2 := cl_bd b
  have hr : addC a b = cl a + min (cl b) (inf - cl a) := by unfold addC; omega
  have HA := Lib.hid (clamp23 a w)
  have HB := Lib.hid (clamp23 b w)
  generalize addC a b = r at hr ⊢
  generalize cl a = x at h1 hr HA
  generalize cl b = y at h2 hr HB
  have HR := Lib.hid hr
  clear hr
  unfold inf at h1 h2
  go_enter Tryd.func11, Tryd.ntmps11
  go_wp2_with (first | (go_at_call 23; with_reducible refine HA.out.mono ?_; rintro e w' ⟨rfl, rfl⟩) | (go_at_call 23; with_reducible refine HB.out.mono ?_; rintro e w' ⟨rfl, rfl⟩))
  all_goals go_ret
  all_goals exact ⟨ret_int (by rw [HR.out]; unfold inf; omega), rfl⟩
set_option maxHeartbeats 400000 in
theorem add12 (a b : Int) (w : World) : Calls Tryd.prog 12 #[.int .i64 a, .int .i64 b] w fun e w' => e = .returned (.int .i64 (addC a b)) ∧ w = w' := by
  go_enter Tryd.func12, Tryd.ntmps12
  go_wp2_with fail
  all_goals go_ret
  all_goals exact ⟨ret_int (by unfold addC cl inf; omega), rfl⟩
end Go.Proofs.YtmejiiebeknbjaaDoor
