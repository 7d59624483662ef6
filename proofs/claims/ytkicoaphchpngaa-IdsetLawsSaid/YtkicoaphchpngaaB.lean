/- The methods of the numbers of a work list, as package heap reaches them. -/
import Derived.Test.YtkicoaphchpngaaRows
import Derived.Test.YtkicoaphchpngaaH
import Derived.WalkKit
import Derived.WalkSpells
import Derived.WalkLawsBesides
import Derived.Lib.Hide
import Derived.BigQuiet
import Derived.Deep.QuietTactic
import Derived.RegionTactic
namespace Go.Proofs.Ytkicoaphchpngaa
open Go.RowKit
set_option linter.unusedVariables false
theorem meth_push (a : Addr) (w : World) : (method 207 55 (.pointer (some a)) "Push").run Try.prog w = .ok (104, .pointer (some a)) w := by kernel_rfl
theorem meth_pop (a : Addr) (w : World) : (method 207 55 (.pointer (some a)) "Pop").run Try.prog w = .ok (103, .pointer (some a)) w := by kernel_rfl
theorem meth_len0 (a : Addr) (w : World) : (method 207 55 (.pointer (some a)) "Len").run Try.prog w = (do pure (100, ← loadVar 51 a) : Sem (FuncId × Value)).run Try.prog w := by kernel_rfl
theorem meth_less0 (a : Addr) (w : World) : (method 207 55 (.pointer (some a)) "Less").run Try.prog w = (do pure (101, ← loadVar 51 a) : Sem (FuncId × Value)).run Try.prog w := by kernel_rfl
theorem meth_swap0 (a : Addr) (w : World) : (method 207 55 (.pointer (some a)) "Swap").run Try.prog w = (do pure (102, ← loadVar 51 a) : Sem (FuncId × Value)).run Try.prog w := by kernel_rfl
theorem load51 (a : Addr) (w : World) (p : Option Addr) (n c : Nat) (hc : w.cell? a = some (.slice p n c)) : (loadVar 51 a).run Try.prog w = .ok (.slice p n c) w := by
  simp [go_sem, loadVar, hc]
theorem meth_len (a : Addr) (w : World) (p : Option Addr) (n c : Nat) (hc : w.cell? a = some (.slice p n c)) : (method 207 55 (.pointer (some a)) "Len").run Try.prog w = .ok (100, .slice p n c) w := by
  rw [meth_len0]; simp [load51 a w p n c hc]
theorem meth_less (a : Addr) (w : World) (p : Option Addr) (n c : Nat) (hc : w.cell? a = some (.slice p n c)) : (method 207 55 (.pointer (some a)) "Less").run Try.prog w = .ok (101, .slice p n c) w := by
  rw [meth_less0]; simp [load51 a w p n c hc]
theorem meth_swap (a : Addr) (w : World) (p : Option Addr) (n c : Nat) (hc : w.cell? a = some (.slice p n c)) : (method 207 55 (.pointer (some a)) "Swap").run Try.prog w = .ok (102, .slice p n c) w := by
  rw [meth_swap0]; simp [load51 a w p n c hc]
theorem ret_bool {a b : Bool} (h : a = b) : Ending.returned (.bool a) = .returned (.bool b) := by rw [h]
theorem ret_int {k : IntKind} {a b : Int} (h : a = b) : Ending.returned (.int k a) = .returned (.int k b) := by rw [h]
set_option maxHeartbeats 400000 in
theorem len_any (p : Option Addr) (n c : Nat) (w : World) : Calls Try.prog 100 #[.slice p n c] w fun e w' => e = .returned (.int .i64 n) ∧ w = w' := by
  go_enter Try.func100, Try.ntmps100
  go_wp2
  go_ret
  exact ⟨rfl, rfl⟩
def ltAt (zs : List Int) (i j : Nat) : Bool := decide (zs.getD i 0 < zs.getD j 0)
set_option maxHeartbeats 400000 in
theorem less_any (g c : Nat) (zs : List Int) (i j : Nat) (w : World) (hl : zs.length ≤ 9223372036854775807) (hc : ∀ k, k < zs.length → w.cell? ⟨g, k, none⟩ = some (.int .i64 (zs.getD k 0))) (hi : i < zs.length) (hj : j < zs.length) :
    Calls Try.prog 101 #[.slice (some ⟨g, 0, none⟩) zs.length c, .int .i64 i, .int .i64 j] w fun e w' => e = .returned (.bool (ltAt zs i j)) ∧ ∃ q, w' = w.drewN q := by
  have ci := hc i hi
  have cj := hc j hj
  unfold ltAt
  generalize zs.getD i 0 = x at ci ⊢
  generalize zs.getD j 0 = y at cj ⊢
  clear hc
  go_enter Try.func101, Try.ntmps101
  go_wp2
  go_quiet (fail)
  go_wp2
  go_ret
  exact ⟨rfl, nq, rfl⟩
set_option maxHeartbeats 2000000 in
theorem swap_any (g c : Nat) (zs : List Int) (i j : Nat) (w : World) (hl : zs.length ≤ 9223372036854775807) (hc : ∀ k, k < zs.length → w.cell? ⟨g, k, none⟩ = some (.int .i64 (zs.getD k 0))) (hf : ∀ k, w.frozen? ⟨g, k, none⟩ = false) (hi : i < zs.length) (hj : j < zs.length) :
    Calls Try.prog 102 #[.slice (some ⟨g, 0, none⟩) zs.length c, .int .i64 i, .int .i64 j] w fun e w' => e = .returned (.tuple #[]) ∧ ∃ q, w' = ((w.setCell ⟨g, i, none⟩ (.int .i64 (zs.getD j 0))).setCell ⟨g, j, none⟩ (.int .i64 (zs.getD i 0))).drewN q := by
  have ci := hc i hi
  have cj := hc j hj
  have fi := hf i
  have fj := hf j
  generalize zs.getD i 0 = x at ci ⊢
  generalize zs.getD j 0 = y at cj ⊢
  clear hc hf
  obtain ⟨v', hy'⟩ := cell?_setCell_some (w := w) (p := ⟨g, i, none⟩) (x := .int .i64 y) (q := ⟨g, j, none⟩) cj
  go_enter Try.func102, Try.ntmps102
  go_wp2
  go_region
  all_goals (try go_wp2)
  all_goals go_end0
  all_goals exact ⟨rfl, 1, rfl⟩
end Go.Proofs.Ytkicoaphchpngaa
