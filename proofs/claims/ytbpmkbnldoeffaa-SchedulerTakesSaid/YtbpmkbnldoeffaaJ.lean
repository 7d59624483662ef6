/- Take beside its reference. -/
import Derived.Test.YtbpmkbnldoeffaaI
namespace Go.Proofs.Ytbpmkbnldoeffaa
open Go.RowKit
set_option linter.unusedVariables false
set_option linter.unusedSimpArgs false
set_option maxRecDepth 100000 in
set_option maxHeartbeats 4000000 in
theorem law4 (l b t u i f : Int) (w : World) : Calls Try.prog 4 #[.agg #[.int .i64 l, .int .i64 b, .int .i64 t, .int .i64 u], .int .i64 i, .int .i64 f] w fun e w' => e = .returned (.bool true) ∧ Below w.heap.size w w' := by
  go_enter Try.func4, Try.ntmps4
  go_wp2_with fail
  refine (take_any _ _ _ _ _ _ _).mono ?_
  rintro e w1 ⟨rfl, hb1⟩
  have H1 := Lib.hid (bk_chain (bk_alloc (BK.refl w) _) hb1)
  obtain ⟨a0, a1, a2, a3⟩ := (box_new w (.int .i64 l) (.int .i64 b) (.int .i64 t) (.int .i64 u) 26).keep hb1 (by simp)
  have hz1 : w.heap.size < w1.heap.size := by have := hb1.size; simp at this; omega
  clear hb1
  go_wp2_with fail
  refine (rtake_any _ _ _ _ _ _ _).mono ?_
  rintro e w2 ⟨rfl, hb2⟩
  have H2 := Lib.hid (bk_chain (bk_alloc H1.out _) hb2)
  obtain ⟨b0, b1, b2, b3⟩ := (box_new w1 (.int .i64 (nL l)) (.int .i64 (nL b)) (.int .i64 (rT l t f)) (.int .i64 (rU l b t u i f)) 26).keep hb2 (by simp)
  have hz : w1.heap.size < w2.heap.size := by have := hb2.size; simp at this; omega
  clear hb2 a0 a1 a2 a3
  go_wp2_with fail
  refine (lives_any _).mono ?_
  rintro e w3 ⟨rfl, hb3⟩
  have H3 := Lib.hid (bk_chain (bk_alloc H2.out _) hb3)
  clear hb3
  go_wp2_with fail
  go_ret
  exact ⟨rfl, H3.out⟩
end Go.Proofs.Ytbpmkbnldoeffaa
