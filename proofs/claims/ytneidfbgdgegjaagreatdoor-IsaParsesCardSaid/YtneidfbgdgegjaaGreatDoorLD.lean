/- Registers that an instruction uses; membership. -/
import Derived.Test.YtneidfbgdgegjaaGreatDoorLB
namespace Go.Proofs.YtneidfbgdgegjaaGreatDoor
open Go.RowKit
set_option linter.unusedVariables false
set_option linter.unusedSimpArgs false
theorem srcs_cases (op : Int) : srcs op = -1 ∨ srcs op = 0 ∨ srcs op = 1 ∨ srcs op = 2 ∨ srcs op = 3 := by
  unfold srcs; (repeat' split) <;> omega
def UP (w : World) (i : I6) (e : Ending) (w' : World) : Prop := ∃ p c, e = .returned (.slice p (usesL i).length c) ∧ RO w' p c (usesL i) ∧ BK w w'
theorem ro_three (w : World) (x y z : Int) (n : Nat) (h : n ≤ 3) : RO (w.alloc (.cells #[.int .i64 x, .int .i64 y, .int .i64 z] 3)) (some ⟨w.heap.size, 0, none⟩) 3 ([x, y, z].take n) := by
  refine ⟨fun h => (by cases h), by simp; omega, fun k hk => ⟨_, _, rfl, ?_⟩⟩
  rw [Nat.zero_add, World.cell?_alloc_new]
  simp only [List.length_take, List.length_cons, List.length_nil] at hk
  match k, (show k < 3 by omega) with
  | 0, _ => simp
  | 1, _ => simp
  | 2, _ => simp
theorem usesL_n (i : I6) (n : Nat) (h : srcs i.op = n) : usesL i = [i.a, i.b, i.c].take n := by unfold usesL; rw [h]; rfl
theorem usesL_neg (i : I6) (h : srcs i.op = -1) : usesL i = [] := by unfold usesL; rw [h]; rfl
theorem up_three (w : World) (i : I6) (n : Nat) (h : srcs i.op = n) (hn : n ≤ 3) (w0 : World) (hb : BK w w0) : UP w i (.returned (.slice (some ⟨w0.heap.size, 0, none⟩) n 3)) (w0.alloc (.cells #[.int .i64 i.a, .int .i64 i.b, .int .i64 i.c] 3)) := by
  have e := usesL_n i n h
  refine ⟨_, _, ?_, by rw [e]; exact ro_three w0 _ _ _ n hn, bk_alloc hb _⟩
  rw [e, List.length_take]
  simp; omega
set_option maxHeartbeats 1000000 in
theorem uses58 (i : I6) (w : World) : Calls Tryz.prog 30 #[.agg #[.int .i64 i.op, .int .i64 i.dst, .int .i64 i.a, .int .i64 i.b, .int .i64 i.c, .int .u64 i.imm]] w (UP w i) := by
  have HK := Lib.hid (bk_alloc (BK.refl w) (.cells #[.int .i64 i.op, .int .i64 i.dst, .int .i64 i.a, .int .i64 i.b, .int .i64 i.c, .int .u64 i.imm] 42))
  have hs := sz1 w (.cells #[.int .i64 i.op, .int .i64 i.dst, .int .i64 i.a, .int .i64 i.b, .int .i64 i.c, .int .u64 i.imm] 42)
  have H := Lib.hid (src86 i.op)
  rcases srcs_cases i.op with h | h | h | h | h
  · rw [h] at H
    have U := Lib.hid (ro_three (w.alloc (.cells #[.int .i64 i.op, .int .i64 i.dst, .int .i64 i.a, .int .i64 i.b, .int .i64 i.c, .int .u64 i.imm] 42)) i.a i.b i.c 0 (by omega))
    rw [hs] at U
    have E := Lib.hid (usesL_neg i h)
    clear h hs
    go_enter Tryz.func30, Tryz.ntmps30
    go_wp2_with (go_at_call 16; refine (H.out _).mono ?_; rintro e w' ⟨rfl, rfl⟩)
    go_ret
    exact ⟨_, _, by rw [E.out]; rfl, by rw [E.out]; exact U.out, bk_alloc HK.out _⟩
  · rw [h] at H
    have U := Lib.hid (up_three w i 0 h (by omega) _ HK.out)
    rw [hs] at U
    clear h hs
    go_enter Tryz.func30, Tryz.ntmps30
    go_wp2_with (go_at_call 16; refine (H.out _).mono ?_; rintro e w' ⟨rfl, rfl⟩)
    go_ret
    exact U.out
  · rw [h] at H
    have U := Lib.hid (up_three w i 1 h (by omega) _ HK.out)
    rw [hs] at U
    clear h hs
    go_enter Tryz.func30, Tryz.ntmps30
    go_wp2_with (go_at_call 16; refine (H.out _).mono ?_; rintro e w' ⟨rfl, rfl⟩)
    go_ret
    exact U.out
  · rw [h] at H
    have U := Lib.hid (up_three w i 2 h (by omega) _ HK.out)
    rw [hs] at U
    clear h hs
    go_enter Tryz.func30, Tryz.ntmps30
    go_wp2_with (go_at_call 16; refine (H.out _).mono ?_; rintro e w' ⟨rfl, rfl⟩)
    go_ret
    exact U.out
  · rw [h] at H
    have U := Lib.hid (up_three w i 3 h (by omega) _ HK.out)
    rw [hs] at U
    clear h hs
    go_enter Tryz.func30, Tryz.ntmps30
    go_wp2_with (go_at_call 16; refine (H.out _).mono ?_; rintro e w' ⟨rfl, rfl⟩)
    go_ret
    exact U.out
theorem usesL_len (i : I6) : (usesL i).length ≤ 3 := by unfold usesL; simp; omega
theorem hasB_drop (l : List Int) (x : Int) (k : Nat) (h : k < l.length) : hasB (l.drop k) x = (decide (l[k] = x) || hasB (l.drop (k + 1)) x) := by
  rw [List.drop_eq_getElem_cons h]; rfl
end Go.Proofs.YtneidfbgdgegjaaGreatDoor
