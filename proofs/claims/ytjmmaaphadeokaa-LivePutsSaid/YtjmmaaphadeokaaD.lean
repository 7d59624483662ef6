/- Registers that an instruction uses; membership. -/
import Derived.Test.YtjmmaaphadeokaaB
namespace Go.Proofs.Ytjmmaaphadeokaa
open Go.RowKit
set_option linter.unusedVariables false
set_option linter.unusedSimpArgs false
theorem srcs_cases (op : Int) : srcs op = -1 ∨ srcs op = 0 ∨ srcs op = 1 ∨ srcs op = 2 ∨ srcs op = 3 := by
  unfold srcs; (repeat' split) <;> omega
def UP (w : World) (i : I6) (e : Ending) (w' : World) : Prop := ∃ p c, e = .returned (.slice p (usesL i).length c) ∧ RO w' p c (usesL i) ∧ BK w w'
theorem ro_three (w : World) (x y z : Int) (n : Nat) (h : n ≤ 3) : RO (w.alloc (.cells #[.int .i64 x, .int .i64 y, .int .i64 z] 3)) (some ⟨w.heap.size, 0, none⟩) 3 ([x, y, z].take n) := by
  refine ⟨fun h => (by cases h), by simp; omega, fun k hk => ⟨_, _, rfl, ?_⟩⟩
  rw [Nat.zero_add, World.cell?_alloc_new]
  simp only [List.length_take, List.length_cons, List.length_nil] at hk
  match k, (show k < 3 by omega) with
  | 0, _ => simp
  | 1, _ => simp
  | 2, _ => simp
theorem usesL_n (i : I6) (n : Nat) (h : srcs i.op = n) : usesL i = [i.a, i.b, i.c].take n := by unfold usesL; rw [h]; rfl
theorem usesL_neg (i : I6) (h : srcs i.op = -1) : usesL i = [] := by unfold usesL; rw [h]; rfl
theorem up_three (w : World) (i : I6) (n : Nat) (h : srcs i.op = n) (hn : n ≤ 3) (w0 : World) (hb : BK w w0) : UP w i (.returned (.slice (some ⟨w0.heap.size, 0, none⟩) n 3)) (w0.alloc (.cells #[.int .i64 i.a, .int .i64 i.b, .int .i64 i.c] 3)) := by
  have e := usesL_n i n h
  refine ⟨_, _, ?_, by rw [e]; exact ro_three w0 _ _ _ n hn, bk_alloc hb _⟩
  rw [e, List.length_take]
  simp; omega
set_option maxHeartbeats 1000000 in
theorem uses58 (i : I6) (w : World) : Calls Try.prog 58 #[.agg #[.int .i64 i.op, .int .i64 i.dst, .int .i64 i.a, .int .i64 i.b, .int .i64 i.c, .int .u64 i.imm]] w (UP w i) := by
  have HK := Lib.hid (bk_alloc (BK.refl w) (.cells #[.int .i64 i.op, .int .i64 i.dst, .int .i64 i.a, .int .i64 i.b, .int .i64 i.c, .int .u64 i.imm] 54))
  have hs := sz1 w (.cells #[.int .i64 i.op, .int .i64 i.dst, .int .i64 i.a, .int .i64 i.b, .int .i64 i.c, .int .u64 i.imm] 54)
  have H := Lib.hid (src86 i.op)
  rcases srcs_cases i.op with h | h | h | h | h
  · rw [h] at H
    have U := Lib.hid (ro_three (w.alloc (.cells #[.int .i64 i.op, .int .i64 i.dst, .int .i64 i.a, .int .i64 i.b, .int .i64 i.c, .int .u64 i.imm] 54)) i.a i.b i.c 0 (by omega))
    rw [hs] at U
    have E := Lib.hid (usesL_neg i h)
    clear h hs
    go_enter Try.func58, Try.ntmps58
    go_wp2_with (go_at_call 86; refine (H.out _).mono ?_; rintro e w' ⟨rfl, rfl⟩)
    go_ret
    exact ⟨_, _, by rw [E.out]; rfl, by rw [E.out]; exact U.out, bk_alloc HK.out _⟩
  · rw [h] at H
    have U := Lib.hid (up_three w i 0 h (by omega) _ HK.out)
    rw [hs] at U
    clear h hs
    go_enter Try.func58, Try.ntmps58
    go_wp2_with (go_at_call 86; refine (H.out _).mono ?_; rintro e w' ⟨rfl, rfl⟩)
    go_ret
    exact U.out
  · rw [h] at H
    have U := Lib.hid (up_three w i 1 h (by omega) _ HK.out)
    rw [hs] at U
    clear h hs
    go_enter Try.func58, Try.ntmps58
    go_wp2_with (go_at_call 86; refine (H.out _).mono ?_; rintro e w' ⟨rfl, rfl⟩)
    go_ret
    exact U.out
  · rw [h] at H
    have U := Lib.hid (up_three w i 2 h (by omega) _ HK.out)
    rw [hs] at U
    clear h hs
    go_enter Try.func58, Try.ntmps58
    go_wp2_with (go_at_call 86; refine (H.out _).mono ?_; rintro e w' ⟨rfl, rfl⟩)
    go_ret
    exact U.out
  · rw [h] at H
    have U := Lib.hid (up_three w i 3 h (by omega) _ HK.out)
    rw [hs] at U
    clear h hs
    go_enter Try.func58, Try.ntmps58
    go_wp2_with (go_at_call 86; refine (H.out _).mono ?_; rintro e w' ⟨rfl, rfl⟩)
    go_ret
    exact U.out
set_option maxHeartbeats 1000000 in
theorem uses83 (i : I6) (w : World) : Calls Try.prog 83 #[.agg #[.int .i64 i.op, .int .i64 i.dst, .int .i64 i.a, .int .i64 i.b, .int .i64 i.c, .int .u64 i.imm]] w (UP w i) := by
  have HK := Lib.hid (bk_alloc (BK.refl w) (.cells #[.int .i64 i.op, .int .i64 i.dst, .int .i64 i.a, .int .i64 i.b, .int .i64 i.c, .int .u64 i.imm] 54))
  have hs := sz1 w (.cells #[.int .i64 i.op, .int .i64 i.dst, .int .i64 i.a, .int .i64 i.b, .int .i64 i.c, .int .u64 i.imm] 54)
  have H := Lib.hid (src61 i.op)
  rcases srcs_cases i.op with h | h | h | h | h
  · rw [h] at H
    have E := Lib.hid (usesL_neg i h)
    clear h hs
    go_enter Try.func83, Try.ntmps83
    go_wp2_with (go_at_call 61; refine (H.out _).mono ?_; rintro e w' ⟨rfl, rfl⟩)
    go_ret
    exact ⟨none, 0, by rw [E.out]; rfl, by rw [E.out]; exact ⟨fun _ => rfl, by simp, fun k hk => by simp at hk⟩, bk_alloc HK.out _⟩
  · rw [h] at H
    have U := Lib.hid (up_three w i 0 h (by omega) _ HK.out)
    rw [hs] at U
    clear h hs
    go_enter Try.func83, Try.ntmps83
    go_wp2_with (go_at_call 61; refine (H.out _).mono ?_; rintro e w' ⟨rfl, rfl⟩)
    go_ret
    exact U.out
  · rw [h] at H
    have U := Lib.hid (up_three w i 1 h (by omega) _ HK.out)
    rw [hs] at U
    clear h hs
    go_enter Try.func83, Try.ntmps83
    go_wp2_with (go_at_call 61; refine (H.out _).mono ?_; rintro e w' ⟨rfl, rfl⟩)
    go_ret
    exact U.out
  · rw [h] at H
    have U := Lib.hid (up_three w i 2 h (by omega) _ HK.out)
    rw [hs] at U
    clear h hs
    go_enter Try.func83, Try.ntmps83
    go_wp2_with (go_at_call 61; refine (H.out _).mono ?_; rintro e w' ⟨rfl, rfl⟩)
    go_ret
    exact U.out
  · rw [h] at H
    have U := Lib.hid (up_three w i 3 h (by omega) _ HK.out)
    rw [hs] at U
    clear h hs
    go_enter Try.func83, Try.ntmps83
    go_wp2_with (go_at_call 61; refine (H.out _).mono ?_; rintro e w' ⟨rfl, rfl⟩)
    go_ret
    exact U.out

theorem usesL_len (i : I6) : (usesL i).length ≤ 3 := by unfold usesL; simp; omega
theorem hasB_drop (l : List Int) (x : Int) (k : Nat) (h : k < l.length) : hasB (l.drop k) x = (decide (l[k] = x) || hasB (l.drop (k + 1)) x) := by
  rw [List.drop_eq_getElem_cons h]; rfl
set_option maxHeartbeats 1000000 in
theorem has35 (l : List Int) (x : Int) (p : Option Addr) (c : Nat) (w : World) (h : RO w p c l) (hl : l.length ≤ 100000) :
    Calls Try.prog 35 #[.slice p l.length c, .int .i64 x] w fun e w' => e = .returned (.bool (hasB l x)) ∧ w = w' := by
  have hz : hasB (l.drop l.length) x = false := by rw [List.drop_length]; rfl
  have HZ := Lib.hid hz
  have HR := Lib.hid h
  clear hz h
  go_enter Try.func35, Try.ntmps35
  go_wp2_with fail
  go_loop [5] (fun i => ∃ k : Nat, k ≤ l.length ∧ i = .int .i64 k ∧ hasB l x = hasB (l.drop k) x) (fun i => l.length - (intOf i).toNat)
  case atStart => exact ⟨0, Nat.zero_le _, rfl, rfl⟩
  case round =>
    obtain ⟨k, hk, rfl, hs⟩ := hrel
    by_cases hlt : k < l.length
    · have HS := Lib.hid (hs.trans (hasB_drop l x k hlt))
      obtain ⟨b, o, rfl, hc⟩ := HR.out.get k hlt
      clear hs
      generalize l[k] = y at hc HS
      by_cases hyx : y = x
      · subst hyx
        have H1 := Lib.hid (HS.out.trans (by simp : _ = true))
        clear HS
        go_wp2_with fail
        go_ret
        exact ⟨ret_bool H1.out.symm, rfl⟩
      · have hd : (y == x) = false := by simpa using hyx
        have H1 := Lib.hid (HS.out.trans (by simp [hyx] : _ = hasB (l.drop (k + 1)) x))
        clear HS hyx
        go_wp2_with fail
        go_round
        case rel => exact ⟨k + 1, by omega, by go_num, H1.out⟩
        case measure => simp [intOf]; omega
    · obtain rfl : k = l.length := by omega
      have H1 := Lib.hid (hs.trans HZ.out)
      clear hs
      go_wp2_with fail
      go_ret
      exact ⟨ret_bool H1.out.symm, rfl⟩
end Go.Proofs.Ytjmmaaphadeokaa
