/- Leaves. -/
import Derived.Test.YtneidfbgdgegjaaGreatDoorLA
namespace Go.Proofs.YtneidfbgdgegjaaGreatDoor
open Go.RowKit
set_option linter.unusedVariables false
set_option linter.unusedSimpArgs false
set_option maxHeartbeats 400000 in
theorem op87 (op : Int) (w : World) : Calls Tryz.prog 39 #[.int .i64 op] w fun e w' => e = .returned (.bool (opB op)) ∧ w = w' := by
  go_enter Tryz.func39, Tryz.ntmps39
  go_wp2
  all_goals go_ret
  all_goals exact ⟨ret_bool (by unfold opB; rw [Bool.eq_iff_iff]; simp; try omega), rfl⟩
set_option maxHeartbeats 400000 in
theorem df59 (op : Int) (w : World) : Calls Tryz.prog 40 #[.int .i64 op] w fun e w' => e = .returned (.bool (dfB op)) ∧ w = w' := by
  by_cases h : opB op = true
  · have h1 : 0 ≤ op ∧ op ≤ 19 := by unfold opB at h; simpa using h
    have H := Lib.hid (op87 op)
    rw [h] at H
    clear h
    by_cases h0 : op = 0
    · subst h0
      go_enter Tryz.func40, Tryz.ntmps40
      go_wp2_with (go_at_call 39; refine (H.out _).mono ?_; rintro e w' ⟨rfl, rfl⟩)
      go_ret
      exact ⟨rfl, rfl⟩
    · have hn : (op == 0) = false := by simpa using h0
      have hd : dfB op = true := by unfold dfB; apply decide_eq_true; omega
      have hn' : (op != 0) = true := by simp [bne, hn]
      have HD := Lib.hid hd
      clear hd h0
      go_enter Tryz.func40, Tryz.ntmps40
      go_wp2_with (go_at_call 39; refine (H.out _).mono ?_; rintro e w' ⟨rfl, rfl⟩)
      go_ret
      exact ⟨ret_bool HD.out.symm, rfl⟩
  · have h : opB op = false := by simpa using h
    have hd : dfB op = false := by unfold dfB; apply decide_eq_false; unfold opB at h; have := of_decide_eq_false h; omega
    have H := Lib.hid (op87 op)
    rw [h] at H
    have HD := Lib.hid hd
    clear h hd
    go_enter Tryz.func40, Tryz.ntmps40
    go_wp2_with (go_at_call 39; refine (H.out _).mono ?_; rintro e w' ⟨rfl, rfl⟩)
    go_ret
    exact ⟨ret_bool HD.out.symm, rfl⟩
set_option maxHeartbeats 1000000 in
theorem src86 (op : Int) (w : World) : Calls Tryz.prog 16 #[.int .i64 op] w fun e w' => e = .returned (.int .i64 (srcs op)) ∧ w = w' := by
  have H := Lib.hid (op87 op)
  by_cases h : opB op = true
  · have h1 : 0 ≤ op ∧ op ≤ 19 := by unfold opB at h; simpa using h
    rw [h] at H
    clear h
    go_enter Tryz.func16, Tryz.ntmps16
    go_wp2_with (go_at_call 39; refine (H.out _).mono ?_; rintro e w' ⟨rfl, rfl⟩)
    all_goals go_ret
    all_goals refine ⟨?_, rfl⟩
    all_goals (try simp only [beq_iff_eq, beq_eq_false_iff_ne] at *)
    all_goals exact ret_int (by unfold srcs; (repeat' split) <;> omega)
  · have h : opB op = false := by simpa using h
    have h1 : op < 0 ∨ 19 < op := by unfold opB at h; have := of_decide_eq_false h; omega
    rw [h] at H
    clear h
    go_enter Tryz.func16, Tryz.ntmps16
    go_wp2_with (go_at_call 39; refine (H.out _).mono ?_; rintro e w' ⟨rfl, rfl⟩)
    all_goals go_ret
    all_goals refine ⟨?_, rfl⟩
    all_goals (try simp only [beq_iff_eq, beq_eq_false_iff_ne] at *)
    all_goals exact ret_int (by unfold srcs; (repeat' split) <;> omega)
set_option maxHeartbeats 1000000 in
theorem reg94 (W R r : Int) (p q : Option Addr) (n pc m qc : Nat) (w : World) : Calls Tryz.prog 62 #[.agg #[.int .i64 W, .int .i64 R, .slice p n pc, .slice q m qc], .int .i64 r] w fun e w' => e = .returned (.bool (inB R r)) ∧ BK w w' := by
  have HK := Lib.hid (bk_alloc (BK.refl w) (.cells #[.int .i64 W, .int .i64 R, .slice p n pc, .slice q m qc] 34))
  go_enter Tryz.func62, Tryz.ntmps62
  go_wp2
  all_goals go_ret
  all_goals exact ⟨ret_bool (by unfold inB; rw [Bool.eq_iff_iff]; simp; try omega), HK.out⟩
def defV (i : I6) : Int := if dfB i.op = true then i.dst else 0
set_option maxHeartbeats 1000000 in
theorem def45 (i : I6) (w : World) : Calls Tryz.prog 27 #[.agg #[.int .i64 i.op, .int .i64 i.dst, .int .i64 i.a, .int .i64 i.b, .int .i64 i.c, .int .u64 i.imm]] w fun e w' => e = .returned (.tuple #[.int .i64 (defV i), .bool (dfB i.op)]) ∧ BK w w' := by
  have HK := Lib.hid (bk_alloc (BK.refl w) (.cells #[.int .i64 i.op, .int .i64 i.dst, .int .i64 i.a, .int .i64 i.b, .int .i64 i.c, .int .u64 i.imm] 42))
  have H := Lib.hid (df59 i.op)
  by_cases h : dfB i.op = true
  · have HV := Lib.hid (show defV i = i.dst from by unfold defV; rw [if_pos h])
    have HD := Lib.hid h
    rw [h] at H
    clear h
    go_enter Tryz.func27, Tryz.ntmps27
    go_wp2_with (go_at_call 40; refine (H.out _).mono ?_; rintro e w' ⟨rfl, rfl⟩)
    go_ret2
    exact ⟨by rw [HV.out, HD.out]; rfl, HK.out⟩
  · have h : dfB i.op = false := by simpa using h
    have HV := Lib.hid (show defV i = 0 from by unfold defV; rw [h]; rfl)
    have HD := Lib.hid h
    rw [h] at H
    clear h
    go_enter Tryz.func27, Tryz.ntmps27
    go_wp2_with (go_at_call 40; refine (H.out _).mono ?_; rintro e w' ⟨rfl, rfl⟩)
    go_ret2
    exact ⟨by rw [HV.out, HD.out]; rfl, HK.out⟩
end Go.Proofs.YtneidfbgdgegjaaGreatDoor
