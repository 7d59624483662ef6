/- An instruction without its unused fields. -/
import Derived.Test.YtneidfbgdgegjaaGreatDoorLE
namespace Go.Proofs.YtneidfbgdgegjaaGreatDoor
open Go.RowKit
set_option linter.unusedVariables false
set_option linter.unusedSimpArgs false
/-- an instruction without its unused fields -/
def clr (i : I6) : I6 := ⟨i.op, if dfB i.op = true then i.dst else 0, if 1 ≤ srcs i.op then i.a else 0, if 2 ≤ srcs i.op then i.b else 0, if 3 ≤ srcs i.op then i.c else 0, if i.op = 1 then i.imm else 0⟩
def av (i : I6) : Value := .agg #[.int .i64 i.op, .int .i64 i.dst, .int .i64 i.a, .int .i64 i.b, .int .i64 i.c, .int .u64 i.imm]
set_option maxHeartbeats 1000000 in
theorem clr97_nop (i : I6) (w : World) (h3 : srcs i.op = 0) (hd : dfB i.op = false) (h1 : i.op ≠ 1) : Calls Tryz.prog 65 #[.agg #[.int .i64 i.op, .int .i64 i.dst, .int .i64 i.a, .int .i64 i.b, .int .i64 i.c, .int .u64 i.imm]] w fun e w' => e = .returned (av (clr i)) ∧ BK w w' := by
  have H := Lib.hid (src86 i.op)
  have D := Lib.hid (df59 i.op)
  have E := Lib.hid (show .agg #[.int .i64 i.op, .int .i64 0, .int .i64 0, .int .i64 0, .int .i64 0, .int .u64 0] = av (clr i) from by simp [clr, av, h3, hd, h1])
  have h1' : (i.op == 1) = false := by simpa using h1
  rw [h3] at H
  rw [hd] at D
  clear h3 hd h1
  go_enter Tryz.func65, Tryz.ntmps65
  go_wp2_with (first | (go_at_call 16; refine (H.out _).mono ?_; rintro e w' ⟨rfl, rfl⟩) | (go_at_call 40; refine (D.out _).mono ?_; rintro e w' ⟨rfl, rfl⟩))
  refine bodyPost_ret (v := .agg #[.int .i64 i.op, .int .i64 0, .int .i64 0, .int .i64 0, .int .i64 0, .int .u64 0]) (by simp [results, Tryz.results65, go_sem]) rfl ⟨by rw [E.out], ?_⟩
  repeat (first | exact BK.refl _ | refine bk_set ?_ _ _ (by simp) | refine bk_set ?_ _ _ (by simp; omega) | refine bk_alloc ?_ _)
set_option maxHeartbeats 1000000 in
theorem clr97_movi (i : I6) (w : World) (h3 : srcs i.op = 0) (hd : dfB i.op = true) (h1 : i.op = 1) : Calls Tryz.prog 65 #[.agg #[.int .i64 i.op, .int .i64 i.dst, .int .i64 i.a, .int .i64 i.b, .int .i64 i.c, .int .u64 i.imm]] w fun e w' => e = .returned (av (clr i)) ∧ BK w w' := by
  have H := Lib.hid (src86 i.op)
  have D := Lib.hid (df59 i.op)
  have E := Lib.hid (show .agg #[.int .i64 i.op, .int .i64 i.dst, .int .i64 0, .int .i64 0, .int .i64 0, .int .u64 i.imm] = av (clr i) from by unfold av clr; rw [hd, h3, if_pos h1]; rfl)
  have h1' : (i.op == 1) = true := by simpa using h1
  rw [h3] at H
  rw [hd] at D
  clear h3 hd h1
  go_enter Tryz.func65, Tryz.ntmps65
  go_wp2_with (first | (go_at_call 16; refine (H.out _).mono ?_; rintro e w' ⟨rfl, rfl⟩) | (go_at_call 40; refine (D.out _).mono ?_; rintro e w' ⟨rfl, rfl⟩))
  refine bodyPost_ret (v := .agg #[.int .i64 i.op, .int .i64 i.dst, .int .i64 0, .int .i64 0, .int .i64 0, .int .u64 i.imm]) (by simp [results, Tryz.results65, go_sem]) rfl ⟨by rw [E.out], ?_⟩
  repeat (first | exact BK.refl _ | refine bk_set ?_ _ _ (by simp) | refine bk_set ?_ _ _ (by simp; omega) | refine bk_alloc ?_ _)
set_option maxHeartbeats 1000000 in
theorem clr97_s1 (i : I6) (w : World) (h3 : srcs i.op = 1) (hd : dfB i.op = true) (h1 : i.op ≠ 1) : Calls Tryz.prog 65 #[.agg #[.int .i64 i.op, .int .i64 i.dst, .int .i64 i.a, .int .i64 i.b, .int .i64 i.c, .int .u64 i.imm]] w fun e w' => e = .returned (av (clr i)) ∧ BK w w' := by
  have H := Lib.hid (src86 i.op)
  have D := Lib.hid (df59 i.op)
  have E := Lib.hid (show .agg #[.int .i64 i.op, .int .i64 i.dst, .int .i64 i.a, .int .i64 0, .int .i64 0, .int .u64 0] = av (clr i) from by simp [clr, av, h3, hd, h1])
  have h1' : (i.op == 1) = false := by simpa using h1
  rw [h3] at H
  rw [hd] at D
  clear h3 hd h1
  go_enter Tryz.func65, Tryz.ntmps65
  go_wp2_with (first | (go_at_call 16; refine (H.out _).mono ?_; rintro e w' ⟨rfl, rfl⟩) | (go_at_call 40; refine (D.out _).mono ?_; rintro e w' ⟨rfl, rfl⟩))
  refine bodyPost_ret (v := .agg #[.int .i64 i.op, .int .i64 i.dst, .int .i64 i.a, .int .i64 0, .int .i64 0, .int .u64 0]) (by simp [results, Tryz.results65, go_sem]) rfl ⟨by rw [E.out], ?_⟩
  repeat (first | exact BK.refl _ | refine bk_set ?_ _ _ (by simp) | refine bk_set ?_ _ _ (by simp; omega) | refine bk_alloc ?_ _)
set_option maxHeartbeats 1000000 in
theorem clr97_s2 (i : I6) (w : World) (h3 : srcs i.op = 2) (hd : dfB i.op = true) (h1 : i.op ≠ 1) : Calls Tryz.prog 65 #[.agg #[.int .i64 i.op, .int .i64 i.dst, .int .i64 i.a, .int .i64 i.b, .int .i64 i.c, .int .u64 i.imm]] w fun e w' => e = .returned (av (clr i)) ∧ BK w w' := by
  have H := Lib.hid (src86 i.op)
  have D := Lib.hid (df59 i.op)
  have E := Lib.hid (show .agg #[.int .i64 i.op, .int .i64 i.dst, .int .i64 i.a, .int .i64 i.b, .int .i64 0, .int .u64 0] = av (clr i) from by simp [clr, av, h3, hd, h1])
  have h1' : (i.op == 1) = false := by simpa using h1
  rw [h3] at H
  rw [hd] at D
  clear h3 hd h1
  go_enter Tryz.func65, Tryz.ntmps65
  go_wp2_with (first | (go_at_call 16; refine (H.out _).mono ?_; rintro e w' ⟨rfl, rfl⟩) | (go_at_call 40; refine (D.out _).mono ?_; rintro e w' ⟨rfl, rfl⟩))
  refine bodyPost_ret (v := .agg #[.int .i64 i.op, .int .i64 i.dst, .int .i64 i.a, .int .i64 i.b, .int .i64 0, .int .u64 0]) (by simp [results, Tryz.results65, go_sem]) rfl ⟨by rw [E.out], ?_⟩
  repeat (first | exact BK.refl _ | refine bk_set ?_ _ _ (by simp) | refine bk_set ?_ _ _ (by simp; omega) | refine bk_alloc ?_ _)
set_option maxHeartbeats 1000000 in
theorem clr97_s3 (i : I6) (w : World) (h3 : srcs i.op = 3) (hd : dfB i.op = true) (h1 : i.op ≠ 1) : Calls Tryz.prog 65 #[.agg #[.int .i64 i.op, .int .i64 i.dst, .int .i64 i.a, .int .i64 i.b, .int .i64 i.c, .int .u64 i.imm]] w fun e w' => e = .returned (av (clr i)) ∧ BK w w' := by
  have H := Lib.hid (src86 i.op)
  have D := Lib.hid (df59 i.op)
  have E := Lib.hid (show .agg #[.int .i64 i.op, .int .i64 i.dst, .int .i64 i.a, .int .i64 i.b, .int .i64 i.c, .int .u64 0] = av (clr i) from by simp [clr, av, h3, hd, h1])
  have h1' : (i.op == 1) = false := by simpa using h1
  rw [h3] at H
  rw [hd] at D
  clear h3 hd h1
  go_enter Tryz.func65, Tryz.ntmps65
  go_wp2_with (first | (go_at_call 16; refine (H.out _).mono ?_; rintro e w' ⟨rfl, rfl⟩) | (go_at_call 40; refine (D.out _).mono ?_; rintro e w' ⟨rfl, rfl⟩))
  refine bodyPost_ret (v := .agg #[.int .i64 i.op, .int .i64 i.dst, .int .i64 i.a, .int .i64 i.b, .int .i64 i.c, .int .u64 0]) (by simp [results, Tryz.results65, go_sem]) rfl ⟨by rw [E.out], ?_⟩
  repeat (first | exact BK.refl _ | refine bk_set ?_ _ _ (by simp) | refine bk_set ?_ _ _ (by simp; omega) | refine bk_alloc ?_ _)
theorem clr97 (i : I6) (w : World) (hv : opB i.op = true) : Calls Tryz.prog 65 #[.agg #[.int .i64 i.op, .int .i64 i.dst, .int .i64 i.a, .int .i64 i.b, .int .i64 i.c, .int .u64 i.imm]] w fun e w' => e = .returned (av (clr i)) ∧ BK w w' := by
  have hb : 0 ≤ i.op ∧ i.op ≤ 19 := by unfold opB at hv; simpa using hv
  by_cases h0 : i.op = 0
  · exact clr97_nop i w (by rw [h0]; rfl) (by rw [h0]; rfl) (by omega)
  · have hd : dfB i.op = true := by unfold dfB; apply decide_eq_true; omega
    by_cases h1 : i.op = 1
    · exact clr97_movi i w (by rw [h1]; rfl) hd h1
    · rcases srcs_cases i.op with h | h | h | h | h
      · unfold srcs at h; (repeat' split at h) <;> omega
      · unfold srcs at h; (repeat' split at h) <;> omega
      · exact clr97_s1 i w h hd h1
      · exact clr97_s2 i w h hd h1
      · exact clr97_s3 i w h hd h1
theorem clr_junk (i : I6) (hv : opB i.op = true) : (clr i = i) ↔ junkB i = false := by
  have hb : 0 ≤ i.op ∧ i.op ≤ 19 := by unfold opB at hv; simpa using hv
  obtain ⟨op, dst, a, b, c, imm⟩ := i
  dsimp only at hb
  unfold clr junkB dfB
  simp only [I6.mk.injEq, true_and, Bool.or_eq_false_iff, Bool.and_eq_false_iff, decide_eq_false_iff_not, decide_eq_true_eq]
  constructor
  · rintro ⟨e1, e2, e3, e4, e5⟩
    refine ⟨⟨⟨⟨?_, ?_⟩, ?_⟩, ?_⟩, ?_⟩
    · by_cases h : op = 0
      · rw [if_neg (by omega)] at e1; right; omega
      · left; exact h
    · by_cases h : op = 1
      · left; omega
      · rw [if_neg h] at e5; right; omega
    · by_cases h : srcs op < 1
      · rw [if_neg (by omega)] at e2; right; omega
      · left; exact h
    · by_cases h : srcs op < 2
      · rw [if_neg (by omega)] at e3; right; omega
      · left; exact h
    · by_cases h : srcs op < 3
      · rw [if_neg (by omega)] at e4; right; omega
      · left; exact h
  · rintro ⟨⟨⟨⟨e1, e2⟩, e3⟩, e4⟩, e5⟩
    refine ⟨?_, ?_, ?_, ?_, ?_⟩ <;> split <;> omega
end Go.Proofs.YtneidfbgdgegjaaGreatDoor
