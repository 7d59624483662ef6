/- Package scheduler and its reference: Norm, Ready, Threshold. -/
import Derived.Test.YtbpmkbnldoeffaaA
namespace Go.Proofs.Ytbpmkbnldoeffaa
open Go.RowKit
set_option linter.unusedVariables false
set_option linter.unusedSimpArgs false
theorem bcell {W w1 : World} (hb : Below W.heap.size W w1) : (∀ b o, b < W.heap.size → w1.cell? ⟨b, o, none⟩ = W.cell? ⟨b, o, none⟩) ∧ (∀ b o, b < W.heap.size → w1.frozen? ⟨b, o, none⟩ = W.frozen? ⟨b, o, none⟩) :=
  ⟨fun b o h => hb.cell (p := ⟨b, o, none⟩) h, fun b o h => hb.frozen (p := ⟨b, o, none⟩) h⟩
theorem bkc {w0 wc : World} {f : Nat} {args : Array Value} {v : Value} (h : Calls Try.prog f args wc (fun e w' => e = .returned v ∧ Below wc.heap.size wc w')) (hb : BK w0 wc) : Calls Try.prog f args wc (fun e w' => e = .returned v ∧ BK w0 w') :=
  h.mono fun e w' ⟨he, h⟩ => ⟨he, bk_chain hb h⟩
/-- the four cells of a boxed state -/
def Bx (w' : World) (p : Nat) (x0 x1 x2 x3 : Value) : Prop := w'.cell? ⟨p, 0, none⟩ = some x0 ∧ w'.cell? ⟨p, 1, none⟩ = some x1 ∧ w'.cell? ⟨p, 2, none⟩ = some x2 ∧ w'.cell? ⟨p, 3, none⟩ = some x3
theorem box_new (w : World) (x0 x1 x2 x3 : Value) (T : Nat) : Bx (w.alloc (.cells #[x0, x1, x2, x3] T)) w.heap.size x0 x1 x2 x3 := by
  refine ⟨?_, ?_, ?_, ?_⟩ <;> (rw [World.cell?_alloc_new]; rfl)
theorem Bx.keep {W w' : World} {p : Nat} {x0 x1 x2 x3 : Value} (h : Bx W p x0 x1 x2 x3) (hb : BK W w') (hp : p < W.heap.size) : Bx w' p x0 x1 x2 x3 := by
  have hb : Below W.heap.size W w' := hb
  obtain ⟨a0, a1, a2, a3⟩ := h
  exact ⟨(hb.cell (p := ⟨p, 0, none⟩) hp).trans a0, (hb.cell (p := ⟨p, 1, none⟩) hp).trans a1, (hb.cell (p := ⟨p, 2, none⟩) hp).trans a2, (hb.cell (p := ⟨p, 3, none⟩) hp).trans a3⟩
set_option maxHeartbeats 1000000 in
theorem norm_any (l b t u : Int) (w : World) : Calls Try.prog 24 #[.agg #[.int .i64 l, .int .i64 b, .int .i64 t, .int .i64 u]] w fun e w' => e = .returned (.agg #[.int .i64 (nL l), .int .i64 (nL b), .int .i64 (nT t), .int .i64 (nU u)]) ∧ Below w.heap.size w w' := by
  have hx := box_new w (.int .i64 l) (.int .i64 b) (.int .i64 t) (.int .i64 u) 26
  obtain ⟨x0, x1, x2, x3⟩ := hx.keep (below_alloc _ (.cells #[.int .i64 0, .int .i64 0, .int .i64 0, .int .i64 0] 26)) (by simp)
  clear hx
  go_enter Try.func24, Try.ntmps24
  go_wp2_with fail
  go_region_held3 (fun w' => w'.cell? ⟨w.heap.size, 0, none⟩ = some (.int .i64 l) ∧ w'.cell? ⟨w.heap.size, 1, none⟩ = some (.int .i64 b) ∧ w'.cell? ⟨w.heap.size, 2, none⟩ = some (.int .i64 t) ∧ w'.cell? ⟨w.heap.size, 3, none⟩ = some (.int .i64 u))
    (go_keep)
    (first | (go_at_call 23; refine (rclamp_any _ _ _ _).mono ?_; rintro e w' ⟨rfl, rfl⟩))
  all_goals go_wp2_with fail
  all_goals refine bodyPost_ret (v := .agg #[.int .i64 (nL l), .int .i64 (nL b), .int .i64 (nT t), .int .i64 (nU u)]) (by simp [results, Try.results24, go_sem, nL, nT, nU]) rfl ⟨rfl, ?_⟩
  all_goals repeat (first | exact Below.refl _ _ | refine Below.setCell ?_ (by simp) _ | refine Below.alloc ?_ (by simp) _ | refine Below.drew ?_ | refine below_drewN ?_ _)
theorem field26 (x0 x1 x2 x3 : Value) (w : World) : (Instr.field 26 (.agg #[x0, x1, x2, x3]) 3).run Try.prog w = .ok x3 w := by kernel_rfl
def rdB (u i : Int) : Bool := decide (nU u ≤ nI i)
set_option maxHeartbeats 1000000 in
theorem ready_any (l b t u i : Int) (w : World) : Calls Try.prog 11 #[.agg #[.int .i64 l, .int .i64 b, .int .i64 t, .int .i64 u], .int .i64 i] w fun e w' => e = .returned (.bool (rdB u i)) ∧ Below w.heap.size w w' := by
  have KC := Lib.hid (fun w' (hb : BK (w.alloc (.cells #[.int .i64 l, .int .i64 b, .int .i64 t, .int .i64 u] 26)) w') => (box_new w (.int .i64 l) (.int .i64 b) (.int .i64 t) (.int .i64 u) 26).keep hb (by simp))
  have k0 : BK (w.alloc (.cells #[.int .i64 l, .int .i64 b, .int .i64 t, .int .i64 u] 26)) (w.alloc (.cells #[.int .i64 l, .int .i64 b, .int .i64 t, .int .i64 u] 26)) := BK.refl _
  have HW := Lib.hid (below_alloc w (.cells #[.int .i64 l, .int .i64 b, .int .i64 t, .int .i64 u] 26))
  have hfd : ∀ w, (Instr.field 26 (.agg #[.int .i64 (nL l), .int .i64 (nL b), .int .i64 (nT t), .int .i64 (nU u)]) 3).run Try.prog w = .ok (.int .i64 (nU u)) w := fun w => field26 _ _ _ _ w
  go_enter Try.func11, Try.ntmps11
  go_wp2_with fail
  go_region_held3 (fun w' => w'.cell? ⟨w.heap.size, 0, none⟩ = some (.int .i64 l) ∧ w'.cell? ⟨w.heap.size, 1, none⟩ = some (.int .i64 b) ∧ w'.cell? ⟨w.heap.size, 2, none⟩ = some (.int .i64 t) ∧ w'.cell? ⟨w.heap.size, 3, none⟩ = some (.int .i64 u))
    (first | go_keep | exact KC.out _ (by first | assumption | exact bk_drew (by assumption)))
    (first | (go_at_call 22; refine (bkc (w0 := w.alloc (.cells #[.int .i64 l, .int .i64 b, .int .i64 t, .int .i64 u] 26)) (clamped_any _ _ _ _ _) (by first | assumption | exact bk_drew (by assumption))).mono ?_; rintro e w' ⟨rfl, hb'⟩) | (go_at_call 21; refine (clamp_any _ _ _ _).mono ?_; rintro e w' ⟨rfl, rfl⟩))
  all_goals go_wp2_with fail
  all_goals go_ret
  all_goals exact ⟨rfl, below_chain HW.out (by first | assumption | exact bk_drew (by assumption))⟩
set_option maxHeartbeats 1000000 in
theorem rready_any (l b t u i : Int) (w : World) : Calls Try.prog 12 #[.agg #[.int .i64 l, .int .i64 b, .int .i64 t, .int .i64 u], .int .i64 i] w fun e w' => e = .returned (.bool (rdB u i)) ∧ Below w.heap.size w w' := by
  have KC := Lib.hid (fun w' (hb : BK (w.alloc (.cells #[.int .i64 l, .int .i64 b, .int .i64 t, .int .i64 u] 26)) w') => (box_new w (.int .i64 l) (.int .i64 b) (.int .i64 t) (.int .i64 u) 26).keep hb (by simp))
  have k0 : BK (w.alloc (.cells #[.int .i64 l, .int .i64 b, .int .i64 t, .int .i64 u] 26)) (w.alloc (.cells #[.int .i64 l, .int .i64 b, .int .i64 t, .int .i64 u] 26)) := BK.refl _
  have HW := Lib.hid (below_alloc w (.cells #[.int .i64 l, .int .i64 b, .int .i64 t, .int .i64 u] 26))
  have hfd : ∀ w, (Instr.field 26 (.agg #[.int .i64 (nL l), .int .i64 (nL b), .int .i64 (nT t), .int .i64 (nU u)]) 3).run Try.prog w = .ok (.int .i64 (nU u)) w := fun w => field26 _ _ _ _ w
  go_enter Try.func12, Try.ntmps12
  go_wp2_with fail
  go_region_held3 (fun w' => w'.cell? ⟨w.heap.size, 0, none⟩ = some (.int .i64 l) ∧ w'.cell? ⟨w.heap.size, 1, none⟩ = some (.int .i64 b) ∧ w'.cell? ⟨w.heap.size, 2, none⟩ = some (.int .i64 t) ∧ w'.cell? ⟨w.heap.size, 3, none⟩ = some (.int .i64 u))
    (first | go_keep | exact KC.out _ (by first | assumption | exact bk_drew (by assumption)))
    (first | (go_at_call 24; refine (bkc (w0 := w.alloc (.cells #[.int .i64 l, .int .i64 b, .int .i64 t, .int .i64 u] 26)) (norm_any _ _ _ _ _) (by first | assumption | exact bk_drew (by assumption))).mono ?_; rintro e w' ⟨rfl, hb'⟩) | (go_at_call 23; refine (rclamp_any _ _ _ _).mono ?_; rintro e w' ⟨rfl, rfl⟩))
  all_goals go_wp2_with fail
  all_goals go_ret
  all_goals exact ⟨rfl, below_chain HW.out (by first | assumption | exact bk_drew (by assumption))⟩
theorem nL_b (l : Int) : 0 ≤ nL l ∧ nL l ≤ 65536 ∧ 1 ≤ nL l := by unfold nL cl; omega
theorem nT_b (t : Int) : 0 ≤ nT t ∧ nT t ≤ 30 := by unfold nT cl; omega
def th (l t : Int) : Int := gr (nL l) (nT t)
set_option maxHeartbeats 1000000 in
theorem thr_any (l b t u : Int) (w : World) : Calls Try.prog 13 #[.agg #[.int .i64 l, .int .i64 b, .int .i64 t, .int .i64 u]] w fun e w' => e = .returned (.int .i64 (th l t)) ∧ Below w.heap.size w w' := by
  have hd : ∀ w, Calls Try.prog 25 #[.int .i64 (nL l), .int .i64 (nT t)] w fun e w' => e = .returned (.int .i64 (th l t)) ∧ w = w' := fun w => doubled_any _ _ w (nL_b l).1 (nL_b l).2.1 (nT_b t).1 (nT_b t).2
  have HD := Lib.hid hd
  clear hd
  go_enter Try.func13, Try.ntmps13
  go_wp2_with fail
  refine (clamped_any _ _ _ _ _).mono ?_
  rintro e w1 ⟨rfl, hb⟩
  obtain ⟨hc, hf⟩ := bcell hb
  have Hb := Lib.hid hb
  clear hb
  go_wp2_with (go_at_call 25; refine (HD.out _).mono ?_; rintro e w' ⟨rfl, rfl⟩)
  go_ret
  refine ⟨rfl, ?_⟩
  repeat (first | exact below_chain (below_alloc w _) Hb.out | refine Below.setCell ?_ (by simp) _)
set_option maxHeartbeats 1000000 in
theorem rthr_any (l b t u : Int) (w : World) : Calls Try.prog 14 #[.agg #[.int .i64 l, .int .i64 b, .int .i64 t, .int .i64 u]] w fun e w' => e = .returned (.int .i64 (th l t)) ∧ Below w.heap.size w w' := by
  have hd : ∀ w, Calls Try.prog 26 #[.int .i64 (nL l), .int .i64 (nT t)] w fun e w' => e = .returned (.int .i64 (th l t)) ∧ w = w' := fun w => grown_any _ _ w (nL_b l).1 (nL_b l).2.1 (nT_b t).1 (nT_b t).2
  have HD := Lib.hid hd
  clear hd
  go_enter Try.func14, Try.ntmps14
  go_wp2_with fail
  refine (norm_any _ _ _ _ _).mono ?_
  rintro e w1 ⟨rfl, hb⟩
  obtain ⟨hc, hf⟩ := bcell hb
  have Hb := Lib.hid hb
  clear hb
  go_wp2_with (go_at_call 26; refine (HD.out _).mono ?_; rintro e w' ⟨rfl, rfl⟩)
  go_ret
  refine ⟨rfl, ?_⟩
  repeat (first | exact below_chain (below_alloc w _) Hb.out | refine Below.setCell ?_ (by simp) _)
end Go.Proofs.Ytbpmkbnldoeffaa
