/- Package scheduler and its reference: Take, where more is found than the threshold. -/
import Derived.Test.YtbpmkbnldoeffaaC
namespace Go.Proofs.Ytbpmkbnldoeffaa
open Go.RowKit
set_option linter.unusedVariables false
set_option linter.unusedSimpArgs false
theorem tT_min (t : Int) : tT t = min (nT t + 1) 30 := by
  have := nT_b t
  unfold tT nT cl at *; omega
theorem tclamp_any (t : Int) (w : World) : Calls Try.prog 21 #[.int .i64 (nT t + 1), .int .i64 0, .int .i64 30] w fun e w' => e = .returned (.int .i64 (tT t)) ∧ w = w' := clamp_any _ _ _ w
theorem uclamp_any (b t i : Int) (w : World) : Calls Try.prog 23 #[.int .i64 (nI i + 1 + gr (nL b) (nT t)), .int .i64 0, .int .i64 4398046511104] w fun e w' => e = .returned (.int .i64 (nI i + 1 + gr (nL b) (nT t))) ∧ w = w' := by
  have h := rclamp_any (nI i + 1 + gr (nL b) (nT t)) 0 4398046511104 w
  have := tU_b b t i
  unfold tU at this
  rwa [cl_in _ _ _ (by omega) (by omega)] at h
theorem keep3 {w' : World} {p : Nat} {v x y : Value} (h1 : w'.cell? ⟨p, 1, none⟩ = some x) (h2 : w'.cell? ⟨p, 2, none⟩ = some y) : (w'.setCell ⟨p, 3, none⟩ v).cell? ⟨p, 1, none⟩ = some x ∧ (w'.setCell ⟨p, 3, none⟩ v).cell? ⟨p, 2, none⟩ = some y :=
  ⟨(World.cell?_setCell_other _ _ _ _ (by simp)).trans h1, (World.cell?_setCell_other _ _ _ _ (by simp)).trans h2⟩
theorem keep3d {w' : World} {p : Nat} {v x y : Value} (h1 : w'.cell? ⟨p, 1, none⟩ = some x) (h2 : w'.cell? ⟨p, 2, none⟩ = some y) : (w'.setCell ⟨p, 3, none⟩ v).drew.cell? ⟨p, 1, none⟩ = some x ∧ (w'.setCell ⟨p, 3, none⟩ v).drew.cell? ⟨p, 2, none⟩ = some y := keep3 h1 h2
theorem dbl_any (b t : Int) (w : World) : Calls Try.prog 25 #[.int .i64 (nL b), .int .i64 (nT t)] w fun e w' => e = .returned (.int .i64 (gr (nL b) (nT t))) ∧ w = w' := doubled_any _ _ w (nL_b b).1 (nL_b b).2.1 (nT_b t).1 (nT_b t).2
theorem grn_any (b t : Int) (w : World) : Calls Try.prog 26 #[.int .i64 (nL b), .int .i64 (nT t)] w fun e w' => e = .returned (.int .i64 (gr (nL b) (nT t))) ∧ w = w' := grown_any _ _ w (nL_b b).1 (nL_b b).2.1 (nT_b t).1 (nT_b t).2
set_option maxHeartbeats 4000000 in
theorem take_no (l b t u i f : Int) (w : World) (h : tkB l t f = false) : Calls Try.prog 17 #[.agg #[.int .i64 l, .int .i64 b, .int .i64 t, .int .i64 u], .int .i64 i, .int .i64 f] w fun e w' => e = .returned (.tuple #[.agg #[.int .i64 (nL l), .int .i64 (nL b), .int .i64 (tT t), .int .i64 (tU b t i)], .bool false]) ∧ Below w.heap.size w w' := by
  have hth : ¬ nI f ≤ th l t := of_decide_eq_false h
  clear h
  have hn := nT_b t
  have s1 : IntKind.i64.wrap (nI i + 1) = nI i + 1 := IntWalk.i64_in _ (by have := nI_b i; omega)
  have s2 : IntKind.i64.wrap (nI i + 1 + gr (nL b) (nT t)) = nI i + 1 + gr (nL b) (nT t) := IntWalk.i64_in _ (by have := nI_b i; have := gr_b b t; omega)
  have S1 := Lib.hid s1
  have S2 := Lib.hid s2
  clear s1 s2
  go_enter Try.func17, Try.ntmps17
  go_wp2_with fail
  refine (clamped_any _ _ _ _ _).mono ?_
  rintro e w1 ⟨rfl, hb⟩
  have k1 := ((TK.new w l b t u).keep hb)
  have KC := Lib.hid (fun w' (hb : BK (st4 w1 w.heap.size (.int .i64 (nL l)) (.int .i64 (nL b)) (.int .i64 (nT t)) (.int .i64 (nU u))) w') => (k1.set (l' := nL l) (b' := nL b) (t' := nT t) (u' := nU u)).keep hb)
  have k0 : BK (st4 w1 w.heap.size (.int .i64 (nL l)) (.int .i64 (nL b)) (.int .i64 (nT t)) (.int .i64 (nU u))) (st4 w1 w.heap.size (.int .i64 (nL l)) (.int .i64 (nL b)) (.int .i64 (nT t)) (.int .i64 (nU u))) := BK.refl _
  have Hb := Lib.hid (below_set (p := w.heap.size) (x0 := .int .i64 (nL l)) (x1 := .int .i64 (nL b)) (x2 := .int .i64 (nT t)) (x3 := .int .i64 (nU u)) (below_chain (below_chain (below_alloc w _) (below_alloc _ _)) hb) (Nat.le_refl _))
  obtain ⟨⟨c0, c1, c2, c3⟩, _, f0, _, _⟩ := k1
  clear hb
  go_wp2_with fail
  clear c0 c1 c2 c3 f0
  obtain ⟨q0, q1, q2, q3⟩ := (KC.out _ k0).box
  go_region_held3 (fun w' => w'.cell? ⟨w.heap.size, 0, none⟩ = some (.int .i64 (nL l)) ∧ w'.cell? ⟨w.heap.size, 1, none⟩ = some (.int .i64 (nL b)) ∧ w'.cell? ⟨w.heap.size, 2, none⟩ = some (.int .i64 (nT t)) ∧ w'.cell? ⟨w.heap.size, 3, none⟩ = some (.int .i64 (nU u)))
    (first | go_keep | exact (KC.out _ (by first | assumption | exact bk_drew (by assumption))).box)
    (first | (go_at_call 13; refine (bkc (w0 := st4 w1 w.heap.size (.int .i64 (nL l)) (.int .i64 (nL b)) (.int .i64 (nT t)) (.int .i64 (nU u))) (thrn_any _ _ _ _ _) (by first | assumption | exact bk_drew (by assumption))).mono ?_; rintro e w' ⟨rfl, hb'⟩) | (go_at_call 21; (with_reducible refine (nclamp_any _ _).mono ?_); rintro e w' ⟨rfl, rfl⟩))
  all_goals clear q0 q1 q2 q3
  all_goals rename BK _ _ => hb'
  all_goals obtain ⟨⟨q0, q1, q2, q3⟩, ⟨r0, r1, r2, r3⟩, f0, f1, hz⟩ := KC.out _ hb'
  all_goals go_wp2_with fail
  all_goals have s1 := S1.out
  all_goals have s2 := S2.out
  all_goals go_region_held3 (fun w' => w'.cell? ⟨w.heap.size, 1, none⟩ = some (.int .i64 (nL b)) ∧ w'.cell? ⟨w.heap.size, 2, none⟩ = some (.int .i64 (nT t)))
    (first | (go_keep; done) | exact keep3d q1 q2 | exact keep3 q1 q2 | simp [q1, q2, World.cell?_setCell_other])
    (first | (go_at_call 25; (with_reducible refine (dbl_any _ _ _).mono ?_); rintro e w' ⟨rfl, rfl⟩) | (go_at_call 21; (with_reducible refine (nclamp_any _ _).mono ?_); rintro e w' ⟨rfl, rfl⟩))
  all_goals clear s1 s2
  all_goals go_wp2_with (go_at_call 21; refine (tclamp_any _ _).mono ?_; rintro e w' ⟨rfl, rfl⟩)
  all_goals refine bodyPost_ret (v := .tuple #[.agg #[.int .i64 (nL l), .int .i64 (nL b), .int .i64 (tT t), .int .i64 (nI i + 1 + gr (nL b) (nT t))], .bool false]) (by simp [results, Try.results17, go_sem, q0, q1, q2, q3, r0, r1, r2, r3]) rfl ⟨by first | rfl | rw [tT_min] <;> rfl, ?_⟩
  all_goals repeat (first | refine Below.setCell ?_ (by simp) _ | refine Below.drew ?_ | exact below_chain Hb.out hb')
set_option maxHeartbeats 4000000 in
theorem rtake_no (l b t u i f : Int) (w : World) (h : tkB l t f = false) : Calls Try.prog 18 #[.agg #[.int .i64 l, .int .i64 b, .int .i64 t, .int .i64 u], .int .i64 i, .int .i64 f] w fun e w' => e = .returned (.tuple #[.agg #[.int .i64 (nL l), .int .i64 (nL b), .int .i64 (tT t), .int .i64 (tU b t i)], .bool false]) ∧ Below w.heap.size w w' := by
  have hth : ¬ nI f ≤ th l t := of_decide_eq_false h
  clear h
  have hn := nT_b t
  have s1 : IntKind.i64.wrap (nI i + 1) = nI i + 1 := IntWalk.i64_in _ (by have := nI_b i; omega)
  have s2 : IntKind.i64.wrap (nI i + 1 + gr (nL b) (nT t)) = nI i + 1 + gr (nL b) (nT t) := IntWalk.i64_in _ (by have := nI_b i; have := gr_b b t; omega)
  have S1 := Lib.hid s1
  have S2 := Lib.hid s2
  clear s1 s2
  go_enter Try.func18, Try.ntmps18
  go_wp2_with fail
  refine (norm_any _ _ _ _ _).mono ?_
  rintro e w1 ⟨rfl, hb⟩
  have k1 := ((TK.new w l b t u).keep hb)
  have KC := Lib.hid (fun w' (hb : BK (st4 w1 w.heap.size (.int .i64 (nL l)) (.int .i64 (nL b)) (.int .i64 (nT t)) (.int .i64 (nU u))) w') => (k1.set (l' := nL l) (b' := nL b) (t' := nT t) (u' := nU u)).keep hb)
  have k0 : BK (st4 w1 w.heap.size (.int .i64 (nL l)) (.int .i64 (nL b)) (.int .i64 (nT t)) (.int .i64 (nU u))) (st4 w1 w.heap.size (.int .i64 (nL l)) (.int .i64 (nL b)) (.int .i64 (nT t)) (.int .i64 (nU u))) := BK.refl _
  have Hb := Lib.hid (below_set (p := w.heap.size) (x0 := .int .i64 (nL l)) (x1 := .int .i64 (nL b)) (x2 := .int .i64 (nT t)) (x3 := .int .i64 (nU u)) (below_chain (below_chain (below_alloc w _) (below_alloc _ _)) hb) (Nat.le_refl _))
  obtain ⟨⟨c0, c1, c2, c3⟩, _, f0, _, _⟩ := k1
  clear hb
  go_wp2_with fail
  clear c0 c1 c2 c3 f0
  obtain ⟨q0, q1, q2, q3⟩ := (KC.out _ k0).box
  go_region_held3 (fun w' => w'.cell? ⟨w.heap.size, 0, none⟩ = some (.int .i64 (nL l)) ∧ w'.cell? ⟨w.heap.size, 1, none⟩ = some (.int .i64 (nL b)) ∧ w'.cell? ⟨w.heap.size, 2, none⟩ = some (.int .i64 (nT t)) ∧ w'.cell? ⟨w.heap.size, 3, none⟩ = some (.int .i64 (nU u)))
    (first | go_keep | exact (KC.out _ (by first | assumption | exact bk_drew (by assumption))).box)
    (first | (go_at_call 14; refine (bkc (w0 := st4 w1 w.heap.size (.int .i64 (nL l)) (.int .i64 (nL b)) (.int .i64 (nT t)) (.int .i64 (nU u))) (rthrn_any _ _ _ _ _) (by first | assumption | exact bk_drew (by assumption))).mono ?_; rintro e w' ⟨rfl, hb'⟩) | (go_at_call 23; (with_reducible refine (rnclamp_any _ _).mono ?_); rintro e w' ⟨rfl, rfl⟩))
  all_goals clear q0 q1 q2 q3
  all_goals rename BK _ _ => hb'
  all_goals obtain ⟨⟨q0, q1, q2, q3⟩, ⟨r0, r1, r2, r3⟩, f0, f1, hz⟩ := KC.out _ hb'
  all_goals go_wp2_with fail
  all_goals have s1 := S1.out
  all_goals have s2 := S2.out
  all_goals go_region_held3 (fun w' => w'.cell? ⟨w.heap.size, 1, none⟩ = some (.int .i64 (nL b)) ∧ w'.cell? ⟨w.heap.size, 2, none⟩ = some (.int .i64 (nT t)))
    (first | (go_keep; done) | exact keep3d q1 q2 | exact keep3 q1 q2 | simp [q1, q2, World.cell?_setCell_other])
    (first | (go_at_call 26; (with_reducible refine (grn_any _ _ _).mono ?_); rintro e w' ⟨rfl, rfl⟩) | (go_at_call 23; (with_reducible refine (uclamp_any _ _ _ _).mono ?_); rintro e w' ⟨rfl, rfl⟩) | (go_at_call 23; (with_reducible refine (rnclamp_any _ _).mono ?_); rintro e w' ⟨rfl, rfl⟩))
  all_goals clear s1 s2
  all_goals go_wp2_with fail
  all_goals refine bodyPost_ret (v := .tuple #[.agg #[.int .i64 (nL l), .int .i64 (nL b), .int .i64 (min (nT t + 1) 30), .int .i64 (nI i + 1 + gr (nL b) (nT t))], .bool false]) (by simp [results, Try.results18, go_sem, q0, q1, q2, q3, r0, r1, r2, r3]) rfl ⟨by first | rfl | rw [tT_min] <;> rfl, ?_⟩
  all_goals repeat (first | refine Below.setCell ?_ (by simp) _ | refine Below.drew ?_ | exact below_chain Hb.out hb')
end Go.Proofs.Ytbpmkbnldoeffaa
