/- After a ban. -/
import Derived.Test.YtbpmkbnldoeffaaI
import Derived.Deep.DeepCutAuto
namespace Go.Proofs.Ytbpmkbnldoeffaa
open Go.RowKit
set_option linter.unusedVariables false
set_option linter.unusedSimpArgs false
theorem wp_region_class {P : Program} {C : World → Prop} {id : Nat} {Q : Exit → Act → World → Prop} {a : Act} {w : World} {l : List Oper} (hm : P.follows .mixedOrders = true) (hB : Region.lexB .any l.toArray = true) (hC : C w.drew)
    (h : wpQuiet P l.toArray C (fun a' => ∀ w', C w' → Q .normal a' w') l a) : (Code.region id l.toArray true).wp P Q a w :=
  wp_region_quiet hm hB hC (by simpa using h)
theorem th_mono (l t f : Int) : th l t ≤ th (nL l) (tT t) := by
  have h1 : nL (nL l) = nL l := cl_cl _ _ _ (by omega)
  have hn := nT_b t
  have h2 : nT (tT t) = tT t := by have : tT t = cl (nT t + 1) 0 30 := rfl; rw [this]; exact cl_cl _ _ _ (by omega)
  have h3 : nT t ≤ tT t := by rw [tT_min]; omega
  unfold th
  rw [h1, h2]
  exact gr_mono _ _ _ (nL_b l).1 hn.1 h3
theorem nU_nU (u : Int) : nU (nU u) = nU u := cl_cl _ _ _ (by omega)
theorem nU_tU (b t i : Int) : nU (tU b t i) = tU b t i := cl_in _ _ _ (by have := tU_b b t i; omega) (by have := tU_b b t i; omega)
theorem rd_nU (u i : Int) : rdB (nU u) i = rdB u i := by unfold rdB; rw [nU_nU]
theorem rd_1 (b t i : Int) (h : tU b t i < 1099511627776) : rdB (tU b t i) (tU b t i - 1) = false := by
  have := tU_b b t i
  unfold rdB; rw [nU_tU]; apply decide_eq_false; unfold nI; rw [cl_in _ _ _ (by omega) (by omega)]; omega
theorem rd_2 (b t i : Int) (h : tU b t i < 1099511627776) : rdB (tU b t i) (tU b t i) = true := by
  have := tU_b b t i
  unfold rdB; rw [nU_tU]; apply decide_eq_true; unfold nI; rw [cl_in _ _ _ (by omega) (by omega)]; omega
theorem rd_3 (b t i : Int) : rdB (tU b t i) i = false := by
  have := gr_b b t
  unfold rdB; rw [nU_tU]; apply decide_eq_false; unfold tU; omega
/-- the calls on the state x that Take returned, in every world of the class -/
structure Cx (w0 : World) (l b t u i xl xb xt xu : Int) (A B : Int) (r1 r2 r3 r4 : Bool) : Prop where
  c1 : ∀ wc, BK w0 wc → Calls Try.prog 13 #[.agg #[.int .i64 xl, .int .i64 xb, .int .i64 xt, .int .i64 xu]] wc fun e w' => e = .returned (.int .i64 A) ∧ BK w0 w'
  c2 : ∀ wc, BK w0 wc → Calls Try.prog 13 #[.agg #[.int .i64 l, .int .i64 b, .int .i64 t, .int .i64 u]] wc fun e w' => e = .returned (.int .i64 B) ∧ BK w0 w'
  c3 : ∀ wc, BK w0 wc → Calls Try.prog 11 #[.agg #[.int .i64 l, .int .i64 b, .int .i64 t, .int .i64 u], .int .i64 i] wc fun e w' => e = .returned (.bool r1) ∧ BK w0 w'
  c4 : ∀ wc, BK w0 wc → Calls Try.prog 11 #[.agg #[.int .i64 xl, .int .i64 xb, .int .i64 xt, .int .i64 xu], .int .i64 i] wc fun e w' => e = .returned (.bool r2) ∧ BK w0 w'
  c5 : ∀ wc, BK w0 wc → Calls Try.prog 11 #[.agg #[.int .i64 xl, .int .i64 xb, .int .i64 xt, .int .i64 xu], .int .i64 (xu - 1)] wc fun e w' => e = .returned (.bool r3) ∧ BK w0 w'
  c6 : ∀ wc, BK w0 wc → Calls Try.prog 11 #[.agg #[.int .i64 xl, .int .i64 xb, .int .i64 xt, .int .i64 xu], .int .i64 xu] wc fun e w' => e = .returned (.bool r4) ∧ BK w0 w'
theorem cx_mk (w0 : World) (l b t u i xl xb xt xu : Int) : Cx w0 l b t u i xl xb xt xu (th xl xt) (th l t) (rdB u i) (rdB xu i) (rdB xu (xu - 1)) (rdB xu xu) :=
  ⟨fun wc h => bkc (thr_any _ _ _ _ _) h, fun wc h => bkc (thr_any _ _ _ _ _) h, fun wc h => bkc (ready_any _ _ _ _ _ _) h, fun wc h => bkc (ready_any _ _ _ _ _ _) h, fun wc h => bkc (ready_any _ _ _ _ _ _) h, fun wc h => bkc (ready_any _ _ _ _ _ _) h⟩
set_option maxRecDepth 100000 in
set_option maxHeartbeats 4000000 in
theorem bans_tt (l b t u i f xl xb xt xu A B : Int) (r3 r4 : Bool) (w : World) (ht : ∀ w, Calls Try.prog 17 #[.agg #[.int .i64 l, .int .i64 b, .int .i64 t, .int .i64 u], .int .i64 i, .int .i64 f] w fun e w' => e = .returned (.tuple #[.agg #[.int .i64 xl, .int .i64 xb, .int .i64 xt, .int .i64 xu], .bool true]) ∧ Below w.heap.size w w')
    (hC : ∀ w0, Cx w0 l b t u i xl xb xt xu A B true true r3 r4) (hAB : B ≤ A) (h0 : 0 ≤ xu) (h1 : xu ≤ 4398046511104) :
    Calls Try.prog 7 #[.agg #[.int .i64 l, .int .i64 b, .int .i64 t, .int .i64 u], .int .i64 i, .int .i64 f] w fun e w' => e = .returned (.bool true) ∧ Below w.heap.size w w' := by
  have hd : decide (A < B) = false := by simp; omega
  have hn : ¬ A < B := by omega
  have hw : IntKind.i64.wrap (xu - 1) = xu - 1 := IntWalk.i64_in _ (by omega)
  have HT := Lib.hid ht
  have HCC := Lib.hid hC
  clear ht hC
  go_enter Try.func7, Try.ntmps7
  go_wp2_with fail
  refine (HT.out _).mono ?_
  rintro e w1 ⟨rfl, hb1⟩
  have H1 := Lib.hid (bk_chain (bk_alloc (BK.refl w) _) hb1)
  have hz : w.heap.size < w1.heap.size := by have := hb1.size; simp at this; omega
  have x1 := (box_new w (.int .i64 l) (.int .i64 b) (.int .i64 t) (.int .i64 u) 26).keep hb1 (by simp)
  have KC := Lib.hid (fun wc (hb : BK (w1.alloc (.cells #[.int .i64 xl, .int .i64 xb, .int .i64 xt, .int .i64 xu] 26)) wc) => And.intro ((x1.keep (bk_alloc (BK.refl w1) _) hz).keep hb (by simp; omega)) ((box_new w1 (.int .i64 xl) (.int .i64 xb) (.int .i64 xt) (.int .i64 xu) 26).keep hb (by simp)))
  have k0 : BK (w1.alloc (.cells #[.int .i64 xl, .int .i64 xb, .int .i64 xt, .int .i64 xu] 26)) (w1.alloc (.cells #[.int .i64 xl, .int .i64 xb, .int .i64 xt, .int .i64 xu] 26)) := BK.refl _
  have C := Lib.hid (HCC.out (w1.alloc (.cells #[.int .i64 xl, .int .i64 xb, .int .i64 xt, .int .i64 xu] 26)))
  clear hb1 x1
  go_wp2_with fail
  refine wp_region_class (C := fun w' => BK (w1.alloc (.cells #[.int .i64 xl, .int .i64 xb, .int .i64 xt, .int .i64 xu] 26)) w') (by kernel_rfl) (by kernel_rfl) (bk_drew k0) ?_
  repeat (first
      | go_big_quiet_step (fail)
      | (refine wpQuiet_step (fun K hK => ?_)
         go_simp
         first
           | (refine hK _ ?_; clear hK K)
           | (refine ⟨_, fun _ _ => rfl, hK _ ?_⟩; clear hK K)
           | (apply Exists.intro; refine ⟨fun w5 hw5 => ?_, hK _ ?_⟩; (go_at_call 13; with_reducible exact C.out.c1 _ hw5); clear hK K)
           | (apply Exists.intro; refine ⟨fun w5 hw5 => ?_, hK _ ?_⟩; (go_at_call 13; with_reducible exact C.out.c2 _ hw5); clear hK K)
           | (apply Exists.intro; refine ⟨fun w5 hw5 => ?_, hK _ ?_⟩; (go_at_call 11; with_reducible exact C.out.c3 _ hw5); clear hK K)
           | (apply Exists.intro; refine ⟨fun w5 hw5 => ?_, hK _ ?_⟩; (go_at_call 11; with_reducible exact C.out.c4 _ hw5); clear hK K)
           | (apply Exists.intro; refine ⟨fun w5 hw5 => ?_, hK _ ?_⟩; (obtain ⟨⟨q0, q1, q2, q3⟩, ⟨p0, p1, p2, p3⟩⟩ := KC.out _ hw5; go_simp; rfl); clear hK K)))
  refine wpQuiet_nil ?_
  intro w5 hw5
  obtain ⟨⟨q0, q1, q2, q3⟩, ⟨p0, p1, p2, p3⟩⟩ := KC.out _ hw5
  go_wp2_with fail
  refine (lives_any _).mono ?_
  rintro e w9 ⟨rfl, hb9⟩
  have H9 := Lib.hid (bk_chain (bk_tr (bk_alloc H1.out _) (by assumption)) hb9)
  clear hb9
  go_wp2_with fail
  go_ret
  exact ⟨rfl, H9.out⟩
set_option maxRecDepth 100000 in
set_option maxHeartbeats 4000000 in
theorem bans_tf (l b t u i f xl xb xt xu A B : Int) (r3 r4 : Bool) (w : World) (ht : ∀ w, Calls Try.prog 17 #[.agg #[.int .i64 l, .int .i64 b, .int .i64 t, .int .i64 u], .int .i64 i, .int .i64 f] w fun e w' => e = .returned (.tuple #[.agg #[.int .i64 xl, .int .i64 xb, .int .i64 xt, .int .i64 xu], .bool true]) ∧ Below w.heap.size w w')
    (hC : ∀ w0, Cx w0 l b t u i xl xb xt xu A B false false r3 r4) (hAB : B ≤ A) (h0 : 0 ≤ xu) (h1 : xu ≤ 4398046511104) :
    Calls Try.prog 7 #[.agg #[.int .i64 l, .int .i64 b, .int .i64 t, .int .i64 u], .int .i64 i, .int .i64 f] w fun e w' => e = .returned (.bool true) ∧ Below w.heap.size w w' := by
  have hd : decide (A < B) = false := by simp; omega
  have hn : ¬ A < B := by omega
  have hw : IntKind.i64.wrap (xu - 1) = xu - 1 := IntWalk.i64_in _ (by omega)
  have HT := Lib.hid ht
  have HCC := Lib.hid hC
  clear ht hC
  go_enter Try.func7, Try.ntmps7
  go_wp2_with fail
  refine (HT.out _).mono ?_
  rintro e w1 ⟨rfl, hb1⟩
  have H1 := Lib.hid (bk_chain (bk_alloc (BK.refl w) _) hb1)
  have hz : w.heap.size < w1.heap.size := by have := hb1.size; simp at this; omega
  have x1 := (box_new w (.int .i64 l) (.int .i64 b) (.int .i64 t) (.int .i64 u) 26).keep hb1 (by simp)
  have KC := Lib.hid (fun wc (hb : BK (w1.alloc (.cells #[.int .i64 xl, .int .i64 xb, .int .i64 xt, .int .i64 xu] 26)) wc) => And.intro ((x1.keep (bk_alloc (BK.refl w1) _) hz).keep hb (by simp; omega)) ((box_new w1 (.int .i64 xl) (.int .i64 xb) (.int .i64 xt) (.int .i64 xu) 26).keep hb (by simp)))
  have k0 : BK (w1.alloc (.cells #[.int .i64 xl, .int .i64 xb, .int .i64 xt, .int .i64 xu] 26)) (w1.alloc (.cells #[.int .i64 xl, .int .i64 xb, .int .i64 xt, .int .i64 xu] 26)) := BK.refl _
  have C := Lib.hid (HCC.out (w1.alloc (.cells #[.int .i64 xl, .int .i64 xb, .int .i64 xt, .int .i64 xu] 26)))
  clear hb1 x1
  go_wp2_with fail
  refine wp_region_class (C := fun w' => BK (w1.alloc (.cells #[.int .i64 xl, .int .i64 xb, .int .i64 xt, .int .i64 xu] 26)) w') (by kernel_rfl) (by kernel_rfl) (bk_drew k0) ?_
  repeat (first
      | go_big_quiet_step (fail)
      | (refine wpQuiet_step (fun K hK => ?_)
         go_simp
         first
           | (refine hK _ ?_; clear hK K)
           | (refine ⟨_, fun _ _ => rfl, hK _ ?_⟩; clear hK K)
           | (apply Exists.intro; refine ⟨fun w5 hw5 => ?_, hK _ ?_⟩; (go_at_call 13; with_reducible exact C.out.c1 _ hw5); clear hK K)
           | (apply Exists.intro; refine ⟨fun w5 hw5 => ?_, hK _ ?_⟩; (go_at_call 13; with_reducible exact C.out.c2 _ hw5); clear hK K)
           | (apply Exists.intro; refine ⟨fun w5 hw5 => ?_, hK _ ?_⟩; (go_at_call 11; with_reducible exact C.out.c3 _ hw5); clear hK K)
           | (apply Exists.intro; refine ⟨fun w5 hw5 => ?_, hK _ ?_⟩; (go_at_call 11; with_reducible exact C.out.c4 _ hw5); clear hK K)
           | (apply Exists.intro; refine ⟨fun w5 hw5 => ?_, hK _ ?_⟩; (obtain ⟨⟨q0, q1, q2, q3⟩, ⟨p0, p1, p2, p3⟩⟩ := KC.out _ hw5; go_simp; rfl); clear hK K)))
  refine wpQuiet_nil ?_
  intro w5 hw5
  obtain ⟨⟨q0, q1, q2, q3⟩, ⟨p0, p1, p2, p3⟩⟩ := KC.out _ hw5
  go_wp2_with fail
  refine (lives_any _).mono ?_
  rintro e w9 ⟨rfl, hb9⟩
  have H9 := Lib.hid (bk_chain (bk_tr (bk_alloc H1.out _) (by assumption)) hb9)
  clear hb9
  go_wp2_with fail
  go_ret
  exact ⟨rfl, H9.out⟩
set_option maxRecDepth 100000 in
set_option maxHeartbeats 4000000 in
theorem bans_ft1 (l b t u i f xl xb xt xu A B : Int) (w : World) (ht : ∀ w, Calls Try.prog 17 #[.agg #[.int .i64 l, .int .i64 b, .int .i64 t, .int .i64 u], .int .i64 i, .int .i64 f] w fun e w' => e = .returned (.tuple #[.agg #[.int .i64 xl, .int .i64 xb, .int .i64 xt, .int .i64 xu], .bool false]) ∧ Below w.heap.size w w')
    (hC : ∀ w0, Cx w0 l b t u i xl xb xt xu A B true false false true) (hAB : B ≤ A) (h0 : 0 ≤ xu) (h1 : xu ≤ 4398046511104) (hx : xu < 1099511627776) :
    Calls Try.prog 7 #[.agg #[.int .i64 l, .int .i64 b, .int .i64 t, .int .i64 u], .int .i64 i, .int .i64 f] w fun e w' => e = .returned (.bool true) ∧ Below w.heap.size w w' := by
  have hd : decide (A < B) = false := by simp; omega
  have hn : ¬ A < B := by omega
  have hw : IntKind.i64.wrap (xu - 1) = xu - 1 := IntWalk.i64_in _ (by omega)
  have hxd : decide (xu < 1099511627776) = true := decide_eq_true hx
  have HT := Lib.hid ht
  have HCC := Lib.hid hC
  clear ht hC
  go_enter Try.func7, Try.ntmps7
  go_wp2_with fail
  refine (HT.out _).mono ?_
  rintro e w1 ⟨rfl, hb1⟩
  have H1 := Lib.hid (bk_chain (bk_alloc (BK.refl w) _) hb1)
  have hz : w.heap.size < w1.heap.size := by have := hb1.size; simp at this; omega
  have x1 := (box_new w (.int .i64 l) (.int .i64 b) (.int .i64 t) (.int .i64 u) 26).keep hb1 (by simp)
  have KC := Lib.hid (fun wc (hb : BK (w1.alloc (.cells #[.int .i64 xl, .int .i64 xb, .int .i64 xt, .int .i64 xu] 26)) wc) => And.intro ((x1.keep (bk_alloc (BK.refl w1) _) hz).keep hb (by simp; omega)) ((box_new w1 (.int .i64 xl) (.int .i64 xb) (.int .i64 xt) (.int .i64 xu) 26).keep hb (by simp)))
  have k0 : BK (w1.alloc (.cells #[.int .i64 xl, .int .i64 xb, .int .i64 xt, .int .i64 xu] 26)) (w1.alloc (.cells #[.int .i64 xl, .int .i64 xb, .int .i64 xt, .int .i64 xu] 26)) := BK.refl _
  have C := Lib.hid (HCC.out (w1.alloc (.cells #[.int .i64 xl, .int .i64 xb, .int .i64 xt, .int .i64 xu] 26)))
  clear hb1 x1
  go_wp2_with fail
  refine wp_region_class (C := fun w' => BK (w1.alloc (.cells #[.int .i64 xl, .int .i64 xb, .int .i64 xt, .int .i64 xu] 26)) w') (by kernel_rfl) (by kernel_rfl) (bk_drew k0) ?_
  repeat (first
      | go_big_quiet_step (fail)
      | (refine wpQuiet_step (fun K hK => ?_)
         go_simp
         first
           | (refine hK _ ?_; clear hK K)
           | (refine ⟨_, fun _ _ => rfl, hK _ ?_⟩; clear hK K)
           | (apply Exists.intro; refine ⟨fun w5 hw5 => ?_, hK _ ?_⟩; (go_at_call 13; with_reducible exact C.out.c1 _ hw5); clear hK K)
           | (apply Exists.intro; refine ⟨fun w5 hw5 => ?_, hK _ ?_⟩; (go_at_call 13; with_reducible exact C.out.c2 _ hw5); clear hK K)
           | (apply Exists.intro; refine ⟨fun w5 hw5 => ?_, hK _ ?_⟩; (go_at_call 11; with_reducible exact C.out.c3 _ hw5); clear hK K)
           | (apply Exists.intro; refine ⟨fun w5 hw5 => ?_, hK _ ?_⟩; (go_at_call 11; with_reducible exact C.out.c4 _ hw5); clear hK K)
           | (apply Exists.intro; refine ⟨fun w5 hw5 => ?_, hK _ ?_⟩; (obtain ⟨⟨q0, q1, q2, q3⟩, ⟨p0, p1, p2, p3⟩⟩ := KC.out _ hw5; go_simp; rfl); clear hK K)))
  refine wpQuiet_nil ?_
  intro w5 hw5
  obtain ⟨⟨q0, q1, q2, q3⟩, ⟨p0, p1, p2, p3⟩⟩ := KC.out _ hw5
  go_wp2_with fail
  refine (C.out.c5 _ hw5).mono ?_
  rintro e w6 ⟨rfl, hw6⟩
  clear q0 q1 q2 q3 p0 p1 p2 p3
  obtain ⟨⟨q0, q1, q2, q3⟩, ⟨p0, p1, p2, p3⟩⟩ := KC.out _ hw6
  go_wp2_with fail
  refine (C.out.c6 _ hw6).mono ?_
  rintro e w7 ⟨rfl, hw7⟩
  clear q0 q1 q2 q3 p0 p1 p2 p3
  obtain ⟨⟨q0, q1, q2, q3⟩, ⟨p0, p1, p2, p3⟩⟩ := KC.out _ hw7
  go_wp2_with fail
  refine (C.out.c4 _ hw7).mono ?_
  rintro e w8 ⟨rfl, hw8⟩
  clear q0 q1 q2 q3 p0 p1 p2 p3
  go_wp2_with fail
  refine (lives_any _).mono ?_
  rintro e w9 ⟨rfl, hb9⟩
  have H9 := Lib.hid (bk_chain (bk_tr (bk_alloc H1.out _) (by assumption)) hb9)
  clear hb9
  go_wp2_with fail
  go_ret
  exact ⟨rfl, H9.out⟩
set_option maxRecDepth 100000 in
set_option maxHeartbeats 4000000 in
theorem bans_ft2 (l b t u i f xl xb xt xu A B : Int) (r3 r4 : Bool) (w : World) (ht : ∀ w, Calls Try.prog 17 #[.agg #[.int .i64 l, .int .i64 b, .int .i64 t, .int .i64 u], .int .i64 i, .int .i64 f] w fun e w' => e = .returned (.tuple #[.agg #[.int .i64 xl, .int .i64 xb, .int .i64 xt, .int .i64 xu], .bool false]) ∧ Below w.heap.size w w')
    (hC : ∀ w0, Cx w0 l b t u i xl xb xt xu A B true false r3 r4) (hAB : B ≤ A) (h0 : 0 ≤ xu) (h1 : xu ≤ 4398046511104) (hx : ¬ xu < 1099511627776) :
    Calls Try.prog 7 #[.agg #[.int .i64 l, .int .i64 b, .int .i64 t, .int .i64 u], .int .i64 i, .int .i64 f] w fun e w' => e = .returned (.bool true) ∧ Below w.heap.size w w' := by
  have hd : decide (A < B) = false := by simp; omega
  have hn : ¬ A < B := by omega
  have hw : IntKind.i64.wrap (xu - 1) = xu - 1 := IntWalk.i64_in _ (by omega)
  have hxd : decide (xu < 1099511627776) = false := decide_eq_false hx
  have HT := Lib.hid ht
  have HCC := Lib.hid hC
  clear ht hC
  go_enter Try.func7, Try.ntmps7
  go_wp2_with fail
  refine (HT.out _).mono ?_
  rintro e w1 ⟨rfl, hb1⟩
  have H1 := Lib.hid (bk_chain (bk_alloc (BK.refl w) _) hb1)
  have hz : w.heap.size < w1.heap.size := by have := hb1.size; simp at this; omega
  have x1 := (box_new w (.int .i64 l) (.int .i64 b) (.int .i64 t) (.int .i64 u) 26).keep hb1 (by simp)
  have KC := Lib.hid (fun wc (hb : BK (w1.alloc (.cells #[.int .i64 xl, .int .i64 xb, .int .i64 xt, .int .i64 xu] 26)) wc) => And.intro ((x1.keep (bk_alloc (BK.refl w1) _) hz).keep hb (by simp; omega)) ((box_new w1 (.int .i64 xl) (.int .i64 xb) (.int .i64 xt) (.int .i64 xu) 26).keep hb (by simp)))
  have k0 : BK (w1.alloc (.cells #[.int .i64 xl, .int .i64 xb, .int .i64 xt, .int .i64 xu] 26)) (w1.alloc (.cells #[.int .i64 xl, .int .i64 xb, .int .i64 xt, .int .i64 xu] 26)) := BK.refl _
  have C := Lib.hid (HCC.out (w1.alloc (.cells #[.int .i64 xl, .int .i64 xb, .int .i64 xt, .int .i64 xu] 26)))
  clear hb1 x1
  go_wp2_with fail
  refine wp_region_class (C := fun w' => BK (w1.alloc (.cells #[.int .i64 xl, .int .i64 xb, .int .i64 xt, .int .i64 xu] 26)) w') (by kernel_rfl) (by kernel_rfl) (bk_drew k0) ?_
  repeat (first
      | go_big_quiet_step (fail)
      | (refine wpQuiet_step (fun K hK => ?_)
         go_simp
         first
           | (refine hK _ ?_; clear hK K)
           | (refine ⟨_, fun _ _ => rfl, hK _ ?_⟩; clear hK K)
           | (apply Exists.intro; refine ⟨fun w5 hw5 => ?_, hK _ ?_⟩; (go_at_call 13; with_reducible exact C.out.c1 _ hw5); clear hK K)
           | (apply Exists.intro; refine ⟨fun w5 hw5 => ?_, hK _ ?_⟩; (go_at_call 13; with_reducible exact C.out.c2 _ hw5); clear hK K)
           | (apply Exists.intro; refine ⟨fun w5 hw5 => ?_, hK _ ?_⟩; (go_at_call 11; with_reducible exact C.out.c3 _ hw5); clear hK K)
           | (apply Exists.intro; refine ⟨fun w5 hw5 => ?_, hK _ ?_⟩; (go_at_call 11; with_reducible exact C.out.c4 _ hw5); clear hK K)
           | (apply Exists.intro; refine ⟨fun w5 hw5 => ?_, hK _ ?_⟩; (obtain ⟨⟨q0, q1, q2, q3⟩, ⟨p0, p1, p2, p3⟩⟩ := KC.out _ hw5; go_simp; rfl); clear hK K)))
  refine wpQuiet_nil ?_
  intro w5 hw5
  obtain ⟨⟨q0, q1, q2, q3⟩, ⟨p0, p1, p2, p3⟩⟩ := KC.out _ hw5
  go_wp2_with fail
  refine (lives_any _).mono ?_
  rintro e w9 ⟨rfl, hb9⟩
  have H9 := Lib.hid (bk_chain (bk_tr (bk_alloc H1.out _) (by assumption)) hb9)
  clear hb9
  go_wp2_with fail
  go_ret
  exact ⟨rfl, H9.out⟩
set_option maxRecDepth 100000 in
set_option maxHeartbeats 4000000 in
theorem bans_ff1 (l b t u i f xl xb xt xu A B : Int) (w : World) (ht : ∀ w, Calls Try.prog 17 #[.agg #[.int .i64 l, .int .i64 b, .int .i64 t, .int .i64 u], .int .i64 i, .int .i64 f] w fun e w' => e = .returned (.tuple #[.agg #[.int .i64 xl, .int .i64 xb, .int .i64 xt, .int .i64 xu], .bool false]) ∧ Below w.heap.size w w')
    (hC : ∀ w0, Cx w0 l b t u i xl xb xt xu A B false false false true) (hAB : B ≤ A) (h0 : 0 ≤ xu) (h1 : xu ≤ 4398046511104) (hx : xu < 1099511627776) :
    Calls Try.prog 7 #[.agg #[.int .i64 l, .int .i64 b, .int .i64 t, .int .i64 u], .int .i64 i, .int .i64 f] w fun e w' => e = .returned (.bool true) ∧ Below w.heap.size w w' := by
  have hd : decide (A < B) = false := by simp; omega
  have hn : ¬ A < B := by omega
  have hw : IntKind.i64.wrap (xu - 1) = xu - 1 := IntWalk.i64_in _ (by omega)
  have hxd : decide (xu < 1099511627776) = true := decide_eq_true hx
  have HT := Lib.hid ht
  have HCC := Lib.hid hC
  clear ht hC
  go_enter Try.func7, Try.ntmps7
  go_wp2_with fail
  refine (HT.out _).mono ?_
  rintro e w1 ⟨rfl, hb1⟩
  have H1 := Lib.hid (bk_chain (bk_alloc (BK.refl w) _) hb1)
  have hz : w.heap.size < w1.heap.size := by have := hb1.size; simp at this; omega
  have x1 := (box_new w (.int .i64 l) (.int .i64 b) (.int .i64 t) (.int .i64 u) 26).keep hb1 (by simp)
  have KC := Lib.hid (fun wc (hb : BK (w1.alloc (.cells #[.int .i64 xl, .int .i64 xb, .int .i64 xt, .int .i64 xu] 26)) wc) => And.intro ((x1.keep (bk_alloc (BK.refl w1) _) hz).keep hb (by simp; omega)) ((box_new w1 (.int .i64 xl) (.int .i64 xb) (.int .i64 xt) (.int .i64 xu) 26).keep hb (by simp)))
  have k0 : BK (w1.alloc (.cells #[.int .i64 xl, .int .i64 xb, .int .i64 xt, .int .i64 xu] 26)) (w1.alloc (.cells #[.int .i64 xl, .int .i64 xb, .int .i64 xt, .int .i64 xu] 26)) := BK.refl _
  have C := Lib.hid (HCC.out (w1.alloc (.cells #[.int .i64 xl, .int .i64 xb, .int .i64 xt, .int .i64 xu] 26)))
  clear hb1 x1
  go_wp2_with fail
  refine wp_region_class (C := fun w' => BK (w1.alloc (.cells #[.int .i64 xl, .int .i64 xb, .int .i64 xt, .int .i64 xu] 26)) w') (by kernel_rfl) (by kernel_rfl) (bk_drew k0) ?_
  repeat (first
      | go_big_quiet_step (fail)
      | (refine wpQuiet_step (fun K hK => ?_)
         go_simp
         first
           | (refine hK _ ?_; clear hK K)
           | (refine ⟨_, fun _ _ => rfl, hK _ ?_⟩; clear hK K)
           | (apply Exists.intro; refine ⟨fun w5 hw5 => ?_, hK _ ?_⟩; (go_at_call 13; with_reducible exact C.out.c1 _ hw5); clear hK K)
           | (apply Exists.intro; refine ⟨fun w5 hw5 => ?_, hK _ ?_⟩; (go_at_call 13; with_reducible exact C.out.c2 _ hw5); clear hK K)
           | (apply Exists.intro; refine ⟨fun w5 hw5 => ?_, hK _ ?_⟩; (go_at_call 11; with_reducible exact C.out.c3 _ hw5); clear hK K)
           | (apply Exists.intro; refine ⟨fun w5 hw5 => ?_, hK _ ?_⟩; (go_at_call 11; with_reducible exact C.out.c4 _ hw5); clear hK K)
           | (apply Exists.intro; refine ⟨fun w5 hw5 => ?_, hK _ ?_⟩; (obtain ⟨⟨q0, q1, q2, q3⟩, ⟨p0, p1, p2, p3⟩⟩ := KC.out _ hw5; go_simp; rfl); clear hK K)))
  refine wpQuiet_nil ?_
  intro w5 hw5
  obtain ⟨⟨q0, q1, q2, q3⟩, ⟨p0, p1, p2, p3⟩⟩ := KC.out _ hw5
  go_wp2_with fail
  refine (C.out.c5 _ hw5).mono ?_
  rintro e w6 ⟨rfl, hw6⟩
  clear q0 q1 q2 q3 p0 p1 p2 p3
  obtain ⟨⟨q0, q1, q2, q3⟩, ⟨p0, p1, p2, p3⟩⟩ := KC.out _ hw6
  go_wp2_with fail
  refine (C.out.c6 _ hw6).mono ?_
  rintro e w7 ⟨rfl, hw7⟩
  clear q0 q1 q2 q3 p0 p1 p2 p3
  obtain ⟨⟨q0, q1, q2, q3⟩, ⟨p0, p1, p2, p3⟩⟩ := KC.out _ hw7
  go_wp2_with fail
  refine (C.out.c4 _ hw7).mono ?_
  rintro e w8 ⟨rfl, hw8⟩
  clear q0 q1 q2 q3 p0 p1 p2 p3
  go_wp2_with fail
  refine (lives_any _).mono ?_
  rintro e w9 ⟨rfl, hb9⟩
  have H9 := Lib.hid (bk_chain (bk_tr (bk_alloc H1.out _) (by assumption)) hb9)
  clear hb9
  go_wp2_with fail
  go_ret
  exact ⟨rfl, H9.out⟩
set_option maxRecDepth 100000 in
set_option maxHeartbeats 4000000 in
theorem bans_ff2 (l b t u i f xl xb xt xu A B : Int) (r3 r4 : Bool) (w : World) (ht : ∀ w, Calls Try.prog 17 #[.agg #[.int .i64 l, .int .i64 b, .int .i64 t, .int .i64 u], .int .i64 i, .int .i64 f] w fun e w' => e = .returned (.tuple #[.agg #[.int .i64 xl, .int .i64 xb, .int .i64 xt, .int .i64 xu], .bool false]) ∧ Below w.heap.size w w')
    (hC : ∀ w0, Cx w0 l b t u i xl xb xt xu A B false false r3 r4) (hAB : B ≤ A) (h0 : 0 ≤ xu) (h1 : xu ≤ 4398046511104) (hx : ¬ xu < 1099511627776) :
    Calls Try.prog 7 #[.agg #[.int .i64 l, .int .i64 b, .int .i64 t, .int .i64 u], .int .i64 i, .int .i64 f] w fun e w' => e = .returned (.bool true) ∧ Below w.heap.size w w' := by
  have hd : decide (A < B) = false := by simp; omega
  have hn : ¬ A < B := by omega
  have hw : IntKind.i64.wrap (xu - 1) = xu - 1 := IntWalk.i64_in _ (by omega)
  have hxd : decide (xu < 1099511627776) = false := decide_eq_false hx
  have HT := Lib.hid ht
  have HCC := Lib.hid hC
  clear ht hC
  go_enter Try.func7, Try.ntmps7
  go_wp2_with fail
  refine (HT.out _).mono ?_
  rintro e w1 ⟨rfl, hb1⟩
  have H1 := Lib.hid (bk_chain (bk_alloc (BK.refl w) _) hb1)
  have hz : w.heap.size < w1.heap.size := by have := hb1.size; simp at this; omega
  have x1 := (box_new w (.int .i64 l) (.int .i64 b) (.int .i64 t) (.int .i64 u) 26).keep hb1 (by simp)
  have KC := Lib.hid (fun wc (hb : BK (w1.alloc (.cells #[.int .i64 xl, .int .i64 xb, .int .i64 xt, .int .i64 xu] 26)) wc) => And.intro ((x1.keep (bk_alloc (BK.refl w1) _) hz).keep hb (by simp; omega)) ((box_new w1 (.int .i64 xl) (.int .i64 xb) (.int .i64 xt) (.int .i64 xu) 26).keep hb (by simp)))
  have k0 : BK (w1.alloc (.cells #[.int .i64 xl, .int .i64 xb, .int .i64 xt, .int .i64 xu] 26)) (w1.alloc (.cells #[.int .i64 xl, .int .i64 xb, .int .i64 xt, .int .i64 xu] 26)) := BK.refl _
  have C := Lib.hid (HCC.out (w1.alloc (.cells #[.int .i64 xl, .int .i64 xb, .int .i64 xt, .int .i64 xu] 26)))
  clear hb1 x1
  go_wp2_with fail
  refine wp_region_class (C := fun w' => BK (w1.alloc (.cells #[.int .i64 xl, .int .i64 xb, .int .i64 xt, .int .i64 xu] 26)) w') (by kernel_rfl) (by kernel_rfl) (bk_drew k0) ?_
  repeat (first
      | go_big_quiet_step (fail)
      | (refine wpQuiet_step (fun K hK => ?_)
         go_simp
         first
           | (refine hK _ ?_; clear hK K)
           | (refine ⟨_, fun _ _ => rfl, hK _ ?_⟩; clear hK K)
           | (apply Exists.intro; refine ⟨fun w5 hw5 => ?_, hK _ ?_⟩; (go_at_call 13; with_reducible exact C.out.c1 _ hw5); clear hK K)
           | (apply Exists.intro; refine ⟨fun w5 hw5 => ?_, hK _ ?_⟩; (go_at_call 13; with_reducible exact C.out.c2 _ hw5); clear hK K)
           | (apply Exists.intro; refine ⟨fun w5 hw5 => ?_, hK _ ?_⟩; (go_at_call 11; with_reducible exact C.out.c3 _ hw5); clear hK K)
           | (apply Exists.intro; refine ⟨fun w5 hw5 => ?_, hK _ ?_⟩; (go_at_call 11; with_reducible exact C.out.c4 _ hw5); clear hK K)
           | (apply Exists.intro; refine ⟨fun w5 hw5 => ?_, hK _ ?_⟩; (obtain ⟨⟨q0, q1, q2, q3⟩, ⟨p0, p1, p2, p3⟩⟩ := KC.out _ hw5; go_simp; rfl); clear hK K)))
  refine wpQuiet_nil ?_
  intro w5 hw5
  obtain ⟨⟨q0, q1, q2, q3⟩, ⟨p0, p1, p2, p3⟩⟩ := KC.out _ hw5
  go_wp2_with fail
  refine (lives_any _).mono ?_
  rintro e w9 ⟨rfl, hb9⟩
  have H9 := Lib.hid (bk_chain (bk_tr (bk_alloc H1.out _) (by assumption)) hb9)
  clear hb9
  go_wp2_with fail
  go_ret
  exact ⟨rfl, H9.out⟩
theorem law7 (l b t u i f : Int) (w : World) : Calls Try.prog 7 #[.agg #[.int .i64 l, .int .i64 b, .int .i64 t, .int .i64 u], .int .i64 i, .int .i64 f] w fun e w' => e = .returned (.bool true) ∧ Below w.heap.size w w' := by
  cases hk : tkB l t f
  · have ht := fun w => take_no l b t u i f w hk
    have hc := fun w0 => cx_mk w0 l b t u i (nL l) (nL b) (tT t) (tU b t i)
    have hb := tU_b b t i
    have hm := th_mono l t f
    rw [rd_3] at hc
    by_cases hx : tU b t i < 1099511627776
    · rw [rd_1 b t i hx, rd_2 b t i hx] at hc
      cases hr : rdB u i
      · rw [hr] at hc; exact bans_ff1 l b t u i f _ _ _ _ _ _ w ht hc hm (by omega) (by omega) hx
      · rw [hr] at hc; exact bans_ft1 l b t u i f _ _ _ _ _ _ w ht hc hm (by omega) (by omega) hx
    · cases hr : rdB u i
      · rw [hr] at hc; exact bans_ff2 l b t u i f _ _ _ _ _ _ _ _ w ht hc hm (by omega) (by omega) hx
      · rw [hr] at hc; exact bans_ft2 l b t u i f _ _ _ _ _ _ _ _ w ht hc hm (by omega) (by omega) hx
  · have ht := fun w => take_yes l b t u i f w hk
    have hc := fun w0 => cx_mk w0 l b t u i (nL l) (nL b) (nT t) (nU u)
    have hu : 0 ≤ nU u ∧ nU u ≤ 4398046511104 := by unfold nU cl; omega
    have hm : th l t ≤ th (nL l) (nT t) := by rw [th_n]; exact Int.le_refl _
    rw [rd_nU] at hc
    cases hr : rdB u i
    · rw [hr] at hc; exact bans_tf l b t u i f _ _ _ _ _ _ _ _ w ht hc hm (by omega) (by omega)
    · rw [hr] at hc; exact bans_tt l b t u i f _ _ _ _ _ _ _ _ w ht hc hm (by omega) (by omega)
end Go.Proofs.Ytbpmkbnldoeffaa
