/- An instruction checked: the rest. -/
import Derived.Test.YtneidfbgdgegjaaGreatDoorLH
namespace Go.Proofs.YtneidfbgdgegjaaGreatDoor
open Go.RowKit
set_option linter.unusedVariables false
set_option linter.unusedSimpArgs false
theorem mask96' (W : Int) (h1 : 1 ≤ W) (h2 : W ≤ 64) (w : World) : Calls Tryz.prog 64 #[.int .i64 W] w fun e w' => e = .returned (.int .u64 (maskI W)) ∧ w' = w := (mask96 W h1 h2 w).mono fun _ _ ⟨a, b⟩ => ⟨a, b.symm⟩
set_option maxRecDepth 100000 in
set_option maxHeartbeats 1000000 in
theorem ci_gt (W R : Int) (p q : Option Addr) (n pc m qc : Nat) (i : I6) (w : World) (hv : opB i.op = true) (hd : dfB i.op = true) (hm : missB R i.dst = false) (ha : anyMiss R (usesL i) = false) (h1 : i.op = 1) (w1 : 1 ≤ W) (w2 : W ≤ 64) (hg : maskI W < i.imm) : Calls Tryz.prog 41 #[.agg #[.int .i64 W, .int .i64 R, .slice p n pc, .slice q m qc], .agg #[.int .i64 i.op, .int .i64 i.dst, .int .i64 i.a, .int .i64 i.b, .int .i64 i.c, .int .u64 i.imm]] w fun e w' => e = .returned (.int .i64 2) ∧ BK w w' := by
  have hx := bx_new w W R p q n pc m qc i
  have H := Lib.hid (op87 i.op)
  rw [hv] at H
  have D := Lib.hid (df59 i.op)
  rw [hd] at D
  have HM := Lib.hid hm
  have HA := Lib.hid ha
  have HL := Lib.hid (show (usesL i).length ≤ 1000 from by have := usesL_len i; omega)
  have h1' : (i.op == 1) = true := by simpa using h1
  have HMk := Lib.hid (mask96' W w1 w2)
  generalize maskI W = mk at HMk hg
  have hg' : decide (mk < i.imm) = true := by simpa using hg
  clear hv hd h1 ha hm hg
  go_enter Tryz.func41, Tryz.ntmps41
  go_wp2_with fail
  generalize (w.alloc (.cells #[.int .i64 W, .int .i64 R, .slice p n pc, .slice q m qc] 34)).alloc (.cells #[.int .i64 i.op, .int .i64 i.dst, .int .i64 i.a, .int .i64 i.b, .int .i64 i.c, .int .u64 i.imm] 42) = w0 at hx ⊢
  have HC := Lib.hid (fun wc (hb : BK w0 wc) => hx.c.keep hb)
  have HX := Lib.hid (fun wc (hb : BK w0 wc) => hx.i.keep hb)
  have HK := Lib.hid hx.k
  obtain ⟨y0, y1, y2, y3, y4, y5⟩ := HX.out _ (BK.refl w0)
  clear hx
  refine (H.out _).mono ?_
  rintro e w' ⟨rfl, rfl⟩
  go_wp2_with (first | (go_at_call 63; refine (any95 W R p q n pc m qc w.heap.size (usesL i) s sc w2 (HC.out _ K2.out) HR.out HL.out).mono ?_; rw [HA.out]; rintro e w3 ⟨rfl, hb⟩; have K3 := Lib.hid (bk_tr K2.out hb); obtain ⟨t0, t1, t2, t3, t4, t5⟩ := HX.out _ K3.out; obtain ⟨u0, u1, u2, u3⟩ := HC.out _ K3.out; clear hb) | (go_at_call 30; refine (uses58 i w1).mono ?_; rintro e w2 ⟨s, sc, rfl, hr, hb⟩; have HR := Lib.hid hr; have K2 := Lib.hid (bk_tr K1.out hb); clear hr hb) | (go_at_call 61; refine (miss93 W R i.dst p q n pc m qc w.heap.size w0 (HC.out _ (BK.refl w0))).mono ?_; rw [HM.out]; rintro e w1 ⟨rfl, hb⟩; have K1 := Lib.hid hb; obtain ⟨z0, z1, z2, z3, z4, z5⟩ := HX.out _ hb; clear hb) | (go_at_call 40; refine (D.out _).mono ?_; rintro e w' ⟨rfl, rfl⟩))
  go_quiet ((go_at_call 64; exact Calls.quiet_of_same (HMk.out _)))
  go_wp2_with fail
  go_ret
  exact ⟨rfl, bk_tr HK.out (bk_drewN K3.out _)⟩
set_option maxRecDepth 100000 in
set_option maxHeartbeats 1000000 in
theorem ci_one_t (W R : Int) (p q : Option Addr) (n pc m qc : Nat) (i : I6) (w : World) (hv : opB i.op = true) (hd : dfB i.op = true) (hm : missB R i.dst = false) (ha : anyMiss R (usesL i) = false) (h1 : i.op = 1) (w1 : 1 ≤ W) (w2 : W ≤ 64) (hg : i.imm ≤ maskI W) (hj : neB i (clr i) = true) : Calls Tryz.prog 41 #[.agg #[.int .i64 W, .int .i64 R, .slice p n pc, .slice q m qc], .agg #[.int .i64 i.op, .int .i64 i.dst, .int .i64 i.a, .int .i64 i.b, .int .i64 i.c, .int .u64 i.imm]] w fun e w' => e = .returned (.int .i64 19) ∧ BK w w' := by
  have hx := bx_new w W R p q n pc m qc i
  have H := Lib.hid (op87 i.op)
  rw [hv] at H
  have D := Lib.hid (df59 i.op)
  rw [hd] at D
  have HM := Lib.hid hm
  have HA := Lib.hid ha
  have HL := Lib.hid (show (usesL i).length ≤ 1000 from by have := usesL_len i; omega)
  have hne := hj
  have C97 := fun (wa wc : World) (hb : BK wa wc) => (clr97 i wc hv).mono (R' := fun e w' => e = .returned (.agg #[.int .i64 (clr i).op, .int .i64 (clr i).dst, .int .i64 (clr i).a, .int .i64 (clr i).b, .int .i64 (clr i).c, .int .u64 (clr i).imm]) ∧ BK wa w') fun e w' ⟨a, b⟩ => ⟨a, bk_tr hb b⟩
  clear hj
  generalize clr i = j at hne C97
  have NE := Lib.hid hne
  have C97 := Lib.hid C97
  clear hne
  have h1' : (i.op == 1) = true := by simpa using h1
  have HMk := Lib.hid (mask96' W w1 w2)
  generalize maskI W = mk at HMk hg
  have hg' : decide (mk < i.imm) = false := by simpa using hg
  clear hv hd h1 ha hm hg
  go_enter Tryz.func41, Tryz.ntmps41
  go_wp2_with fail
  generalize (w.alloc (.cells #[.int .i64 W, .int .i64 R, .slice p n pc, .slice q m qc] 34)).alloc (.cells #[.int .i64 i.op, .int .i64 i.dst, .int .i64 i.a, .int .i64 i.b, .int .i64 i.c, .int .u64 i.imm] 42) = w0 at hx ⊢
  have HC := Lib.hid (fun wc (hb : BK w0 wc) => hx.c.keep hb)
  have HX := Lib.hid (fun wc (hb : BK w0 wc) => hx.i.keep hb)
  have HK := Lib.hid hx.k
  obtain ⟨y0, y1, y2, y3, y4, y5⟩ := HX.out _ (BK.refl w0)
  clear hx
  refine (H.out _).mono ?_
  rintro e w' ⟨rfl, rfl⟩
  go_wp2_with (first | (go_at_call 63; refine (any95 W R p q n pc m qc w.heap.size (usesL i) s sc w2 (HC.out _ K2.out) HR.out HL.out).mono ?_; rw [HA.out]; rintro e w3 ⟨rfl, hb⟩; have K3 := Lib.hid (bk_tr K2.out hb); obtain ⟨t0, t1, t2, t3, t4, t5⟩ := HX.out _ K3.out; obtain ⟨u0, u1, u2, u3⟩ := HC.out _ K3.out; clear hb) | (go_at_call 30; refine (uses58 i w1).mono ?_; rintro e w2 ⟨s, sc, rfl, hr, hb⟩; have HR := Lib.hid hr; have K2 := Lib.hid (bk_tr K1.out hb); clear hr hb) | (go_at_call 61; refine (miss93 W R i.dst p q n pc m qc w.heap.size w0 (HC.out _ (BK.refl w0))).mono ?_; rw [HM.out]; rintro e w1 ⟨rfl, hb⟩; have K1 := Lib.hid hb; obtain ⟨z0, z1, z2, z3, z4, z5⟩ := HX.out _ hb; clear hb) | (go_at_call 40; refine (D.out _).mono ?_; rintro e w' ⟨rfl, rfl⟩))
  go_quiet ((go_at_call 64; exact Calls.quiet_of_same (HMk.out _)))
  go_wp2_with fail
  refine wp_region_class (C := fun w' => BK w3 w') (by kernel_rfl) (by kernel_rfl) (bk_drew (bk_drewN (BK.refl _) _)) ?_
  repeat (first
      | go_big_quiet_step (fail)
      | (refine wpQuiet_step (fun K hK => ?_)
         go_simp
         first
           | (refine hK _ ?_; clear hK K)
           | (refine ⟨_, fun _ _ => rfl, hK _ ?_⟩; clear hK K)
           | (apply Exists.intro; refine ⟨fun w5 hw5 => ?_, hK _ ?_⟩; (go_at_call 65; with_reducible exact C97.out _ _ hw5); clear hK K)
           | (apply Exists.intro; refine ⟨fun w5 hw5 => ?_, hK _ ?_⟩; (obtain ⟨q0, q1, q2, q3, q4, q5⟩ := HX.out _ (bk_tr K3.out hw5); go_simp; rfl); clear hK K)
           | (apply Exists.intro; refine ⟨fun w5 hw5 => ?_, hK _ ?_⟩; (rw [ne_ifs, NE.out]; exact ⟨rfl, rfl⟩); clear hK K)))
  refine wpQuiet_nil ?_
  intro w5 hw5
  have H5 := Lib.hid (bk_tr K3.out hw5)
  clear hw5
  go_wp2_with fail
  go_ret
  exact ⟨rfl, bk_tr HK.out H5.out⟩
set_option maxRecDepth 100000 in
set_option maxHeartbeats 1000000 in
theorem ci_df_t (W R : Int) (p q : Option Addr) (n pc m qc : Nat) (i : I6) (w : World) (hv : opB i.op = true) (hd : dfB i.op = true) (hm : missB R i.dst = false) (ha : anyMiss R (usesL i) = false) (h1 : i.op ≠ 1) (hj : neB i (clr i) = true) : Calls Tryz.prog 41 #[.agg #[.int .i64 W, .int .i64 R, .slice p n pc, .slice q m qc], .agg #[.int .i64 i.op, .int .i64 i.dst, .int .i64 i.a, .int .i64 i.b, .int .i64 i.c, .int .u64 i.imm]] w fun e w' => e = .returned (.int .i64 19) ∧ BK w w' := by
  have hx := bx_new w W R p q n pc m qc i
  have H := Lib.hid (op87 i.op)
  rw [hv] at H
  have D := Lib.hid (df59 i.op)
  rw [hd] at D
  have HM := Lib.hid hm
  have HA := Lib.hid ha
  have HL := Lib.hid (show (usesL i).length ≤ 1000 from by have := usesL_len i; omega)
  have hne := hj
  have C97 := fun (wa wc : World) (hb : BK wa wc) => (clr97 i wc hv).mono (R' := fun e w' => e = .returned (.agg #[.int .i64 (clr i).op, .int .i64 (clr i).dst, .int .i64 (clr i).a, .int .i64 (clr i).b, .int .i64 (clr i).c, .int .u64 (clr i).imm]) ∧ BK wa w') fun e w' ⟨a, b⟩ => ⟨a, bk_tr hb b⟩
  clear hj
  generalize clr i = j at hne C97
  have NE := Lib.hid hne
  have C97 := Lib.hid C97
  clear hne
  have h1' : (i.op == 1) = false := by simpa using h1
  clear hv hd h1 ha hm
  go_enter Tryz.func41, Tryz.ntmps41
  go_wp2_with fail
  generalize (w.alloc (.cells #[.int .i64 W, .int .i64 R, .slice p n pc, .slice q m qc] 34)).alloc (.cells #[.int .i64 i.op, .int .i64 i.dst, .int .i64 i.a, .int .i64 i.b, .int .i64 i.c, .int .u64 i.imm] 42) = w0 at hx ⊢
  have HC := Lib.hid (fun wc (hb : BK w0 wc) => hx.c.keep hb)
  have HX := Lib.hid (fun wc (hb : BK w0 wc) => hx.i.keep hb)
  have HK := Lib.hid hx.k
  obtain ⟨y0, y1, y2, y3, y4, y5⟩ := HX.out _ (BK.refl w0)
  clear hx
  refine (H.out _).mono ?_
  rintro e w' ⟨rfl, rfl⟩
  go_wp2_with (first | (go_at_call 63; refine (any95 W R p q n pc m qc w.heap.size (usesL i) s sc w2 (HC.out _ K2.out) HR.out HL.out).mono ?_; rw [HA.out]; rintro e w3 ⟨rfl, hb⟩; have K3 := Lib.hid (bk_tr K2.out hb); obtain ⟨t0, t1, t2, t3, t4, t5⟩ := HX.out _ K3.out; obtain ⟨u0, u1, u2, u3⟩ := HC.out _ K3.out; clear hb) | (go_at_call 30; refine (uses58 i w1).mono ?_; rintro e w2 ⟨s, sc, rfl, hr, hb⟩; have HR := Lib.hid hr; have K2 := Lib.hid (bk_tr K1.out hb); clear hr hb) | (go_at_call 61; refine (miss93 W R i.dst p q n pc m qc w.heap.size w0 (HC.out _ (BK.refl w0))).mono ?_; rw [HM.out]; rintro e w1 ⟨rfl, hb⟩; have K1 := Lib.hid hb; obtain ⟨z0, z1, z2, z3, z4, z5⟩ := HX.out _ hb; clear hb) | (go_at_call 40; refine (D.out _).mono ?_; rintro e w' ⟨rfl, rfl⟩))
  go_quiet (fail)
  go_wp2_with fail
  refine wp_region_class (C := fun w' => BK w3 w') (by kernel_rfl) (by kernel_rfl) (bk_drew (bk_drewN (BK.refl _) _)) ?_
  repeat (first
      | go_big_quiet_step (fail)
      | (refine wpQuiet_step (fun K hK => ?_)
         go_simp
         first
           | (refine hK _ ?_; clear hK K)
           | (refine ⟨_, fun _ _ => rfl, hK _ ?_⟩; clear hK K)
           | (apply Exists.intro; refine ⟨fun w5 hw5 => ?_, hK _ ?_⟩; (go_at_call 65; with_reducible exact C97.out _ _ hw5); clear hK K)
           | (apply Exists.intro; refine ⟨fun w5 hw5 => ?_, hK _ ?_⟩; (obtain ⟨q0, q1, q2, q3, q4, q5⟩ := HX.out _ (bk_tr K3.out hw5); go_simp; rfl); clear hK K)
           | (apply Exists.intro; refine ⟨fun w5 hw5 => ?_, hK _ ?_⟩; (rw [ne_ifs, NE.out]; exact ⟨rfl, rfl⟩); clear hK K)))
  refine wpQuiet_nil ?_
  intro w5 hw5
  have H5 := Lib.hid (bk_tr K3.out hw5)
  clear hw5
  go_wp2_with fail
  go_ret
  exact ⟨rfl, bk_tr HK.out H5.out⟩
set_option maxRecDepth 100000 in
set_option maxHeartbeats 1000000 in
theorem ci_nop_t (W R : Int) (p q : Option Addr) (n pc m qc : Nat) (i : I6) (w : World) (hv : opB i.op = true) (hd : dfB i.op = false) (ha : anyMiss R (usesL i) = false) (h1 : i.op ≠ 1) (hj : neB i (clr i) = true) : Calls Tryz.prog 41 #[.agg #[.int .i64 W, .int .i64 R, .slice p n pc, .slice q m qc], .agg #[.int .i64 i.op, .int .i64 i.dst, .int .i64 i.a, .int .i64 i.b, .int .i64 i.c, .int .u64 i.imm]] w fun e w' => e = .returned (.int .i64 19) ∧ BK w w' := by
  have hx := bx_new w W R p q n pc m qc i
  have H := Lib.hid (op87 i.op)
  rw [hv] at H
  have D := Lib.hid (df59 i.op)
  rw [hd] at D
  have HA := Lib.hid ha
  have HL := Lib.hid (show (usesL i).length ≤ 1000 from by have := usesL_len i; omega)
  have hne := hj
  have C97 := fun (wa wc : World) (hb : BK wa wc) => (clr97 i wc hv).mono (R' := fun e w' => e = .returned (.agg #[.int .i64 (clr i).op, .int .i64 (clr i).dst, .int .i64 (clr i).a, .int .i64 (clr i).b, .int .i64 (clr i).c, .int .u64 (clr i).imm]) ∧ BK wa w') fun e w' ⟨a, b⟩ => ⟨a, bk_tr hb b⟩
  clear hj
  generalize clr i = j at hne C97
  have NE := Lib.hid hne
  have C97 := Lib.hid C97
  clear hne
  have h1' : (i.op == 1) = false := by simpa using h1
  clear hv hd h1 ha
  go_enter Tryz.func41, Tryz.ntmps41
  go_wp2_with fail
  generalize (w.alloc (.cells #[.int .i64 W, .int .i64 R, .slice p n pc, .slice q m qc] 34)).alloc (.cells #[.int .i64 i.op, .int .i64 i.dst, .int .i64 i.a, .int .i64 i.b, .int .i64 i.c, .int .u64 i.imm] 42) = w0 at hx ⊢
  have HC := Lib.hid (fun wc (hb : BK w0 wc) => hx.c.keep hb)
  have HX := Lib.hid (fun wc (hb : BK w0 wc) => hx.i.keep hb)
  have HK := Lib.hid hx.k
  obtain ⟨y0, y1, y2, y3, y4, y5⟩ := HX.out _ (BK.refl w0)
  clear hx
  refine (H.out _).mono ?_
  rintro e w' ⟨rfl, rfl⟩
  go_wp2_with (first | (go_at_call 63; refine (any95 W R p q n pc m qc w.heap.size (usesL i) s sc w2 (HC.out _ K2.out) HR.out HL.out).mono ?_; rw [HA.out]; rintro e w3 ⟨rfl, hb⟩; have K3 := Lib.hid (bk_tr K2.out hb); obtain ⟨t0, t1, t2, t3, t4, t5⟩ := HX.out _ K3.out; obtain ⟨u0, u1, u2, u3⟩ := HC.out _ K3.out; clear hb) | (go_at_call 30; refine (uses58 i w0).mono ?_; rintro e w2 ⟨s, sc, rfl, hr, hb⟩; have HR := Lib.hid hr; have K2 := Lib.hid (bk_tr (BK.refl w0) hb); clear hr hb) | (go_at_call 40; refine (D.out _).mono ?_; rintro e w' ⟨rfl, rfl⟩))
  go_quiet (fail)
  go_wp2_with fail
  refine wp_region_class (C := fun w' => BK w3 w') (by kernel_rfl) (by kernel_rfl) (bk_drew (bk_drewN (BK.refl _) _)) ?_
  repeat (first
      | go_big_quiet_step (fail)
      | (refine wpQuiet_step (fun K hK => ?_)
         go_simp
         first
           | (refine hK _ ?_; clear hK K)
           | (refine ⟨_, fun _ _ => rfl, hK _ ?_⟩; clear hK K)
           | (apply Exists.intro; refine ⟨fun w5 hw5 => ?_, hK _ ?_⟩; (go_at_call 65; with_reducible exact C97.out _ _ hw5); clear hK K)
           | (apply Exists.intro; refine ⟨fun w5 hw5 => ?_, hK _ ?_⟩; (obtain ⟨q0, q1, q2, q3, q4, q5⟩ := HX.out _ (bk_tr K3.out hw5); go_simp; rfl); clear hK K)
           | (apply Exists.intro; refine ⟨fun w5 hw5 => ?_, hK _ ?_⟩; (rw [ne_ifs, NE.out]; exact ⟨rfl, rfl⟩); clear hK K)))
  refine wpQuiet_nil ?_
  intro w5 hw5
  have H5 := Lib.hid (bk_tr K3.out hw5)
  clear hw5
  go_wp2_with fail
  go_ret
  exact ⟨rfl, bk_tr HK.out H5.out⟩
set_option maxRecDepth 100000 in
set_option maxHeartbeats 1000000 in
theorem ci_one_f (W R : Int) (p q : Option Addr) (n pc m qc : Nat) (i : I6) (w : World) (hv : opB i.op = true) (hd : dfB i.op = true) (hm : missB R i.dst = false) (ha : anyMiss R (usesL i) = false) (h1 : i.op = 1) (w1 : 1 ≤ W) (w2 : W ≤ 64) (hg : i.imm ≤ maskI W) (hj : neB i (clr i) = false) : Calls Tryz.prog 41 #[.agg #[.int .i64 W, .int .i64 R, .slice p n pc, .slice q m qc], .agg #[.int .i64 i.op, .int .i64 i.dst, .int .i64 i.a, .int .i64 i.b, .int .i64 i.c, .int .u64 i.imm]] w fun e w' => e = .returned (.int .i64 0) ∧ BK w w' := by
  have hx := bx_new w W R p q n pc m qc i
  have H := Lib.hid (op87 i.op)
  rw [hv] at H
  have D := Lib.hid (df59 i.op)
  rw [hd] at D
  have HM := Lib.hid hm
  have HA := Lib.hid ha
  have HL := Lib.hid (show (usesL i).length ≤ 1000 from by have := usesL_len i; omega)
  have hne := hj
  have C97 := fun (wa wc : World) (hb : BK wa wc) => (clr97 i wc hv).mono (R' := fun e w' => e = .returned (.agg #[.int .i64 (clr i).op, .int .i64 (clr i).dst, .int .i64 (clr i).a, .int .i64 (clr i).b, .int .i64 (clr i).c, .int .u64 (clr i).imm]) ∧ BK wa w') fun e w' ⟨a, b⟩ => ⟨a, bk_tr hb b⟩
  clear hj
  generalize clr i = j at hne C97
  have NE := Lib.hid hne
  have C97 := Lib.hid C97
  clear hne
  have h1' : (i.op == 1) = true := by simpa using h1
  have HMk := Lib.hid (mask96' W w1 w2)
  generalize maskI W = mk at HMk hg
  have hg' : decide (mk < i.imm) = false := by simpa using hg
  clear hv hd h1 ha hm hg
  go_enter Tryz.func41, Tryz.ntmps41
  go_wp2_with fail
  generalize (w.alloc (.cells #[.int .i64 W, .int .i64 R, .slice p n pc, .slice q m qc] 34)).alloc (.cells #[.int .i64 i.op, .int .i64 i.dst, .int .i64 i.a, .int .i64 i.b, .int .i64 i.c, .int .u64 i.imm] 42) = w0 at hx ⊢
  have HC := Lib.hid (fun wc (hb : BK w0 wc) => hx.c.keep hb)
  have HX := Lib.hid (fun wc (hb : BK w0 wc) => hx.i.keep hb)
  have HK := Lib.hid hx.k
  obtain ⟨y0, y1, y2, y3, y4, y5⟩ := HX.out _ (BK.refl w0)
  clear hx
  refine (H.out _).mono ?_
  rintro e w' ⟨rfl, rfl⟩
  go_wp2_with (first | (go_at_call 63; refine (any95 W R p q n pc m qc w.heap.size (usesL i) s sc w2 (HC.out _ K2.out) HR.out HL.out).mono ?_; rw [HA.out]; rintro e w3 ⟨rfl, hb⟩; have K3 := Lib.hid (bk_tr K2.out hb); obtain ⟨t0, t1, t2, t3, t4, t5⟩ := HX.out _ K3.out; obtain ⟨u0, u1, u2, u3⟩ := HC.out _ K3.out; clear hb) | (go_at_call 30; refine (uses58 i w1).mono ?_; rintro e w2 ⟨s, sc, rfl, hr, hb⟩; have HR := Lib.hid hr; have K2 := Lib.hid (bk_tr K1.out hb); clear hr hb) | (go_at_call 61; refine (miss93 W R i.dst p q n pc m qc w.heap.size w0 (HC.out _ (BK.refl w0))).mono ?_; rw [HM.out]; rintro e w1 ⟨rfl, hb⟩; have K1 := Lib.hid hb; obtain ⟨z0, z1, z2, z3, z4, z5⟩ := HX.out _ hb; clear hb) | (go_at_call 40; refine (D.out _).mono ?_; rintro e w' ⟨rfl, rfl⟩))
  go_quiet ((go_at_call 64; exact Calls.quiet_of_same (HMk.out _)))
  go_wp2_with fail
  refine wp_region_class (C := fun w' => BK w3 w') (by kernel_rfl) (by kernel_rfl) (bk_drew (bk_drewN (BK.refl _) _)) ?_
  repeat (first
      | go_big_quiet_step (fail)
      | (refine wpQuiet_step (fun K hK => ?_)
         go_simp
         first
           | (refine hK _ ?_; clear hK K)
           | (refine ⟨_, fun _ _ => rfl, hK _ ?_⟩; clear hK K)
           | (apply Exists.intro; refine ⟨fun w5 hw5 => ?_, hK _ ?_⟩; (go_at_call 65; with_reducible exact C97.out _ _ hw5); clear hK K)
           | (apply Exists.intro; refine ⟨fun w5 hw5 => ?_, hK _ ?_⟩; (obtain ⟨q0, q1, q2, q3, q4, q5⟩ := HX.out _ (bk_tr K3.out hw5); go_simp; rfl); clear hK K)
           | (apply Exists.intro; refine ⟨fun w5 hw5 => ?_, hK _ ?_⟩; (rw [ne_ifs, NE.out]; exact ⟨rfl, rfl⟩); clear hK K)))
  refine wpQuiet_nil ?_
  intro w5 hw5
  have H5 := Lib.hid (bk_tr K3.out hw5)
  clear hw5
  go_wp2_with fail
  go_ret
  exact ⟨rfl, bk_tr HK.out H5.out⟩
set_option maxRecDepth 100000 in
set_option maxHeartbeats 1000000 in
theorem ci_df_f (W R : Int) (p q : Option Addr) (n pc m qc : Nat) (i : I6) (w : World) (hv : opB i.op = true) (hd : dfB i.op = true) (hm : missB R i.dst = false) (ha : anyMiss R (usesL i) = false) (h1 : i.op ≠ 1) (hj : neB i (clr i) = false) : Calls Tryz.prog 41 #[.agg #[.int .i64 W, .int .i64 R, .slice p n pc, .slice q m qc], .agg #[.int .i64 i.op, .int .i64 i.dst, .int .i64 i.a, .int .i64 i.b, .int .i64 i.c, .int .u64 i.imm]] w fun e w' => e = .returned (.int .i64 0) ∧ BK w w' := by
  have hx := bx_new w W R p q n pc m qc i
  have H := Lib.hid (op87 i.op)
  rw [hv] at H
  have D := Lib.hid (df59 i.op)
  rw [hd] at D
  have HM := Lib.hid hm
  have HA := Lib.hid ha
  have HL := Lib.hid (show (usesL i).length ≤ 1000 from by have := usesL_len i; omega)
  have hne := hj
  have C97 := fun (wa wc : World) (hb : BK wa wc) => (clr97 i wc hv).mono (R' := fun e w' => e = .returned (.agg #[.int .i64 (clr i).op, .int .i64 (clr i).dst, .int .i64 (clr i).a, .int .i64 (clr i).b, .int .i64 (clr i).c, .int .u64 (clr i).imm]) ∧ BK wa w') fun e w' ⟨a, b⟩ => ⟨a, bk_tr hb b⟩
  clear hj
  generalize clr i = j at hne C97
  have NE := Lib.hid hne
  have C97 := Lib.hid C97
  clear hne
  have h1' : (i.op == 1) = false := by simpa using h1
  clear hv hd h1 ha hm
  go_enter Tryz.func41, Tryz.ntmps41
  go_wp2_with fail
  generalize (w.alloc (.cells #[.int .i64 W, .int .i64 R, .slice p n pc, .slice q m qc] 34)).alloc (.cells #[.int .i64 i.op, .int .i64 i.dst, .int .i64 i.a, .int .i64 i.b, .int .i64 i.c, .int .u64 i.imm] 42) = w0 at hx ⊢
  have HC := Lib.hid (fun wc (hb : BK w0 wc) => hx.c.keep hb)
  have HX := Lib.hid (fun wc (hb : BK w0 wc) => hx.i.keep hb)
  have HK := Lib.hid hx.k
  obtain ⟨y0, y1, y2, y3, y4, y5⟩ := HX.out _ (BK.refl w0)
  clear hx
  refine (H.out _).mono ?_
  rintro e w' ⟨rfl, rfl⟩
  go_wp2_with (first | (go_at_call 63; refine (any95 W R p q n pc m qc w.heap.size (usesL i) s sc w2 (HC.out _ K2.out) HR.out HL.out).mono ?_; rw [HA.out]; rintro e w3 ⟨rfl, hb⟩; have K3 := Lib.hid (bk_tr K2.out hb); obtain ⟨t0, t1, t2, t3, t4, t5⟩ := HX.out _ K3.out; obtain ⟨u0, u1, u2, u3⟩ := HC.out _ K3.out; clear hb) | (go_at_call 30; refine (uses58 i w1).mono ?_; rintro e w2 ⟨s, sc, rfl, hr, hb⟩; have HR := Lib.hid hr; have K2 := Lib.hid (bk_tr K1.out hb); clear hr hb) | (go_at_call 61; refine (miss93 W R i.dst p q n pc m qc w.heap.size w0 (HC.out _ (BK.refl w0))).mono ?_; rw [HM.out]; rintro e w1 ⟨rfl, hb⟩; have K1 := Lib.hid hb; obtain ⟨z0, z1, z2, z3, z4, z5⟩ := HX.out _ hb; clear hb) | (go_at_call 40; refine (D.out _).mono ?_; rintro e w' ⟨rfl, rfl⟩))
  go_quiet (fail)
  go_wp2_with fail
  refine wp_region_class (C := fun w' => BK w3 w') (by kernel_rfl) (by kernel_rfl) (bk_drew (bk_drewN (BK.refl _) _)) ?_
  repeat (first
      | go_big_quiet_step (fail)
      | (refine wpQuiet_step (fun K hK => ?_)
         go_simp
         first
           | (refine hK _ ?_; clear hK K)
           | (refine ⟨_, fun _ _ => rfl, hK _ ?_⟩; clear hK K)
           | (apply Exists.intro; refine ⟨fun w5 hw5 => ?_, hK _ ?_⟩; (go_at_call 65; with_reducible exact C97.out _ _ hw5); clear hK K)
           | (apply Exists.intro; refine ⟨fun w5 hw5 => ?_, hK _ ?_⟩; (obtain ⟨q0, q1, q2, q3, q4, q5⟩ := HX.out _ (bk_tr K3.out hw5); go_simp; rfl); clear hK K)
           | (apply Exists.intro; refine ⟨fun w5 hw5 => ?_, hK _ ?_⟩; (rw [ne_ifs, NE.out]; exact ⟨rfl, rfl⟩); clear hK K)))
  refine wpQuiet_nil ?_
  intro w5 hw5
  have H5 := Lib.hid (bk_tr K3.out hw5)
  clear hw5
  go_wp2_with fail
  go_ret
  exact ⟨rfl, bk_tr HK.out H5.out⟩
set_option maxRecDepth 100000 in
set_option maxHeartbeats 1000000 in
theorem ci_nop_f (W R : Int) (p q : Option Addr) (n pc m qc : Nat) (i : I6) (w : World) (hv : opB i.op = true) (hd : dfB i.op = false) (ha : anyMiss R (usesL i) = false) (h1 : i.op ≠ 1) (hj : neB i (clr i) = false) : Calls Tryz.prog 41 #[.agg #[.int .i64 W, .int .i64 R, .slice p n pc, .slice q m qc], .agg #[.int .i64 i.op, .int .i64 i.dst, .int .i64 i.a, .int .i64 i.b, .int .i64 i.c, .int .u64 i.imm]] w fun e w' => e = .returned (.int .i64 0) ∧ BK w w' := by
  have hx := bx_new w W R p q n pc m qc i
  have H := Lib.hid (op87 i.op)
  rw [hv] at H
  have D := Lib.hid (df59 i.op)
  rw [hd] at D
  have HA := Lib.hid ha
  have HL := Lib.hid (show (usesL i).length ≤ 1000 from by have := usesL_len i; omega)
  have hne := hj
  have C97 := fun (wa wc : World) (hb : BK wa wc) => (clr97 i wc hv).mono (R' := fun e w' => e = .returned (.agg #[.int .i64 (clr i).op, .int .i64 (clr i).dst, .int .i64 (clr i).a, .int .i64 (clr i).b, .int .i64 (clr i).c, .int .u64 (clr i).imm]) ∧ BK wa w') fun e w' ⟨a, b⟩ => ⟨a, bk_tr hb b⟩
  clear hj
  generalize clr i = j at hne C97
  have NE := Lib.hid hne
  have C97 := Lib.hid C97
  clear hne
  have h1' : (i.op == 1) = false := by simpa using h1
  clear hv hd h1 ha
  go_enter Tryz.func41, Tryz.ntmps41
  go_wp2_with fail
  generalize (w.alloc (.cells #[.int .i64 W, .int .i64 R, .slice p n pc, .slice q m qc] 34)).alloc (.cells #[.int .i64 i.op, .int .i64 i.dst, .int .i64 i.a, .int .i64 i.b, .int .i64 i.c, .int .u64 i.imm] 42) = w0 at hx ⊢
  have HC := Lib.hid (fun wc (hb : BK w0 wc) => hx.c.keep hb)
  have HX := Lib.hid (fun wc (hb : BK w0 wc) => hx.i.keep hb)
  have HK := Lib.hid hx.k
  obtain ⟨y0, y1, y2, y3, y4, y5⟩ := HX.out _ (BK.refl w0)
  clear hx
  refine (H.out _).mono ?_
  rintro e w' ⟨rfl, rfl⟩
  go_wp2_with (first | (go_at_call 63; refine (any95 W R p q n pc m qc w.heap.size (usesL i) s sc w2 (HC.out _ K2.out) HR.out HL.out).mono ?_; rw [HA.out]; rintro e w3 ⟨rfl, hb⟩; have K3 := Lib.hid (bk_tr K2.out hb); obtain ⟨t0, t1, t2, t3, t4, t5⟩ := HX.out _ K3.out; obtain ⟨u0, u1, u2, u3⟩ := HC.out _ K3.out; clear hb) | (go_at_call 30; refine (uses58 i w0).mono ?_; rintro e w2 ⟨s, sc, rfl, hr, hb⟩; have HR := Lib.hid hr; have K2 := Lib.hid (bk_tr (BK.refl w0) hb); clear hr hb) | (go_at_call 40; refine (D.out _).mono ?_; rintro e w' ⟨rfl, rfl⟩))
  go_quiet (fail)
  go_wp2_with fail
  refine wp_region_class (C := fun w' => BK w3 w') (by kernel_rfl) (by kernel_rfl) (bk_drew (bk_drewN (BK.refl _) _)) ?_
  repeat (first
      | go_big_quiet_step (fail)
      | (refine wpQuiet_step (fun K hK => ?_)
         go_simp
         first
           | (refine hK _ ?_; clear hK K)
           | (refine ⟨_, fun _ _ => rfl, hK _ ?_⟩; clear hK K)
           | (apply Exists.intro; refine ⟨fun w5 hw5 => ?_, hK _ ?_⟩; (go_at_call 65; with_reducible exact C97.out _ _ hw5); clear hK K)
           | (apply Exists.intro; refine ⟨fun w5 hw5 => ?_, hK _ ?_⟩; (obtain ⟨q0, q1, q2, q3, q4, q5⟩ := HX.out _ (bk_tr K3.out hw5); go_simp; rfl); clear hK K)
           | (apply Exists.intro; refine ⟨fun w5 hw5 => ?_, hK _ ?_⟩; (rw [ne_ifs, NE.out]; exact ⟨rfl, rfl⟩); clear hK K)))
  refine wpQuiet_nil ?_
  intro w5 hw5
  have H5 := Lib.hid (bk_tr K3.out hw5)
  clear hw5
  go_wp2_with fail
  go_ret
  exact ⟨rfl, bk_tr HK.out H5.out⟩
end Go.Proofs.YtneidfbgdgegjaaGreatDoor
