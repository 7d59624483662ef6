/- An instruction checked: the registers. -/
import Derived.Test.YtneidfbgdgegjaaGreatDoorLG
namespace Go.Proofs.YtneidfbgdgegjaaGreatDoor
open Go.RowKit
set_option linter.unusedVariables false
set_option linter.unusedSimpArgs false
def boxes (w : World) (W R : Int) (p q : Option Addr) (n pc m qc : Nat) (i : I6) : World := (w.alloc (.cells #[.int .i64 W, .int .i64 R, .slice p n pc, .slice q m qc] 34)).alloc (.cells #[.int .i64 i.op, .int .i64 i.dst, .int .i64 i.a, .int .i64 i.b, .int .i64 i.c, .int .u64 i.imm] 42)
structure BX (w w0 : World) (W R : Int) (p q : Option Addr) (n pc m qc : Nat) (i : I6) : Prop where
  c : B4 w0 w.heap.size (.int .i64 W) (.int .i64 R) (.slice p n pc) (.slice q m qc)
  i : X6 w0 (w.heap.size + 1) i
  k : BK w w0
theorem bx_new (w : World) (W R : Int) (p q : Option Addr) (n pc m qc : Nat) (i : I6) : BX w ((w.alloc (.cells #[.int .i64 W, .int .i64 R, .slice p n pc, .slice q m qc] 34)).alloc (.cells #[.int .i64 i.op, .int .i64 i.dst, .int .i64 i.a, .int .i64 i.b, .int .i64 i.c, .int .u64 i.imm] 42)) W R p q n pc m qc i := by
  refine ⟨(b4_new w _ _ _ _ 34).keep (bk_alloc (BK.refl _) _), ?_, bk_alloc (bk_alloc (BK.refl w) _) _⟩
  have h := x6_new (w.alloc (.cells #[.int .i64 W, .int .i64 R, .slice p n pc, .slice q m qc] 34)) i 42
  rw [sz1] at h
  exact h
theorem insE_op {m R : Int} {i : I6} (h : opB i.op = false) : insE m R i = 4 := by unfold insE; rw [if_pos h]
theorem insE_reg {m R : Int} {i : I6} (h : opB i.op = true) (h2 : (dfB i.op && missB R i.dst) = true ∨ anyMiss R (usesL i) = true) : insE m R i = 18 := by
  unfold insE
  rw [if_neg (by simp [h]), if_pos]
  unfold regB
  rcases h2 with h2 | h2
  · have h2 : (dfB i.op && !inB R i.dst) = true := h2
    rw [h2]; rfl
  · have h2 : (usesL i).any (fun r => !inB R r) = true := h2
    rw [h2]; simp
theorem insE_rest {m R : Int} {i : I6} (h : opB i.op = true) (h1 : (dfB i.op && missB R i.dst) = false) (h2 : anyMiss R (usesL i) = false) : insE m R i = if i.op = 1 ∧ m < i.imm then 2 else if junkB i = true then 19 else 0 := by
  unfold insE
  rw [if_neg (by simp [h]), if_neg]
  unfold regB
  have h1 : (dfB i.op && !inB R i.dst) = false := h1
  have h2 : (usesL i).any (fun r => !inB R r) = false := h2
  rw [h1, h2]; simp
theorem junk_ne (i : I6) (hv : opB i.op = true) : neB i (clr i) = junkB i := by
  cases h : junkB i
  · exact (neB_iff _ _).2 ((clr_junk i hv).2 h).symm
  · cases h2 : neB i (clr i)
    · have := (clr_junk i hv).1 ((neB_iff _ _).1 h2).symm
      rw [h] at this; cases this
    · rfl
set_option maxHeartbeats 1000000 in
theorem ci_op (W R : Int) (p q : Option Addr) (n pc m qc : Nat) (i : I6) (w : World) (hv : opB i.op = false) : Calls Tryz.prog 41 #[.agg #[.int .i64 W, .int .i64 R, .slice p n pc, .slice q m qc], .agg #[.int .i64 i.op, .int .i64 i.dst, .int .i64 i.a, .int .i64 i.b, .int .i64 i.c, .int .u64 i.imm]] w fun e w' => e = .returned (.int .i64 4) ∧ BK w w' := by
  have hx := bx_new w W R p q n pc m qc i
  have H := Lib.hid (op87 i.op)
  rw [hv] at H
  clear hv
  go_enter Tryz.func41, Tryz.ntmps41
  go_wp2_with fail
  generalize (w.alloc (.cells #[.int .i64 W, .int .i64 R, .slice p n pc, .slice q m qc] 34)).alloc (.cells #[.int .i64 i.op, .int .i64 i.dst, .int .i64 i.a, .int .i64 i.b, .int .i64 i.c, .int .u64 i.imm] 42) = w0 at hx ⊢
  have HC := Lib.hid (fun wc (hb : BK w0 wc) => hx.c.keep hb)
  have HX := Lib.hid (fun wc (hb : BK w0 wc) => hx.i.keep hb)
  have HK := Lib.hid hx.k
  obtain ⟨y0, y1, y2, y3, y4, y5⟩ := HX.out _ (BK.refl w0)
  clear hx
  refine (H.out _).mono ?_
  rintro e w' ⟨rfl, rfl⟩
  go_wp2_with fail
  go_ret
  exact ⟨rfl, HK.out⟩
set_option maxHeartbeats 1000000 in
theorem ci_dst (W R : Int) (p q : Option Addr) (n pc m qc : Nat) (i : I6) (w : World) (hv : opB i.op = true) (hd : dfB i.op = true) (hm : missB R i.dst = true)  : Calls Tryz.prog 41 #[.agg #[.int .i64 W, .int .i64 R, .slice p n pc, .slice q m qc], .agg #[.int .i64 i.op, .int .i64 i.dst, .int .i64 i.a, .int .i64 i.b, .int .i64 i.c, .int .u64 i.imm]] w fun e w' => e = .returned (.int .i64 18) ∧ BK w w' := by
  have hx := bx_new w W R p q n pc m qc i
  have H := Lib.hid (op87 i.op)
  rw [hv] at H
  have D := Lib.hid (df59 i.op)
  rw [hd] at D
  have HM := Lib.hid hm
  clear hv hd hm
  go_enter Tryz.func41, Tryz.ntmps41
  go_wp2_with fail
  generalize (w.alloc (.cells #[.int .i64 W, .int .i64 R, .slice p n pc, .slice q m qc] 34)).alloc (.cells #[.int .i64 i.op, .int .i64 i.dst, .int .i64 i.a, .int .i64 i.b, .int .i64 i.c, .int .u64 i.imm] 42) = w0 at hx ⊢
  have HC := Lib.hid (fun wc (hb : BK w0 wc) => hx.c.keep hb)
  have HX := Lib.hid (fun wc (hb : BK w0 wc) => hx.i.keep hb)
  have HK := Lib.hid hx.k
  obtain ⟨y0, y1, y2, y3, y4, y5⟩ := HX.out _ (BK.refl w0)
  clear hx
  refine (H.out _).mono ?_
  rintro e w' ⟨rfl, rfl⟩
  go_wp2_with (first | (go_at_call 61; refine (miss93 W R i.dst p q n pc m qc w.heap.size w0 (HC.out _ (BK.refl w0))).mono ?_; rw [HM.out]; rintro e w1 ⟨rfl, hb⟩; have K1 := Lib.hid hb; obtain ⟨z0, z1, z2, z3, z4, z5⟩ := HX.out _ hb; clear hb) | (go_at_call 40; refine (D.out _).mono ?_; rintro e w' ⟨rfl, rfl⟩))
  go_ret
  exact ⟨rfl, bk_tr HK.out K1.out⟩
set_option maxHeartbeats 1000000 in
theorem ci_use1 (W R : Int) (p q : Option Addr) (n pc m qc : Nat) (i : I6) (w : World) (hv : opB i.op = true) (hd : dfB i.op = true) (hm : missB R i.dst = false) (ha : anyMiss R (usesL i) = true)  : Calls Tryz.prog 41 #[.agg #[.int .i64 W, .int .i64 R, .slice p n pc, .slice q m qc], .agg #[.int .i64 i.op, .int .i64 i.dst, .int .i64 i.a, .int .i64 i.b, .int .i64 i.c, .int .u64 i.imm]] w fun e w' => e = .returned (.int .i64 18) ∧ BK w w' := by
  have hx := bx_new w W R p q n pc m qc i
  have H := Lib.hid (op87 i.op)
  rw [hv] at H
  have D := Lib.hid (df59 i.op)
  rw [hd] at D
  have HM := Lib.hid hm
  have HA := Lib.hid ha
  have HL := Lib.hid (show (usesL i).length ≤ 1000 from by have := usesL_len i; omega)
  clear hv hd hm ha
  go_enter Tryz.func41, Tryz.ntmps41
  go_wp2_with fail
  generalize (w.alloc (.cells #[.int .i64 W, .int .i64 R, .slice p n pc, .slice q m qc] 34)).alloc (.cells #[.int .i64 i.op, .int .i64 i.dst, .int .i64 i.a, .int .i64 i.b, .int .i64 i.c, .int .u64 i.imm] 42) = w0 at hx ⊢
  have HC := Lib.hid (fun wc (hb : BK w0 wc) => hx.c.keep hb)
  have HX := Lib.hid (fun wc (hb : BK w0 wc) => hx.i.keep hb)
  have HK := Lib.hid hx.k
  obtain ⟨y0, y1, y2, y3, y4, y5⟩ := HX.out _ (BK.refl w0)
  clear hx
  refine (H.out _).mono ?_
  rintro e w' ⟨rfl, rfl⟩
  go_wp2_with (first | (go_at_call 63; refine (any95 W R p q n pc m qc w.heap.size (usesL i) s sc w2 (HC.out _ K2.out) HR.out HL.out).mono ?_; rw [HA.out]; rintro e w3 ⟨rfl, hb⟩; have K3 := Lib.hid (bk_tr K2.out hb); obtain ⟨t0, t1, t2, t3, t4, t5⟩ := HX.out _ K3.out; obtain ⟨u0, u1, u2, u3⟩ := HC.out _ K3.out; clear hb) | (go_at_call 30; refine (uses58 i w1).mono ?_; rintro e w2 ⟨s, sc, rfl, hr, hb⟩; have HR := Lib.hid hr; have K2 := Lib.hid (bk_tr K1.out hb); clear hr hb) | (go_at_call 61; refine (miss93 W R i.dst p q n pc m qc w.heap.size w0 (HC.out _ (BK.refl w0))).mono ?_; rw [HM.out]; rintro e w1 ⟨rfl, hb⟩; have K1 := Lib.hid hb; obtain ⟨z0, z1, z2, z3, z4, z5⟩ := HX.out _ hb; clear hb) | (go_at_call 40; refine (D.out _).mono ?_; rintro e w' ⟨rfl, rfl⟩))
  go_ret
  exact ⟨rfl, bk_tr HK.out K3.out⟩
set_option maxHeartbeats 1000000 in
theorem ci_use0 (W R : Int) (p q : Option Addr) (n pc m qc : Nat) (i : I6) (w : World) (hv : opB i.op = true) (hd : dfB i.op = false) (ha : anyMiss R (usesL i) = true)  : Calls Tryz.prog 41 #[.agg #[.int .i64 W, .int .i64 R, .slice p n pc, .slice q m qc], .agg #[.int .i64 i.op, .int .i64 i.dst, .int .i64 i.a, .int .i64 i.b, .int .i64 i.c, .int .u64 i.imm]] w fun e w' => e = .returned (.int .i64 18) ∧ BK w w' := by
  have hx := bx_new w W R p q n pc m qc i
  have H := Lib.hid (op87 i.op)
  rw [hv] at H
  have D := Lib.hid (df59 i.op)
  rw [hd] at D
  have HA := Lib.hid ha
  have HL := Lib.hid (show (usesL i).length ≤ 1000 from by have := usesL_len i; omega)
  clear hv hd ha
  go_enter Tryz.func41, Tryz.ntmps41
  go_wp2_with fail
  generalize (w.alloc (.cells #[.int .i64 W, .int .i64 R, .slice p n pc, .slice q m qc] 34)).alloc (.cells #[.int .i64 i.op, .int .i64 i.dst, .int .i64 i.a, .int .i64 i.b, .int .i64 i.c, .int .u64 i.imm] 42) = w0 at hx ⊢
  have HC := Lib.hid (fun wc (hb : BK w0 wc) => hx.c.keep hb)
  have HX := Lib.hid (fun wc (hb : BK w0 wc) => hx.i.keep hb)
  have HK := Lib.hid hx.k
  obtain ⟨y0, y1, y2, y3, y4, y5⟩ := HX.out _ (BK.refl w0)
  clear hx
  refine (H.out _).mono ?_
  rintro e w' ⟨rfl, rfl⟩
  go_wp2_with (first | (go_at_call 63; refine (any95 W R p q n pc m qc w.heap.size (usesL i) s sc w2 (HC.out _ K2.out) HR.out HL.out).mono ?_; rw [HA.out]; rintro e w3 ⟨rfl, hb⟩; have K3 := Lib.hid (bk_tr K2.out hb); obtain ⟨t0, t1, t2, t3, t4, t5⟩ := HX.out _ K3.out; obtain ⟨u0, u1, u2, u3⟩ := HC.out _ K3.out; clear hb) | (go_at_call 30; refine (uses58 i w0).mono ?_; rintro e w2 ⟨s, sc, rfl, hr, hb⟩; have HR := Lib.hid hr; have K2 := Lib.hid (bk_tr (BK.refl w0) hb); clear hr hb) | (go_at_call 40; refine (D.out _).mono ?_; rintro e w' ⟨rfl, rfl⟩))
  go_ret
  exact ⟨rfl, bk_tr HK.out K3.out⟩
end Go.Proofs.YtneidfbgdgegjaaGreatDoor
