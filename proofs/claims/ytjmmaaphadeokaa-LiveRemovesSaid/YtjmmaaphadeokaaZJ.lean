/- Remove: the programs of which the law says nothing but the examples. -/
import Derived.Test.YtjmmaaphadeokaaZI
namespace Go.Proofs.Ytjmmaaphadeokaa
open Go.RowKit Go.Shelf
set_option linter.unusedVariables false
set_option linter.unusedSimpArgs false
set_option maxRecDepth 100000 in
set_option maxHeartbeats 4000000 in
theorem mlaw_long (W R : Int) (p q : Option Addr) (pc qc n m : Nat) (s : List Int) (w : World) (h : 40 < n) :
    Calls Try.prog 8 #[.agg #[.int .i64 W, .int .i64 R, .slice p n pc, .slice q m qc], .agg (ua s)] w fun e w' => e = .returned (.bool true) ∧ BK w w' := by
  have b4 := (b4_new w (.int .i64 W) (.int .i64 R) (.slice p n pc) (.slice q m qc) 25).keep (bk_alloc (BK.refl _) (.cells (ua s) 45))
  have k0 := bk_alloc (bk_alloc (BK.refl w) (.cells #[.int .i64 W, .int .i64 R, .slice p n pc, .slice q m qc] 25)) (.cells (ua s) 45)
  have LV := Lib.hid lives11
  have t1 : (40 : Int) < (n : Int) := by omega
  go_enter Try.func8, Try.ntmps8
  go_upto_region 1 with (fail)
  generalize (w.alloc (.cells #[.int .i64 W, .int .i64 R, .slice p n pc, .slice q m qc] 25)).alloc (.cells (ua s) 45) = w0 at b4 k0 ⊢
  have B0 := Lib.hid b4
  have K0 := Lib.hid k0
  obtain ⟨c0, c1, c2, c3⟩ := b4
  clear k0
  go_wp2_with (go_at_call 11; refine (LV.out _).mono ?_; rintro e w9 ⟨rfl, hb9⟩; have HB9 := Lib.hid hb9; clear hb9)
  go_ret
  exact ⟨rfl, bk_tr K0.out HB9.out⟩
set_option maxRecDepth 100000 in
set_option maxHeartbeats 4000000 in
theorem mlaw_heavy (W R : Int) (p q : Option Addr) (pc qc n m : Nat) (s : List Int) (w : World) (h40 : n ≤ 40) (h : lightB n m = false) :
    Calls Try.prog 8 #[.agg #[.int .i64 W, .int .i64 R, .slice p n pc, .slice q m qc], .agg (ua s)] w fun e w' => e = .returned (.bool true) ∧ BK w w' := by
  have b4 := (b4_new w (.int .i64 W) (.int .i64 R) (.slice p n pc) (.slice q m qc) 25).keep (bk_alloc (BK.refl _) (.cells (ua s) 45))
  have k0 := bk_alloc (bk_alloc (BK.refl w) (.cells #[.int .i64 W, .int .i64 R, .slice p n pc, .slice q m qc] 25)) (.cells (ua s) 45)
  have L1 := Lib.hid (fun wc => by have := light10 W R p q pc qc n m wc; rw [h] at this; exact this)
  have LV := Lib.hid lives11
  have t1 : ¬ (40 : Int) < (n : Int) := by omega
  clear h
  go_enter Try.func8, Try.ntmps8
  go_upto_region 1 with (fail)
  generalize (w.alloc (.cells #[.int .i64 W, .int .i64 R, .slice p n pc, .slice q m qc] 25)).alloc (.cells (ua s) 45) = w0 at b4 k0 ⊢
  have B0 := Lib.hid b4
  have K0 := Lib.hid k0
  obtain ⟨c0, c1, c2, c3⟩ := b4
  clear k0
  go_wp2_with fail
  refine (L1.out w0).mono ?_
  rintro e w1 ⟨rfl, hb1⟩
  have K1 := Lib.hid (bk_tr K0.out hb1)
  have B1 := Lib.hid (B0.out.keep hb1)
  clear hb1 c0 c1 c2 c3
  go_wp2_with (go_at_call 11; refine (LV.out _).mono ?_; rintro e w9 ⟨rfl, hb9⟩; have HB9 := Lib.hid hb9; clear hb9)
  go_ret
  exact ⟨rfl, bk_tr K1.out HB9.out⟩
set_option maxRecDepth 100000 in
set_option maxHeartbeats 4000000 in
theorem mlaw_bad (W R : Int) (p q : Option Addr) (pc qc : Nat) (ins : List I6) (out : List Int) (s : List Int) (w : World) (hi : RI w p pc ins) (ho : RO w q qc out) (l40 : ins.length ≤ 40) (lo : out.length ≤ 20) (hx : chkE W R ins out ≠ 0) :
    Calls Try.prog 8 #[.agg #[.int .i64 W, .int .i64 R, .slice p ins.length pc, .slice q out.length qc], .agg (ua s)] w fun e w' => e = .returned (.bool true) ∧ BK w w' := by
  have li : ins.length ≤ 300 := by omega
  have b4 := (b4_new w (.int .i64 W) (.int .i64 R) (.slice p ins.length pc) (.slice q out.length qc) 25).keep (bk_alloc (BK.refl _) (.cells (ua s) 45))
  have k0 := bk_alloc (bk_alloc (BK.refl w) (.cells #[.int .i64 W, .int .i64 R, .slice p ins.length pc, .slice q out.length qc] 25)) (.cells (ua s) 45)
  have L1 := Lib.hid (fun wc => by have := light10 W R p q pc qc ins.length out.length wc; rw [show lightB ins.length out.length = true from decide_eq_true ⟨li, lo⟩] at this; exact this)
  have C28 := Lib.hid (fun (wc : World) (hb : BK w wc) => rchk28 W R p q pc qc ins out wc (hi.keep hb) (ho.keep hb) (by omega) (by omega))
  have LV := Lib.hid lives11
  have t1 : ¬ (40 : Int) < (ins.length : Int) := by omega
  clear hi ho
  generalize chkE W R ins out = x at C28 hx
  go_enter Try.func8, Try.ntmps8
  go_upto_region 1 with (fail)
  generalize (w.alloc (.cells #[.int .i64 W, .int .i64 R, .slice p ins.length pc, .slice q out.length qc] 25)).alloc (.cells (ua s) 45) = w0 at b4 k0 ⊢
  have B0 := Lib.hid b4
  have K0 := Lib.hid k0
  obtain ⟨c0, c1, c2, c3⟩ := b4
  clear k0
  go_wp2_with fail
  refine (L1.out w0).mono ?_
  rintro e w1 ⟨rfl, hb1⟩
  have K1 := Lib.hid (bk_tr K0.out hb1)
  have B1 := Lib.hid (B0.out.keep hb1)
  clear hb1 c0 c1 c2 c3
  obtain ⟨c0, c1, c2, c3⟩ := B1.out
  go_wp2_with fail
  refine (C28.out w1 K1.out).mono ?_
  rintro e w2 ⟨rfl, hb2⟩
  have K2 := Lib.hid (bk_tr K1.out hb2)
  clear hb2 c0 c1 c2 c3
  go_wp2_with (go_at_call 11; refine (LV.out _).mono ?_; rintro e w9 ⟨rfl, hb9⟩; have HB9 := Lib.hid hb9; clear hb9)
  go_ret
  exact ⟨rfl, bk_tr K2.out HB9.out⟩
end Go.Proofs.Ytjmmaaphadeokaa
