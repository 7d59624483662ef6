/- Put back: the inputs of which the law says nothing but the examples, and refused windows. -/
import Derived.Test.YtjmmaaphadeokaaZM
namespace Go.Proofs.Ytjmmaaphadeokaa
open Go.RowKit Go.Shelf
set_option linter.unusedVariables false
set_option linter.unusedSimpArgs false
set_option maxRecDepth 100000 in
set_option maxHeartbeats 4000000 in
theorem plaw_long (W R : Int) (p q : Option Addr) (pc qc l m : Nat) (f n : Int) (s : List Int) (w : World) (h : 40 < l) :
    Calls Try.prog 9 #[.agg #[.int .i64 W, .int .i64 R, .slice p l pc, .slice q m qc], .agg #[.int .i64 f, .int .i64 n], .agg (ua s)] w fun e w' => e = .returned (.bool true) ∧ BK w w' := by
  have b4 := (b4_new w (.int .i64 W) (.int .i64 R) (.slice p l pc) (.slice q m qc) 25).keep (bk_alloc (bk_alloc (BK.refl _) (.cells #[.int .i64 f, .int .i64 n] 41)) (.cells (ua s) 45))
  have y0 : (((w.alloc (.cells #[.int .i64 W, .int .i64 R, .slice p l pc, .slice q m qc] 25)).alloc (.cells #[.int .i64 f, .int .i64 n] 41)).alloc (.cells (ua s) 45)).cell? ⟨w.heap.size + 1, 0, none⟩ = some (.int .i64 f) := by
    have e := World.cell?_alloc_new (w.alloc (.cells #[.int .i64 W, .int .i64 R, .slice p l pc, .slice q m qc] 25)) #[.int .i64 f, .int .i64 n] 41 0
    rw [sz1] at e
    exact ((bk_alloc (BK.refl _) (.cells (ua s) 45)).bl.cell (p := ⟨w.heap.size + 1, 0, none⟩) (by rw [sz1, sz1]; show w.heap.size + 1 < w.heap.size + 1 + 1; omega)).trans e
  have y1 : (((w.alloc (.cells #[.int .i64 W, .int .i64 R, .slice p l pc, .slice q m qc] 25)).alloc (.cells #[.int .i64 f, .int .i64 n] 41)).alloc (.cells (ua s) 45)).cell? ⟨w.heap.size + 1, 1, none⟩ = some (.int .i64 n) := by
    have e := World.cell?_alloc_new (w.alloc (.cells #[.int .i64 W, .int .i64 R, .slice p l pc, .slice q m qc] 25)) #[.int .i64 f, .int .i64 n] 41 1
    rw [sz1] at e
    exact ((bk_alloc (BK.refl _) (.cells (ua s) 45)).bl.cell (p := ⟨w.heap.size + 1, 1, none⟩) (by rw [sz1, sz1]; show w.heap.size + 1 < w.heap.size + 1 + 1; omega)).trans e
  have a1 := SU.new ((w.alloc (.cells #[.int .i64 W, .int .i64 R, .slice p l pc, .slice q m qc] 25)).alloc (.cells #[.int .i64 f, .int .i64 n] 41)) s
  rw [sz1, sz1] at a1
  have k0 := bk_alloc (bk_alloc (bk_alloc (BK.refl w) (.cells #[.int .i64 W, .int .i64 R, .slice p l pc, .slice q m qc] 25)) (.cells #[.int .i64 f, .int .i64 n] 41)) (.cells (ua s) 45)
  have il : QL w (((w.alloc (.cells #[.int .i64 W, .int .i64 R, .slice p l pc, .slice q m qc] 25)).alloc (.cells #[.int .i64 f, .int .i64 n] 41)).alloc (.cells (ua s) 45)) (.int .i64 W) (.int .i64 R) (.slice p l pc) (.slice q m qc) f n s := ⟨b4, y0, y1, a1, k0⟩
  have LV := Lib.hid lives11
  have t1 : (40 : Int) < (l : Int) := by omega
  clear b4 y0 y1 a1 k0
  go_enter Try.func9, Try.ntmps9
  go_upto_region 1 with (fail)
  generalize ((w.alloc (.cells #[.int .i64 W, .int .i64 R, .slice p l pc, .slice q m qc] 25)).alloc (.cells #[.int .i64 f, .int .i64 n] 41)).alloc (.cells (ua s) 45) = w0 at il ⊢
  rw [show w.heap.size + 1 + 1 = w.heap.size + 2 from rfl]
  have I0 := Lib.hid il
  clear il
  obtain ⟨⟨c0, c1, c2, c3⟩, y0, y1, -, -⟩ := I0.out
  go_wp2_with (go_at_call 11; refine (LV.out _).mono ?_; rintro e w9 ⟨rfl, hb9⟩; have HB9 := Lib.hid hb9; clear hb9)
  go_ret
  exact ⟨rfl, bk_tr I0.out.k HB9.out⟩
set_option maxRecDepth 100000 in
set_option maxHeartbeats 4000000 in
theorem plaw_heavy (W R : Int) (p q : Option Addr) (pc qc l m : Nat) (f n : Int) (s : List Int) (w : World) (h40 : l ≤ 40) (h : lightB l m = false) :
    Calls Try.prog 9 #[.agg #[.int .i64 W, .int .i64 R, .slice p l pc, .slice q m qc], .agg #[.int .i64 f, .int .i64 n], .agg (ua s)] w fun e w' => e = .returned (.bool true) ∧ BK w w' := by
  have b4 := (b4_new w (.int .i64 W) (.int .i64 R) (.slice p l pc) (.slice q m qc) 25).keep (bk_alloc (bk_alloc (BK.refl _) (.cells #[.int .i64 f, .int .i64 n] 41)) (.cells (ua s) 45))
  have y0 : (((w.alloc (.cells #[.int .i64 W, .int .i64 R, .slice p l pc, .slice q m qc] 25)).alloc (.cells #[.int .i64 f, .int .i64 n] 41)).alloc (.cells (ua s) 45)).cell? ⟨w.heap.size + 1, 0, none⟩ = some (.int .i64 f) := by
    have e := World.cell?_alloc_new (w.alloc (.cells #[.int .i64 W, .int .i64 R, .slice p l pc, .slice q m qc] 25)) #[.int .i64 f, .int .i64 n] 41 0
    rw [sz1] at e
    exact ((bk_alloc (BK.refl _) (.cells (ua s) 45)).bl.cell (p := ⟨w.heap.size + 1, 0, none⟩) (by rw [sz1, sz1]; show w.heap.size + 1 < w.heap.size + 1 + 1; omega)).trans e
  have y1 : (((w.alloc (.cells #[.int .i64 W, .int .i64 R, .slice p l pc, .slice q m qc] 25)).alloc (.cells #[.int .i64 f, .int .i64 n] 41)).alloc (.cells (ua s) 45)).cell? ⟨w.heap.size + 1, 1, none⟩ = some (.int .i64 n) := by
    have e := World.cell?_alloc_new (w.alloc (.cells #[.int .i64 W, .int .i64 R, .slice p l pc, .slice q m qc] 25)) #[.int .i64 f, .int .i64 n] 41 1
    rw [sz1] at e
    exact ((bk_alloc (BK.refl _) (.cells (ua s) 45)).bl.cell (p := ⟨w.heap.size + 1, 1, none⟩) (by rw [sz1, sz1]; show w.heap.size + 1 < w.heap.size + 1 + 1; omega)).trans e
  have a1 := SU.new ((w.alloc (.cells #[.int .i64 W, .int .i64 R, .slice p l pc, .slice q m qc] 25)).alloc (.cells #[.int .i64 f, .int .i64 n] 41)) s
  rw [sz1, sz1] at a1
  have k0 := bk_alloc (bk_alloc (bk_alloc (BK.refl w) (.cells #[.int .i64 W, .int .i64 R, .slice p l pc, .slice q m qc] 25)) (.cells #[.int .i64 f, .int .i64 n] 41)) (.cells (ua s) 45)
  have il : QL w (((w.alloc (.cells #[.int .i64 W, .int .i64 R, .slice p l pc, .slice q m qc] 25)).alloc (.cells #[.int .i64 f, .int .i64 n] 41)).alloc (.cells (ua s) 45)) (.int .i64 W) (.int .i64 R) (.slice p l pc) (.slice q m qc) f n s := ⟨b4, y0, y1, a1, k0⟩
  have L1 := Lib.hid (fun wc => by have := light10 W R p q pc qc l m wc; rw [h] at this; exact this)
  have LV := Lib.hid lives11
  have t1 : ¬ (40 : Int) < (l : Int) := by omega
  clear h b4 y0 y1 a1 k0
  go_enter Try.func9, Try.ntmps9
  go_upto_region 1 with (fail)
  generalize ((w.alloc (.cells #[.int .i64 W, .int .i64 R, .slice p l pc, .slice q m qc] 25)).alloc (.cells #[.int .i64 f, .int .i64 n] 41)).alloc (.cells (ua s) 45) = w0 at il ⊢
  rw [show w.heap.size + 1 + 1 = w.heap.size + 2 from rfl]
  have I0 := Lib.hid il
  clear il
  obtain ⟨⟨c0, c1, c2, c3⟩, y0, y1, -, -⟩ := I0.out
  go_wp2_with fail
  refine (L1.out w0).mono ?_
  rintro e w1 ⟨rfl, hb1⟩
  have I1 := Lib.hid (I0.out.keep hb1)
  clear hb1 c0 c1 c2 c3 y0 y1
  go_wp2_with (go_at_call 11; refine (LV.out _).mono ?_; rintro e w9 ⟨rfl, hb9⟩; have HB9 := Lib.hid hb9; clear hb9)
  go_ret
  exact ⟨rfl, bk_tr I1.out.k HB9.out⟩
set_option maxRecDepth 100000 in
set_option maxHeartbeats 4000000 in
theorem plaw_bad (W R : Int) (p q : Option Addr) (pc qc : Nat) (ins : List I6) (out : List Int) (f n : Int) (s : List Int) (w : World) (hi : RI w p pc ins) (ho : RO w q qc out) (l40 : ins.length ≤ 40) (lo : out.length ≤ 20) (hx : chkE W R ins out ≠ 0) :
    Calls Try.prog 9 #[.agg #[.int .i64 W, .int .i64 R, .slice p ins.length pc, .slice q out.length qc], .agg #[.int .i64 f, .int .i64 n], .agg (ua s)] w fun e w' => e = .returned (.bool true) ∧ BK w w' := by
  have li : ins.length ≤ 300 := by omega
  have b4 := (b4_new w (.int .i64 W) (.int .i64 R) (.slice p ins.length pc) (.slice q out.length qc) 25).keep (bk_alloc (bk_alloc (BK.refl _) (.cells #[.int .i64 f, .int .i64 n] 41)) (.cells (ua s) 45))
  have y0 : (((w.alloc (.cells #[.int .i64 W, .int .i64 R, .slice p ins.length pc, .slice q out.length qc] 25)).alloc (.cells #[.int .i64 f, .int .i64 n] 41)).alloc (.cells (ua s) 45)).cell? ⟨w.heap.size + 1, 0, none⟩ = some (.int .i64 f) := by
    have e := World.cell?_alloc_new (w.alloc (.cells #[.int .i64 W, .int .i64 R, .slice p ins.length pc, .slice q out.length qc] 25)) #[.int .i64 f, .int .i64 n] 41 0
    rw [sz1] at e
    exact ((bk_alloc (BK.refl _) (.cells (ua s) 45)).bl.cell (p := ⟨w.heap.size + 1, 0, none⟩) (by rw [sz1, sz1]; show w.heap.size + 1 < w.heap.size + 1 + 1; omega)).trans e
  have y1 : (((w.alloc (.cells #[.int .i64 W, .int .i64 R, .slice p ins.length pc, .slice q out.length qc] 25)).alloc (.cells #[.int .i64 f, .int .i64 n] 41)).alloc (.cells (ua s) 45)).cell? ⟨w.heap.size + 1, 1, none⟩ = some (.int .i64 n) := by
    have e := World.cell?_alloc_new (w.alloc (.cells #[.int .i64 W, .int .i64 R, .slice p ins.length pc, .slice q out.length qc] 25)) #[.int .i64 f, .int .i64 n] 41 1
    rw [sz1] at e
    exact ((bk_alloc (BK.refl _) (.cells (ua s) 45)).bl.cell (p := ⟨w.heap.size + 1, 1, none⟩) (by rw [sz1, sz1]; show w.heap.size + 1 < w.heap.size + 1 + 1; omega)).trans e
  have a1 := SU.new ((w.alloc (.cells #[.int .i64 W, .int .i64 R, .slice p ins.length pc, .slice q out.length qc] 25)).alloc (.cells #[.int .i64 f, .int .i64 n] 41)) s
  rw [sz1, sz1] at a1
  have k0 := bk_alloc (bk_alloc (bk_alloc (BK.refl w) (.cells #[.int .i64 W, .int .i64 R, .slice p ins.length pc, .slice q out.length qc] 25)) (.cells #[.int .i64 f, .int .i64 n] 41)) (.cells (ua s) 45)
  have il : QL w (((w.alloc (.cells #[.int .i64 W, .int .i64 R, .slice p ins.length pc, .slice q out.length qc] 25)).alloc (.cells #[.int .i64 f, .int .i64 n] 41)).alloc (.cells (ua s) 45)) (.int .i64 W) (.int .i64 R) (.slice p ins.length pc) (.slice q out.length qc) f n s := ⟨b4, y0, y1, a1, k0⟩
  have L1 := Lib.hid (fun wc => by have := light10 W R p q pc qc ins.length out.length wc; rw [show lightB ins.length out.length = true from decide_eq_true ⟨li, lo⟩] at this; exact this)
  have C28 := Lib.hid (fun (wc : World) (hb : BK w wc) => rchk28 W R p q pc qc ins out wc (hi.keep hb) (ho.keep hb) (by omega) (by omega))
  have LV := Lib.hid lives11
  have t1 : ¬ (40 : Int) < (ins.length : Int) := by omega
  clear hi ho b4 y0 y1 a1 k0
  generalize chkE W R ins out = x at C28 hx
  go_enter Try.func9, Try.ntmps9
  go_upto_region 1 with (fail)
  generalize ((w.alloc (.cells #[.int .i64 W, .int .i64 R, .slice p ins.length pc, .slice q out.length qc] 25)).alloc (.cells #[.int .i64 f, .int .i64 n] 41)).alloc (.cells (ua s) 45) = w0 at il ⊢
  rw [show w.heap.size + 1 + 1 = w.heap.size + 2 from rfl]
  have I0 := Lib.hid il
  clear il
  obtain ⟨⟨c0, c1, c2, c3⟩, y0, y1, -, -⟩ := I0.out
  go_wp2_with fail
  refine (L1.out w0).mono ?_
  rintro e w1 ⟨rfl, hb1⟩
  have I1 := Lib.hid (I0.out.keep hb1)
  clear hb1 c0 c1 c2 c3 y0 y1
  obtain ⟨⟨c0, c1, c2, c3⟩, y0, y1, -, -⟩ := I1.out
  go_wp2_with fail
  refine (C28.out w1 I1.out.k).mono ?_
  rintro e w2 ⟨rfl, hb2⟩
  have I2 := Lib.hid (I1.out.keep hb2)
  clear hb2 c0 c1 c2 c3 y0 y1
  go_wp2_with (go_at_call 11; refine (LV.out _).mono ?_; rintro e w9 ⟨rfl, hb9⟩; have HB9 := Lib.hid hb9; clear hb9)
  go_ret
  exact ⟨rfl, bk_tr I2.out.k HB9.out⟩
set_option maxRecDepth 100000 in
set_option maxHeartbeats 4000000 in
theorem plaw_err (W R : Int) (p q : Option Addr) (pc qc : Nat) (ins : List I6) (out : List Int) (f n : Int) (s : List Int) (w : World) (hi : RI w p pc ins) (ho : RO w q qc out) (l40 : ins.length ≤ 40) (lo : out.length ≤ 20) (hv : Vd W R ins out) (f2 : f ≤ 9223372036854775807) (n2 : n ≤ 9223372036854775807) (hx : ¬ (0 ≤ f ∧ 0 ≤ n ∧ f + n ≤ ins.length)) :
    Calls Try.prog 9 #[.agg #[.int .i64 W, .int .i64 R, .slice p ins.length pc, .slice q out.length qc], .agg #[.int .i64 f, .int .i64 n], .agg (ua s)] w fun e w' => e = .returned (.bool true) ∧ BK w w' := by
  have li : ins.length ≤ 300 := by omega
  have b4 := (b4_new w (.int .i64 W) (.int .i64 R) (.slice p ins.length pc) (.slice q out.length qc) 25).keep (bk_alloc (bk_alloc (BK.refl _) (.cells #[.int .i64 f, .int .i64 n] 41)) (.cells (ua s) 45))
  have y0 : (((w.alloc (.cells #[.int .i64 W, .int .i64 R, .slice p ins.length pc, .slice q out.length qc] 25)).alloc (.cells #[.int .i64 f, .int .i64 n] 41)).alloc (.cells (ua s) 45)).cell? ⟨w.heap.size + 1, 0, none⟩ = some (.int .i64 f) := by
    have e := World.cell?_alloc_new (w.alloc (.cells #[.int .i64 W, .int .i64 R, .slice p ins.length pc, .slice q out.length qc] 25)) #[.int .i64 f, .int .i64 n] 41 0
    rw [sz1] at e
    exact ((bk_alloc (BK.refl _) (.cells (ua s) 45)).bl.cell (p := ⟨w.heap.size + 1, 0, none⟩) (by rw [sz1, sz1]; show w.heap.size + 1 < w.heap.size + 1 + 1; omega)).trans e
  have y1 : (((w.alloc (.cells #[.int .i64 W, .int .i64 R, .slice p ins.length pc, .slice q out.length qc] 25)).alloc (.cells #[.int .i64 f, .int .i64 n] 41)).alloc (.cells (ua s) 45)).cell? ⟨w.heap.size + 1, 1, none⟩ = some (.int .i64 n) := by
    have e := World.cell?_alloc_new (w.alloc (.cells #[.int .i64 W, .int .i64 R, .slice p ins.length pc, .slice q out.length qc] 25)) #[.int .i64 f, .int .i64 n] 41 1
    rw [sz1] at e
    exact ((bk_alloc (BK.refl _) (.cells (ua s) 45)).bl.cell (p := ⟨w.heap.size + 1, 1, none⟩) (by rw [sz1, sz1]; show w.heap.size + 1 < w.heap.size + 1 + 1; omega)).trans e
  have a1 := SU.new ((w.alloc (.cells #[.int .i64 W, .int .i64 R, .slice p ins.length pc, .slice q out.length qc] 25)).alloc (.cells #[.int .i64 f, .int .i64 n] 41)) s
  rw [sz1, sz1] at a1
  have k0 := bk_alloc (bk_alloc (bk_alloc (BK.refl w) (.cells #[.int .i64 W, .int .i64 R, .slice p ins.length pc, .slice q out.length qc] 25)) (.cells #[.int .i64 f, .int .i64 n] 41)) (.cells (ua s) 45)
  have il : QL w (((w.alloc (.cells #[.int .i64 W, .int .i64 R, .slice p ins.length pc, .slice q out.length qc] 25)).alloc (.cells #[.int .i64 f, .int .i64 n] 41)).alloc (.cells (ua s) 45)) (.int .i64 W) (.int .i64 R) (.slice p ins.length pc) (.slice q out.length qc) f n s := ⟨b4, y0, y1, a1, k0⟩
  have L1 := Lib.hid (fun wc => by have := light10 W R p q pc qc ins.length out.length wc; rw [show lightB ins.length out.length = true from decide_eq_true ⟨li, lo⟩] at this; exact this)
  have C28 := Lib.hid (fun (wc : World) (hb : BK w wc) => by have := rchk28 W R p q pc qc ins out wc (hi.keep hb) (ho.keep hb) (by omega) (by omega); rw [chk_zero.2 hv] at this; exact this)
  have e2 : winE W R ins out f n = 2 := by unfold winE; rw [if_pos (chk_zero.2 hv), if_neg hx]
  have C24 := Lib.hid (fun (wc : World) (hb : BK w wc) => by have := win24_err W R p q pc qc ins out f n wc (hi.keep hb) (ho.keep hb) li lo f2 n2 (by rw [e2]; decide); rw [e2] at this; exact this)
  have LV := Lib.hid lives11
  have t1 : ¬ (40 : Int) < (ins.length : Int) := by omega
  clear hi ho b4 y0 y1 a1 k0 e2 hx f2 n2
  go_enter Try.func9, Try.ntmps9
  go_upto_region 1 with (fail)
  generalize ((w.alloc (.cells #[.int .i64 W, .int .i64 R, .slice p ins.length pc, .slice q out.length qc] 25)).alloc (.cells #[.int .i64 f, .int .i64 n] 41)).alloc (.cells (ua s) 45) = w0 at il ⊢
  rw [show w.heap.size + 1 + 1 = w.heap.size + 2 from rfl]
  have I0 := Lib.hid il
  clear il
  obtain ⟨⟨c0, c1, c2, c3⟩, y0, y1, -, -⟩ := I0.out
  go_wp2_with fail
  refine (L1.out w0).mono ?_
  rintro e w1 ⟨rfl, hb1⟩
  have I1 := Lib.hid (I0.out.keep hb1)
  clear hb1 c0 c1 c2 c3 y0 y1
  obtain ⟨⟨c0, c1, c2, c3⟩, y0, y1, -, -⟩ := I1.out
  go_wp2_with fail
  refine (C28.out w1 I1.out.k).mono ?_
  rintro e w2 ⟨rfl, hb2⟩
  have I2 := Lib.hid (I1.out.keep hb2)
  clear hb2 c0 c1 c2 c3 y0 y1
  obtain ⟨⟨c0, c1, c2, c3⟩, y0, y1, -, -⟩ := I2.out
  go_wp2_with fail
  refine (C24.out w2 I2.out.k).mono ?_
  rintro e w3 ⟨rfl, hb3⟩
  have K3 := Lib.hid (bk_alloc (bk_tr I2.out.k hb3) (.cells #[.int .i64 0, .int .i64 0, .slice none 0 0, .slice none 0 0] 25))
  clear hb3 c0 c1 c2 c3 y0 y1
  go_upto_region 4 with (fail)
  generalize w3.alloc (.cells #[.int .i64 0, .int .i64 0, .slice none 0 0, .slice none 0 0] 25) = w4 at K3 ⊢
  go_wp2_with (go_at_call 11; refine (LV.out _).mono ?_; rintro e w9 ⟨rfl, hb9⟩; have HB9 := Lib.hid hb9; clear hb9)
  go_ret
  exact ⟨rfl, bk_tr K3.out HB9.out⟩
end Go.Proofs.Ytjmmaaphadeokaa
