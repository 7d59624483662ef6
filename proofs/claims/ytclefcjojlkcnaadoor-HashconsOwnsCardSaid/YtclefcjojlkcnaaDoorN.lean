/- The reference Compare and Same. -/
import Derived.Test.YtclefcjojlkcnaaDoorM
namespace Go.Proofs.YtclefcjojlkcnaaDoor
open Go.RowKit
set_option linter.unusedVariables false
set_option linter.unusedSimpArgs false
def sg (b : Bool) : Int := if b = true then -1 else 1
theorem ci_eq (x : Int) : ci x x = 0 := by unfold ci; simp
theorem ci_ne {x y : Int} (h : x ≠ y) : ci x y = sg (decide (x < y)) := by
  unfold ci sg; by_cases h1 : x < y
  · simp [h1]
  · have h2 : y < x := by omega
    simp [h1, h2]
theorem sg_ne (b : Bool) : sg b ≠ 0 := by unfold sg; cases b <;> simp
theorem nz_zero (l : List Int) : nz (0 :: l) = nz l := rfl
theorem nz_ne {x : Int} (h : x ≠ 0) (l : List Int) : nz (x :: l) = x := by show (if x = 0 then _ else _) = _; rw [if_neg h]
theorem cs_eq {s t : ByteArray} (h : (s.toList == t.toList) = true) (hb : Op.bytesLess s.toList t.toList = false) : cs s t = 0 := by unfold cs; rw [hb, h]; rfl
theorem cs_ne {s t : ByteArray} (h : (s.toList == t.toList) = false) : cs s t = sg (Op.bytesLess s.toList t.toList) := by unfold cs sg; rw [h]; simp
theorem sign_t (b : Bool) (w : World) : Calls Tryd.prog 41 #[.bool b, .bool true] w fun e w' => e = .returned (.int .i64 (sg b)) ∧ w = w' := by
  have := sign41 b true w
  unfold sg
  simpa using this
theorem less_irr (l : List UInt8) : Op.bytesLess l l = false := by
  induction l with
  | nil => rfl
  | cons a l ih => simp [Op.bytesLess, ih]
theorem bk_drewN {a b : World} (h : BK a b) (q : Nat) : BK a (b.drewN q) := below_drewN (B := a.heap.size) (a := a) (w := b) h q
set_option maxRecDepth 100000 in
set_option maxHeartbeats 2000000 in
theorem cmp14 (op wd vl op' wd' vl' : Int) (nm nm' : ByteArray) (p q : Option Addr) (c d : Nat) (zs ys : List Int) (w : World) (hz : zs.length ≤ 1000) (hy : ys.length ≤ 1000) (h : Ra w p zs) (h' : Ra w q ys) : Calls Tryd.prog 14 #[.agg #[.int .i64 op, .int .i64 wd, .int .u64 vl, .string nm, .slice p zs.length c], .agg #[.int .i64 op', .int .i64 wd', .int .u64 vl', .string nm', .slice q ys.length d]] w fun e w' => e = .returned (.int .i64 (cmpN op wd vl op' wd' vl' nm nm' zs ys)) ∧ BK w w' := by
  have hk0 : BK w ((w.alloc (.cells #[.int .i64 op, .int .i64 wd, .int .u64 vl, .string nm, .slice p zs.length c] 26)).alloc (.cells #[.int .i64 op', .int .i64 wd', .int .u64 vl', .string nm', .slice q ys.length d] 26)) := bk_alloc (bk_alloc (BK.refl w) _) _
  have hx := (b5_new w (.int .i64 op) (.int .i64 wd) (.int .u64 vl) (.string nm) (.slice p zs.length c) 26).keep (bk_alloc (BK.refl _) (.cells #[.int .i64 op', .int .i64 wd', .int .u64 vl', .string nm', .slice q ys.length d] 26)) (by simp)
  have hy5 := b5_new (w.alloc (.cells #[.int .i64 op, .int .i64 wd, .int .u64 vl, .string nm, .slice p zs.length c] 26)) (.int .i64 op') (.int .i64 wd') (.int .u64 vl') (.string nm') (.slice q ys.length d) 26
  have hsz : ((w.alloc (.cells #[.int .i64 op, .int .i64 wd, .int .u64 vl, .string nm, .slice p zs.length c] 26)).alloc (.cells #[.int .i64 op', .int .i64 wd', .int .u64 vl', .string nm', .slice q ys.length d] 26)).heap.size = w.heap.size + 2 := by simp
  have hra := h.keep hk0
  have hrb := h'.keep hk0
  rw [show (w.alloc (.cells #[.int .i64 op, .int .i64 wd, .int .u64 vl, .string nm, .slice p zs.length c] 26)).heap.size = w.heap.size + 1 by simp] at hy5
  clear h h'
  go_enter Tryd.func14, Tryd.ntmps14
  go_wp2_with fail
  all_goals (
    generalize (w.alloc (.cells #[.int .i64 op, .int .i64 wd, .int .u64 vl, .string nm, .slice p zs.length c] 26)).alloc (.cells #[.int .i64 op', .int .i64 wd', .int .u64 vl', .string nm', .slice q ys.length d] 26) = w0 at hk0 hx hy5 hsz hra hrb ⊢
    have KC := Lib.hid (fun wc (hb : BK w0 wc) => And.intro (hx.keep hb (by omega)) (hy5.keep hb (by omega)))
    have RA := Lib.hid hra
    have RB := Lib.hid hrb
    have HK0 := Lib.hid hk0
    have k0 := BK.refl w0
    clear hk0 hsz hra hrb
    obtain ⟨x0, x1, x2, x3, x4⟩ := hx
    obtain ⟨y0, y1, y2, y3, y4⟩ := hy5
  )
  · have ho : op ≠ op' := by simpa using ‹(op != op') = true›
    have hr := Lib.hid (show cmpN op wd vl op' wd' vl' nm nm' zs ys = sg (decide (op < op')) by unfold cmpN; rw [ci_ne ho, nz_ne (sg_ne _)])
    clear ho
    go_wp2_with (go_at_call 41; refine (sign_t _ _).mono ?_; rintro e w' ⟨rfl, rfl⟩)
    go_ret
    exact ⟨ret_int' hr.out.symm, HK0.out⟩
  · have ho : op = op' := by simpa using ‹(op != op') = false›
    have hw : wd ≠ wd' := by simpa using ‹(wd != wd') = true›
    have hr := Lib.hid (show cmpN op wd vl op' wd' vl' nm nm' zs ys = sg (decide (wd < wd')) by unfold cmpN; rw [ho, ci_eq, nz_zero, ci_ne hw, nz_ne (sg_ne _)])
    clear ho hw
    go_wp2_with (go_at_call 41; refine (sign_t _ _).mono ?_; rintro e w' ⟨rfl, rfl⟩)
    go_ret
    exact ⟨ret_int' hr.out.symm, HK0.out⟩
  · have ho : op = op' := by simpa using ‹(op != op') = false›
    have hw : wd = wd' := by simpa using ‹(wd != wd') = false›
    have hv : vl ≠ vl' := by simpa using ‹(vl != vl') = true›
    have hr := Lib.hid (show cmpN op wd vl op' wd' vl' nm nm' zs ys = sg (decide (vl < vl')) by unfold cmpN; rw [ho, hw, ci_eq, ci_eq, nz_zero, nz_zero, ci_ne hv, nz_ne (sg_ne _)])
    clear ho hw hv
    go_wp2_with (go_at_call 41; refine (sign_t _ _).mono ?_; rintro e w' ⟨rfl, rfl⟩)
    go_ret
    exact ⟨ret_int' hr.out.symm, HK0.out⟩
  · have ho : op = op' := by simpa using ‹(op != op') = false›
    have hw : wd = wd' := by simpa using ‹(wd != wd') = false›
    have hv : vl = vl' := by simpa using ‹(vl != vl') = false›
    have hs : (nm.toList == nm'.toList) = false := by simpa using ‹(!nm.toList == nm'.toList) = true›
    have hr := Lib.hid (show cmpN op wd vl op' wd' vl' nm nm' zs ys = sg (Op.bytesLess nm.toList nm'.toList) by unfold cmpN; rw [ho, hw, hv, ci_eq, ci_eq, ci_eq, nz_zero, nz_zero, nz_zero, cs_ne hs, nz_ne (sg_ne _)])
    clear ho hw hv hs
    go_wp2_with (go_at_call 41; refine (sign_t _ _).mono ?_; rintro e w' ⟨rfl, rfl⟩)
    go_ret
    exact ⟨ret_int' hr.out.symm, HK0.out⟩
  · have ho : op = op' := by simpa using ‹(op != op') = false›
    have hw : wd = wd' := by simpa using ‹(wd != wd') = false›
    have hv : vl = vl' := by simpa using ‹(vl != vl') = false›
    have hs : (nm.toList == nm'.toList) = true := by simpa using ‹(!nm.toList == nm'.toList) = false›
    have hcs : cs nm nm' = 0 := cs_eq hs (by rw [eq_of_beq hs]; exact less_irr _)
    have hl : zs.length ≠ ys.length := by
      have h9 := ‹((zs.length : Int) != (ys.length : Int)) = true›
      rw [bne_iff_ne] at h9
      omega
    have hr := Lib.hid (show cmpN op wd vl op' wd' vl' nm nm' zs ys = sg (decide ((zs.length : Int) < (ys.length : Int))) by unfold cmpN; rw [ho, hw, hv, hcs, ci_eq, ci_eq, ci_eq, nz_zero, nz_zero, nz_zero, nz_zero, ci_ne (by omega), nz_ne (sg_ne _)])
    clear ho hw hv hs hl hcs
    go_wp2_with (go_at_call 41; refine (sign_t _ _).mono ?_; rintro e w' ⟨rfl, rfl⟩)
    go_ret
    exact ⟨ret_int' (by rw [hr.out]; simp), HK0.out⟩
  have ho : op = op' := by simpa using ‹(op != op') = false›
  have hw : wd = wd' := by simpa using ‹(wd != wd') = false›
  have hv : vl = vl' := by simpa using ‹(vl != vl') = false›
  have hs : (nm.toList == nm'.toList) = true := by simpa using ‹(!nm.toList == nm'.toList) = false›
  have hcs : cs nm nm' = 0 := cs_eq hs (by rw [eq_of_beq hs]; exact less_irr _)
  have hl : zs.length = ys.length := by
    have h9 := ‹((zs.length : Int) != (ys.length : Int)) = false›
    rw [bne_eq_false_iff_eq] at h9
    omega
  have hr := Lib.hid (show cmpN op wd vl op' wd' vl' nm nm' zs ys = sl zs ys by
    unfold cmpN; rw [ho, hw, hv, hcs, hl, ci_eq, ci_eq, ci_eq, ci_eq, nz_zero, nz_zero, nz_zero, nz_zero, nz_zero]
    show (if sl zs ys = 0 then 0 else sl zs ys) = sl zs ys
    split
    · rename_i h; rw [h]
    · rfl)
  have HL := Lib.hid hl
  clear ho hw hv hs hl hcs
  go_loopw [5] (fun x wr => ∃ k : Nat, k ≤ zs.length ∧ x = .int .i64 k ∧ cmpN op wd vl op' wd' vl' nm nm' zs ys = sl (zs.drop k) (ys.drop k) ∧ BK w0 wr) (fun x _ => zs.length - (intOf x).toNat)
  case atStart => exact ⟨0, Nat.zero_le _, rfl, by simpa using hr.out, by first | exact k0 | exact bk_drew k0⟩
  case round =>
    obtain ⟨k, hk, rfl, hs, hk1⟩ := hrel
    have Hb := Lib.hid hk1
    obtain ⟨-, -, -, -, x4'⟩ := (KC.out wr hk1).1
    obtain ⟨-, -, -, -, y4'⟩ := (KC.out wr hk1).2
    clear x0 x1 x2 x3 x4 y0 y1 y2 y3 y4
    by_cases hlt : k < zs.length
    · have hly : k < ys.length := by have := HL.out; omega
      obtain ⟨b, off, rfl, hlb, hcell⟩ := (RA.out.keep hk1) (by omega)
      have d1 := hcell k hlt
      clear hcell
      obtain ⟨b', off', rfl, hlb', hcell'⟩ := (RB.out.keep hk1) (by omega)
      have d2 := hcell' k hly
      have HS := Lib.hid (hs.trans (sl_drop zs ys k hlt hly))
      clear hcell' hs
      generalize zs.getD k 0 = x at d1 HS
      generalize ys.getD k 0 = y at d2 HS
      by_cases hx : x = y
      · have hb : (x != y) = false := by simp [hx]
        have HX := Lib.hid hx
        clear hx
        go_wp2_with fail
        go_quiet (fail)
        go_wp2_with fail
        go_roundw
        case rel => exact ⟨k + 1, by omega, by go_num, by rw [HS.out, if_pos (by rw [HX.out]; exact ci_eq _)], bk_drewN Hb.out _⟩
        case measure => simp [intOf]; omega
      · have hb : (x != y) = true := by simp [hx]
        have HX := Lib.hid hx
        clear hx
        go_wp2_with fail
        go_quiet (fail)
        have hk2 := bk_drewN Hb.out nq
        have x5 : (wr.drewN nq).cell? ⟨w.heap.size, 4, none⟩ = some (.slice (some ⟨b, off, none⟩) zs.length c) := x4'
        have y5 : (wr.drewN nq).cell? ⟨w.heap.size + 1, 4, none⟩ = some (.slice (some ⟨b', off', none⟩) ys.length d) := y4'
        have e1 : (wr.drewN nq).cell? ⟨b, off + k, none⟩ = some (.int .i64 x) := d1
        have e2 : (wr.drewN nq).cell? ⟨b', off' + k, none⟩ = some (.int .i64 y) := d2
        clear x4' y4' d1 d2 hlb hlb' hk1
        generalize wr.drewN nq = w2 at hk2 x5 y5 e1 e2 ⊢
        have HK2 := Lib.hid hk2
        clear hk2
        go_wp2_with fail
        go_region_with (go_at_call 41; refine (sign_t _ _).mono ?_; rintro e w' ⟨rfl, rfl⟩)
        all_goals go_wp2_with fail
        all_goals go_ret
        all_goals exact ⟨ret_int' (by rw [HS.out, if_neg (by rw [ci_ne HX.out]; exact sg_ne _), ci_ne HX.out]), by first | exact bk_tr HK0.out HK2.out | exact bk_tr HK0.out (bk_drew HK2.out) | exact bk_tr HK0.out (bk_drewN HK2.out _)⟩
    · have HS := Lib.hid (hs.trans (sl_end zs ys k (by omega)))
      clear hs
      go_wp2_with fail
      go_ret
      exact ⟨ret_int' (by rw [HS.out, if_neg (by have := HL.out; omega)]), by first | exact bk_tr HK0.out Hb.out | exact bk_tr HK0.out (bk_drew Hb.out)⟩
set_option maxHeartbeats 400000 in
theorem same16 (op wd vl op' wd' vl' : Int) (nm nm' : ByteArray) (p q : Option Addr) (c d : Nat) (zs ys : List Int) (w : World) (hz : zs.length ≤ 1000) (hy : ys.length ≤ 1000) (h : Ra w p zs) (h' : Ra w q ys) : Calls Tryd.prog 16 #[.agg #[.int .i64 op, .int .i64 wd, .int .u64 vl, .string nm, .slice p zs.length c], .agg #[.int .i64 op', .int .i64 wd', .int .u64 vl', .string nm', .slice q ys.length d]] w fun e w' => e = .returned (.bool (cmpN op wd vl op' wd' vl' nm nm' zs ys == 0)) ∧ BK w w' := by
  have hk0 : BK w ((w.alloc (.cells #[.int .i64 op, .int .i64 wd, .int .u64 vl, .string nm, .slice p zs.length c] 26)).alloc (.cells #[.int .i64 op', .int .i64 wd', .int .u64 vl', .string nm', .slice q ys.length d] 26)) := bk_alloc (bk_alloc (BK.refl w) _) _
  have hx := (b5_new w (.int .i64 op) (.int .i64 wd) (.int .u64 vl) (.string nm) (.slice p zs.length c) 26).keep (bk_alloc (BK.refl _) (.cells #[.int .i64 op', .int .i64 wd', .int .u64 vl', .string nm', .slice q ys.length d] 26)) (by simp)
  have hy5 := b5_new (w.alloc (.cells #[.int .i64 op, .int .i64 wd, .int .u64 vl, .string nm, .slice p zs.length c] 26)) (.int .i64 op') (.int .i64 wd') (.int .u64 vl') (.string nm') (.slice q ys.length d) 26
  have hsz : ((w.alloc (.cells #[.int .i64 op, .int .i64 wd, .int .u64 vl, .string nm, .slice p zs.length c] 26)).alloc (.cells #[.int .i64 op', .int .i64 wd', .int .u64 vl', .string nm', .slice q ys.length d] 26)).heap.size = w.heap.size + 2 := by simp
  have hra := h.keep hk0
  have hrb := h'.keep hk0
  rw [show (w.alloc (.cells #[.int .i64 op, .int .i64 wd, .int .u64 vl, .string nm, .slice p zs.length c] 26)).heap.size = w.heap.size + 1 by simp] at hy5
  clear h h'
  go_enter Tryd.func16, Tryd.ntmps16
  go_wp2_with fail
  generalize (w.alloc (.cells #[.int .i64 op, .int .i64 wd, .int .u64 vl, .string nm, .slice p zs.length c] 26)).alloc (.cells #[.int .i64 op', .int .i64 wd', .int .u64 vl', .string nm', .slice q ys.length d] 26) = w0 at hk0 hx hy5 hsz hra hrb ⊢
  have KC := Lib.hid (fun wc (hb : BK w0 wc) => And.intro (hx.keep hb (by omega)) (hy5.keep hb (by omega)))
  have RA := Lib.hid hra
  have RB := Lib.hid hrb
  have HK0 := Lib.hid hk0
  have k0 := BK.refl w0
  clear hk0 hsz hra hrb
  refine (cmp14 op wd vl op' wd' vl' nm nm' p q c d zs ys w0 hz hy RA.out RB.out).mono ?_
  rintro e w1 ⟨rfl, hb1⟩
  have H1 := Lib.hid (bk_tr HK0.out hb1)
  clear hb1 hx hy5
  generalize hcr : cmpN op wd vl op' wd' vl' nm nm' zs ys = r
  have HC := Lib.hid hcr
  clear hcr
  go_wp2_with fail
  go_ret
  exact ⟨ret_bool (by rw [HC.out]), H1.out⟩
end Go.Proofs.YtclefcjojlkcnaaDoor
