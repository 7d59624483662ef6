/- withRefs, over the other closure. -/
import Derived.Test.YtnlpiaejfmdckaaDoorK
namespace Go.Proofs.YtnlpiaejfmdckaaDoor
open Go.RowKit
set_option linter.unusedVariables false
set_option linter.unusedSimpArgs false
set_option maxRecDepth 100000 in
set_option maxHeartbeats 8000000 in
theorem with46_t (s : S) (q : Pt) (f : Int → Int) (cb : Nat) (w : World) (hs : okQ s) (hp : Ps (mem 0 w) w s q) (hc : ∀ r ∈ s.rf, ∀ wc, BK w wc → Calls Tryd.prog 47 #[.int .i64 r, .pointer (some ⟨cb, 0, none⟩)] wc fun e w' => e = .returned (.int .i64 (f r)) ∧ wc = w') :
    Calls Tryd.prog 46 #[.agg (cS s q), .func (.func 47) #[] #[.pointer (some ⟨cb, 0, none⟩)]] w (WR w (sMap s f)) := by
  obtain ⟨q1, d1, q2, d2, q3, d3, q4, d4⟩ := q
  obtain ⟨h1, h2, h3⟩ := two_boxes w (cS s ⟨q1, d1, q2, d2, q3, d3, q4, d4⟩) zS 44 44
  have KA := Lib.hid h1
  have NA := Lib.hid h2
  have NB := Lib.hid h3
  have P1 := Lib.hid (hp.bk h1 (Nat.le_refl _))
  have HC := Lib.hid (fun r hr wc (hb : BK ((w.alloc (.cells (cS s ⟨q1, d1, q2, d2, q3, d3, q4, d4⟩) 44)).alloc (.cells zS 44)) wc) => hc r hr wc (bk_tr h1 hb))
  have HS := Lib.hid hs
  have SZ := Lib.hid (show ((w.alloc (.cells (cS s ⟨q1, d1, q2, d2, q3, d3, q4, d4⟩) 44)).alloc (.cells zS 44)).heap.size = w.heap.size + 2 from by rw [sz1, sz1])
  have x1 := cell_of_row _ w.heap.size 1 _ 44 (0, 0) h2
  clear h1 h2 h3 hp hc hs
  unfold zS at *
  rw [cS_eq] at *
  dsimp only at *
  go_enter Tryd.func46, Tryd.ntmps46
  go_wp2_with fail
  generalize (w.alloc (.cells #[.int .i64 s.k, .slice q1 s.rf.length d1, .int .i64 s.ru, .slice q2 s.sb.length d2, .int .i64 s.a.op, .int .i64 s.a.wd, .int .u64 s.a.vl, .string s.a.nm, .slice q3 s.a.ts.length d3, .int .i64 s.b.op, .int .i64 s.b.wd, .int .u64 s.b.vl, .string s.b.nm, .slice q4 s.b.ts.length d4] 44)).alloc (.cells #[.int .i64 0, .slice none 0 0, .int .i64 0, .slice none 0 0, .int .i64 0, .int .i64 0, .int .u64 0, .string ⟨#[]⟩, .slice none 0 0, .int .i64 0, .int .i64 0, .int .u64 0, .string ⟨#[]⟩, .slice none 0 0] 44) = w1 at *
  clear x1
  go_loopw [14, 5] (fun iv xv wr => ∃ j : Nat, j ≤ s.rf.length ∧ iv = .int .i64 (j : Int) ∧ LI w1.heap.size wr xv ((s.rf.take j).map f) ∧ BK w1 wr) (fun iv _ _ => s.rf.length - (intOf iv).toNat)
  case atStart => exact ⟨0, Nat.zero_le _, rfl, LI.nil _ _, BK.refl _⟩
  case round =>
    obtain ⟨j, hj, rfl, hli, hb⟩ := hrel
    have LL := Lib.hid hli
    have KB := Lib.hid hb
    clear hli hb
    by_cases e : j = s.rf.length
    · have hd : decide (j < s.rf.length) = false := by simp [e]
      have L2 := LL.out
      rw [List.take_of_length_le (by omega)] at L2
      have LF := Lib.hid L2
      clear L2 LL
      obtain ⟨p5, c5, hv5⟩ := LF.out.shape
      have N2 := Lib.hid ((bk_block KB.out (Array.getElem?_eq_some_iff.1 NA.out).1).trans NA.out)
      have x3 := cell_of_row _ w.heap.size 3 _ 44 (0, 0) N2.out
      subst hv5
      rw [List.length_map] at LF
      subst e
      rw [List.length_map]
      go_wp2_with fail
      clear x3
      have KF := Lib.hid KB.out
      clear KB
      obtain ⟨wf, hwf⟩ : ∃ x, x = wr := ⟨_, rfl⟩
      subst hwf
      go_loopw [28, 8] (fun iv xv wr => ∃ j : Nat, j ≤ s.sb.length ∧ iv = .int .i64 (j : Int) ∧ GL wf.heap.size 56 6 wr xv j (PU (s.sb.take j)) ∧ BK wf wr) (fun iv _ _ => s.sb.length - (intOf iv).toNat)
      case atStart => exact ⟨0, Nat.zero_le _, rfl, GL.nil _ _ _ _ _, BK.refl _⟩
      case round =>
        obtain ⟨j, hj, rfl, hgl, hb⟩ := hrel
        have GG := Lib.hid hgl
        have KB := Lib.hid hb
        clear hgl hb
        by_cases e : j = s.sb.length
        · have hd : decide (j < s.sb.length) = false := by simp [e]
          have G2 := GG.out
          rw [List.take_of_length_le (by omega), e] at G2
          obtain ⟨p8, c8, rfl⟩ := G2.shape
          have RU := Lib.hid (gl_rowU G2)
          have RI := Lib.hid ((LI.row (p := p5) (c := c5) (zs := s.rf.map f) (by rw [List.length_map]; exact LF.out)).bk KB.out (Nat.le_refl _))
          have N3 := Lib.hid ((bk_block KB.out (Array.getElem?_eq_some_iff.1 N2.out).1).trans N2.out)
          have M3 := Lib.hid ((bk_block KB.out (by have := (Array.getElem?_eq_some_iff.1 NB.out).1; exact Nat.lt_of_lt_of_le this (bk_size KF.out))).trans ((bk_block KF.out (Array.getElem?_eq_some_iff.1 NB.out).1).trans NB.out))
          have KW := Lib.hid (bk_tr KF.out KB.out)
          have CA := Lib.hid (fun wc (hb : BK wr wc) => copyT s.a HS.out.2.2.2.1 wc q3 d3 (((show RowD (mem 0 w1) w1 q3 d3 s.a.ts from P1.out.a).bk KW.out (Nat.le_refl _)).bk hb (Nat.le_refl _)))
          have CB := Lib.hid (fun wc (hb : BK wr wc) => copyT s.b HS.out.2.2.2.2 wc q4 d4 (((show RowD (mem 0 w1) w1 q4 d4 s.b.ts from P1.out.b).bk KW.out (Nat.le_refl _)).bk hb (Nat.le_refl _)))
          have L1 := Lib.hid (show w1.heap.size ≤ wf.heap.size from bk_size KF.out)
          have L2 := Lib.hid (show wf.heap.size ≤ wr.heap.size from bk_size KB.out)
          clear G2 GG LF
          have en : j = s.sb.length := e
          subst en
          clear hj e
          unfold CP at CA CB
          have x0 := cell_of_row wr w.heap.size 0 _ 44 (0, 0) N3.out
          have x1 := cell_of_row wr w.heap.size 1 _ 44 (0, 0) N3.out
          have x2 := cell_of_row wr w.heap.size 2 _ 44 (0, 0) N3.out
          have x3 := cell_of_row wr w.heap.size 3 _ 44 (0, 0) N3.out
          have x4 := cell_of_row wr w.heap.size 4 _ 44 (0, 0) N3.out
          have x5 := cell_of_row wr w.heap.size 5 _ 44 (0, 0) N3.out
          have x6 := cell_of_row wr w.heap.size 6 _ 44 (0, 0) N3.out
          have x7 := cell_of_row wr w.heap.size 7 _ 44 (0, 0) N3.out
          have x8 := cell_of_row wr w.heap.size 8 _ 44 (0, 0) N3.out
          have x9 := cell_of_row wr w.heap.size 9 _ 44 (0, 0) N3.out
          have x10 := cell_of_row wr w.heap.size 10 _ 44 (0, 0) N3.out
          have x11 := cell_of_row wr w.heap.size 11 _ 44 (0, 0) N3.out
          have x12 := cell_of_row wr w.heap.size 12 _ 44 (0, 0) N3.out
          have x13 := cell_of_row wr w.heap.size 13 _ 44 (0, 0) N3.out
          go_wp2_with fail
          go_region_with (first
            | (go_at_call_of 62 (Value.string s.a.nm); refine (CA.out _ ?_).mono ?_; exact bk_drew (BK.refl _); rintro e w4 ⟨⟨q6, d6, rfl, hr6⟩, hb6⟩; have K4 := Lib.hid hb6; have R6 := Lib.hid hr6; have N4 := Lib.hid ((bk_block (of_drew K4.out) (Array.getElem?_eq_some_iff.1 N3.out).1).trans N3.out); have y0 := cell_of_row w4 w.heap.size 0 _ 44 (0, 0) N4.out; have y1 := cell_of_row w4 w.heap.size 1 _ 44 (0, 0) N4.out; have y2 := cell_of_row w4 w.heap.size 2 _ 44 (0, 0) N4.out; have y3 := cell_of_row w4 w.heap.size 3 _ 44 (0, 0) N4.out; have y4 := cell_of_row w4 w.heap.size 4 _ 44 (0, 0) N4.out; have y5 := cell_of_row w4 w.heap.size 5 _ 44 (0, 0) N4.out; have y6 := cell_of_row w4 w.heap.size 6 _ 44 (0, 0) N4.out; have y7 := cell_of_row w4 w.heap.size 7 _ 44 (0, 0) N4.out; have y8 := cell_of_row w4 w.heap.size 8 _ 44 (0, 0) N4.out; have y9 := cell_of_row w4 w.heap.size 9 _ 44 (0, 0) N4.out; have y10 := cell_of_row w4 w.heap.size 10 _ 44 (0, 0) N4.out; have y11 := cell_of_row w4 w.heap.size 11 _ 44 (0, 0) N4.out; have y12 := cell_of_row w4 w.heap.size 12 _ 44 (0, 0) N4.out; have y13 := cell_of_row w4 w.heap.size 13 _ 44 (0, 0) N4.out; clear hb6 hr6)
            | (go_at_call_of 62 (Value.string s.b.nm); refine (CB.out _ ?_).mono ?_; exact of_drew K4.out; rintro e w5 ⟨⟨q7, d7, rfl, hr7⟩, hb7⟩; have K5 := Lib.hid hb7; have R7 := Lib.hid hr7; have N5 := Lib.hid ((bk_block K5.out (Array.getElem?_eq_some_iff.1 N4.out).1).trans N4.out); have v0 := cell_of_row w5 w.heap.size 0 _ 44 (0, 0) N5.out; have v1 := cell_of_row w5 w.heap.size 1 _ 44 (0, 0) N5.out; have v2 := cell_of_row w5 w.heap.size 2 _ 44 (0, 0) N5.out; have v3 := cell_of_row w5 w.heap.size 3 _ 44 (0, 0) N5.out; have v4 := cell_of_row w5 w.heap.size 4 _ 44 (0, 0) N5.out; have v5 := cell_of_row w5 w.heap.size 5 _ 44 (0, 0) N5.out; have v6 := cell_of_row w5 w.heap.size 6 _ 44 (0, 0) N5.out; have v7 := cell_of_row w5 w.heap.size 7 _ 44 (0, 0) N5.out; have v8 := cell_of_row w5 w.heap.size 8 _ 44 (0, 0) N5.out; have v9 := cell_of_row w5 w.heap.size 9 _ 44 (0, 0) N5.out; have v10 := cell_of_row w5 w.heap.size 10 _ 44 (0, 0) N5.out; have v11 := cell_of_row w5 w.heap.size 11 _ 44 (0, 0) N5.out; have v12 := cell_of_row w5 w.heap.size 12 _ 44 (0, 0) N5.out; have v13 := cell_of_row w5 w.heap.size 13 _ 44 (0, 0) N5.out; have f1 := frozen_of_row w5 w.heap.size 1 _ 44 N5.out; have f3 := frozen_of_row w5 w.heap.size 3 _ 44 N5.out; have f4 := frozen_of_row w5 w.heap.size 4 _ 44 N5.out; have f5 := frozen_of_row w5 w.heap.size 5 _ 44 N5.out; have f6 := frozen_of_row w5 w.heap.size 6 _ 44 N5.out; have f7 := frozen_of_row w5 w.heap.size 7 _ 44 N5.out; have f8 := frozen_of_row w5 w.heap.size 8 _ 44 N5.out; have f9 := frozen_of_row w5 w.heap.size 9 _ 44 N5.out; have f10 := frozen_of_row w5 w.heap.size 10 _ 44 N5.out; have f11 := frozen_of_row w5 w.heap.size 11 _ 44 N5.out; have f12 := frozen_of_row w5 w.heap.size 12 _ 44 N5.out; have f13 := frozen_of_row w5 w.heap.size 13 _ 44 N5.out; clear hb7 hr7))
          all_goals
            have NZ := Lib.hid (set12 N5.out (.slice p5 s.rf.length c5) (.slice p8 s.sb.length c8) (.int .i64 s.a.op) (.int .i64 s.a.wd) (.int .u64 s.a.vl) (.string s.a.nm) (.slice q6 s.a.ts.length d6) (.int .i64 s.b.op) (.int .i64 s.b.wd) (.int .u64 s.b.vl) (.string s.b.nm) (.slice q7 s.b.ts.length d7))
            have SZ5 := Lib.hid (set12_st w5 w.heap.size (.slice p5 s.rf.length c5) (.slice p8 s.sb.length c8) (.int .i64 s.a.op) (.int .i64 s.a.wd) (.int .u64 s.a.vl) (.string s.a.nm) (.slice q6 s.a.ts.length d6) (.int .i64 s.b.op) (.int .i64 s.b.wd) (.int .u64 s.b.vl) (.string s.b.nm) (.slice q7 s.b.ts.length d7))
            have K15 := Lib.hid (bk_tr (of_drew K4.out) K5.out)
            have MZ := Lib.hid ((SZ5.out.block (w.heap.size + 1) (by have h1 := (Array.getElem?_eq_some_iff.1 M3.out).1; exact Nat.lt_of_lt_of_le h1 (bk_size K15.out)) (fun h => by have h : w.heap.size + 1 = w.heap.size := h; omega)).trans ((bk_block K15.out (Array.getElem?_eq_some_iff.1 M3.out).1).trans M3.out))
            clear N5 N4 y0 y1 y2 y3 y4 y5 y6 y7 y8 y9 y10 y11 y12 y13 v0 v1 v2 v3 v4 v5 v6 v7 v8 v9 v10 v11 v12 v13 f1 f3 f4 f5 f6 f7 f8 f9 f10 f11 f12 f13 x0 x1 x2 x3 x4 x5 x6 x7 x8 x9 x10 x11 x12 x13
            generalize ((((((((((((w5.setCell ⟨w.heap.size, 1, none⟩ (.slice p5 s.rf.length c5)).setCell ⟨w.heap.size, 3, none⟩ (.slice p8 s.sb.length c8)).setCell ⟨w.heap.size, 4, none⟩ (.int .i64 s.a.op)).setCell ⟨w.heap.size, 5, none⟩ (.int .i64 s.a.wd)).setCell ⟨w.heap.size, 6, none⟩ (.int .u64 s.a.vl)).setCell ⟨w.heap.size, 7, none⟩ (.string s.a.nm)).setCell ⟨w.heap.size, 8, none⟩ (.slice q6 s.a.ts.length d6)).setCell ⟨w.heap.size, 9, none⟩ (.int .i64 s.b.op)).setCell ⟨w.heap.size, 10, none⟩ (.int .i64 s.b.wd)).setCell ⟨w.heap.size, 11, none⟩ (.int .u64 s.b.vl)).setCell ⟨w.heap.size, 12, none⟩ (.string s.b.nm)).setCell ⟨w.heap.size, 13, none⟩ (.slice q7 s.b.ts.length d7)) = wz at *
            have x0 := cell_of_row wz w.heap.size 0 _ 44 (0, 0) NZ.out
            have x1 := cell_of_row wz w.heap.size 1 _ 44 (0, 0) NZ.out
            have x2 := cell_of_row wz w.heap.size 2 _ 44 (0, 0) NZ.out
            have x3 := cell_of_row wz w.heap.size 3 _ 44 (0, 0) NZ.out
            have x4 := cell_of_row wz w.heap.size 4 _ 44 (0, 0) NZ.out
            have x5 := cell_of_row wz w.heap.size 5 _ 44 (0, 0) NZ.out
            have x6 := cell_of_row wz w.heap.size 6 _ 44 (0, 0) NZ.out
            have x7 := cell_of_row wz w.heap.size 7 _ 44 (0, 0) NZ.out
            have x8 := cell_of_row wz w.heap.size 8 _ 44 (0, 0) NZ.out
            have x9 := cell_of_row wz w.heap.size 9 _ 44 (0, 0) NZ.out
            have x10 := cell_of_row wz w.heap.size 10 _ 44 (0, 0) NZ.out
            have x11 := cell_of_row wz w.heap.size 11 _ 44 (0, 0) NZ.out
            have x12 := cell_of_row wz w.heap.size 12 _ 44 (0, 0) NZ.out
            have x13 := cell_of_row wz w.heap.size 13 _ 44 (0, 0) NZ.out
            have y0 := cell_of_row wz (w.heap.size + 1) 0 _ 44 (0, 0) MZ.out
            have y1 := cell_of_row wz (w.heap.size + 1) 1 _ 44 (0, 0) MZ.out
            have y2 := cell_of_row wz (w.heap.size + 1) 2 _ 44 (0, 0) MZ.out
            have y3 := cell_of_row wz (w.heap.size + 1) 3 _ 44 (0, 0) MZ.out
            have y4 := cell_of_row wz (w.heap.size + 1) 4 _ 44 (0, 0) MZ.out
            have y5 := cell_of_row wz (w.heap.size + 1) 5 _ 44 (0, 0) MZ.out
            have y6 := cell_of_row wz (w.heap.size + 1) 6 _ 44 (0, 0) MZ.out
            have y7 := cell_of_row wz (w.heap.size + 1) 7 _ 44 (0, 0) MZ.out
            have y8 := cell_of_row wz (w.heap.size + 1) 8 _ 44 (0, 0) MZ.out
            have y9 := cell_of_row wz (w.heap.size + 1) 9 _ 44 (0, 0) MZ.out
            have y10 := cell_of_row wz (w.heap.size + 1) 10 _ 44 (0, 0) MZ.out
            have y11 := cell_of_row wz (w.heap.size + 1) 11 _ 44 (0, 0) MZ.out
            have y12 := cell_of_row wz (w.heap.size + 1) 12 _ 44 (0, 0) MZ.out
            have y13 := cell_of_row wz (w.heap.size + 1) 13 _ 44 (0, 0) MZ.out
            have g0 := frozen_of_row wz (w.heap.size + 1) 0 _ 44 MZ.out
            have g1 := frozen_of_row wz (w.heap.size + 1) 1 _ 44 MZ.out
            have g2 := frozen_of_row wz (w.heap.size + 1) 2 _ 44 MZ.out
            have g3 := frozen_of_row wz (w.heap.size + 1) 3 _ 44 MZ.out
            have g4 := frozen_of_row wz (w.heap.size + 1) 4 _ 44 MZ.out
            have g5 := frozen_of_row wz (w.heap.size + 1) 5 _ 44 MZ.out
            have g6 := frozen_of_row wz (w.heap.size + 1) 6 _ 44 MZ.out
            have g7 := frozen_of_row wz (w.heap.size + 1) 7 _ 44 MZ.out
            have g8 := frozen_of_row wz (w.heap.size + 1) 8 _ 44 MZ.out
            have g9 := frozen_of_row wz (w.heap.size + 1) 9 _ 44 MZ.out
            have g10 := frozen_of_row wz (w.heap.size + 1) 10 _ 44 MZ.out
            have g11 := frozen_of_row wz (w.heap.size + 1) 11 _ 44 MZ.out
            have g12 := frozen_of_row wz (w.heap.size + 1) 12 _ 44 MZ.out
            have g13 := frozen_of_row wz (w.heap.size + 1) 13 _ 44 MZ.out
            have MF := Lib.hid (set14 MZ.out (.int .i64 s.k) (.slice p5 s.rf.length c5) (.int .i64 s.ru) (.slice p8 s.sb.length c8) (.int .i64 s.a.op) (.int .i64 s.a.wd) (.int .u64 s.a.vl) (.string s.a.nm) (.slice q6 s.a.ts.length d6) (.int .i64 s.b.op) (.int .i64 s.b.wd) (.int .u64 s.b.vl) (.string s.b.nm) (.slice q7 s.b.ts.length d7))
            have SF := Lib.hid (set14_st wz (w.heap.size + 1) (.int .i64 s.k) (.slice p5 s.rf.length c5) (.int .i64 s.ru) (.slice p8 s.sb.length c8) (.int .i64 s.a.op) (.int .i64 s.a.wd) (.int .u64 s.a.vl) (.string s.a.nm) (.slice q6 s.a.ts.length d6) (.int .i64 s.b.op) (.int .i64 s.b.wd) (.int .u64 s.b.vl) (.string s.b.nm) (.slice q7 s.b.ts.length d7))
            go_wp2_with fail
            generalize ((((((((((((((wz.setCell ⟨(w.heap.size + 1), 0, none⟩ (.int .i64 s.k)).setCell ⟨(w.heap.size + 1), 1, none⟩ (.slice p5 s.rf.length c5)).setCell ⟨(w.heap.size + 1), 2, none⟩ (.int .i64 s.ru)).setCell ⟨(w.heap.size + 1), 3, none⟩ (.slice p8 s.sb.length c8)).setCell ⟨(w.heap.size + 1), 4, none⟩ (.int .i64 s.a.op)).setCell ⟨(w.heap.size + 1), 5, none⟩ (.int .i64 s.a.wd)).setCell ⟨(w.heap.size + 1), 6, none⟩ (.int .u64 s.a.vl)).setCell ⟨(w.heap.size + 1), 7, none⟩ (.string s.a.nm)).setCell ⟨(w.heap.size + 1), 8, none⟩ (.slice q6 s.a.ts.length d6)).setCell ⟨(w.heap.size + 1), 9, none⟩ (.int .i64 s.b.op)).setCell ⟨(w.heap.size + 1), 10, none⟩ (.int .i64 s.b.wd)).setCell ⟨(w.heap.size + 1), 11, none⟩ (.int .u64 s.b.vl)).setCell ⟨(w.heap.size + 1), 12, none⟩ (.string s.b.nm)).setCell ⟨(w.heap.size + 1), 13, none⟩ (.slice q7 s.b.ts.length d7)) = wF at *
            have HK := Lib.hid (fun i (h1 : w1.heap.size ≤ i) (h2 : i < w5.heap.size) => show wF.heap[i]? = w5.heap[i]? from (SF.out.block i (Nat.lt_of_lt_of_le h2 SZ5.out.size) (fun h => by have h : i = w.heap.size + 1 := h; have := SZ.out; omega)).trans (SZ5.out.block i h2 (fun h => by have h : i = w.heap.size := h; have := SZ.out; omega)))
            have HZ := Lib.hid (show w5.heap.size ≤ wF.heap.size from Nat.le_trans SZ5.out.size SF.out.size)
            have HL := Lib.hid (show w1.heap.size = w.heap.size + 2 from SZ.out)
            exact bodyPost_ret (v := .agg #[.int .i64 s.k, .slice p5 s.rf.length c5, .int .i64 s.ru, .slice p8 s.sb.length c8, .int .i64 s.a.op, .int .i64 s.a.wd, .int .u64 s.a.vl, .string s.a.nm, .slice q6 s.a.ts.length d6, .int .i64 s.b.op, .int .i64 s.b.wd, .int .u64 s.b.vl, .string s.b.nm, .slice q7 s.b.ts.length d7]) (results_cell_row Tryd.results46 _ _ (w.heap.size + 1) 44 #[.int .i64 s.k, .slice p5 s.rf.length c5, .int .i64 s.ru, .slice p8 s.sb.length c8, .int .i64 s.a.op, .int .i64 s.a.wd, .int .u64 s.a.vl, .string s.a.nm, .slice q6 s.a.ts.length d6, .int .i64 s.b.op, .int .i64 s.b.wd, .int .u64 s.b.vl, .string s.b.nm, .slice q7 s.b.ts.length d7] (0, 0) _ rfl MF.out Tryd.underlying44 rfl (by kernel_rfl)) rfl
              ⟨⟨⟨p5, c5, p8, c8, q6, d6, q7, d7⟩, by rw [cS_eq]; simp [sMap],
                ⟨RI.out.keep (fun i hi => ⟨(HK.out i hi.1 (Nat.lt_of_lt_of_le hi.2 (bk_size K15.out))).trans (bk_block K15.out hi.2), by have := hi.1; have := HL.out; omega, by have := bk_size K15.out; have := hi.2; have := HZ.out; omega⟩),
                 RU.out.keep (fun i hi => ⟨(HK.out i (by have := hi.1; have := L1.out; omega) (Nat.lt_of_lt_of_le hi.2 (bk_size K15.out))).trans (bk_block K15.out hi.2), by have := hi.1; have := L1.out; have := HL.out; omega, by have := bk_size K15.out; have := hi.2; have := HZ.out; omega⟩),
                 R6.out.keep (fun i hi => ⟨(HK.out i (by have h1 : wr.heap.size ≤ i := hi.1; have := L1.out; have := L2.out; omega) (Nat.lt_of_lt_of_le hi.2 (bk_size K5.out))).trans (bk_block K5.out hi.2), by have h1 : wr.heap.size ≤ i := hi.1; have := L1.out; have := L2.out; have := HL.out; omega, by have := bk_size K5.out; have := hi.2; have := HZ.out; omega⟩),
                 R7.out.keep (fun i hi => ⟨HK.out i (by have h1 : w4.heap.size ≤ i := hi.1; have := bk_size (of_drew K4.out); have := L1.out; have := L2.out; omega) hi.2, by have h1 : w4.heap.size ≤ i := hi.1; have := bk_size (of_drew K4.out); have := L1.out; have := L2.out; have := HL.out; omega, by have := hi.2; have := HZ.out; omega⟩)⟩⟩,
               Step.bk_new (Step.bk_new (bk_tr KA.out (bk_tr KW.out K15.out)) SZ5.out (fun i hi => by have hi : i = w.heap.size := hi; omega)) SF.out (fun i hi => by have hi : i = w.heap.size + 1 := hi; omega)⟩
        · have hlt : j < s.sb.length := by omega
          have hd : decide (j < s.sb.length) = true := by simpa using hlt
          obtain ⟨b, o, qu, du, rfl, -, hc6, hru⟩ := (((show RowU (mem 0 w1) w1 q2 d2 s.sb from P1.out.sb).bk KF.out (Nat.le_refl _)).bk KB.out (Nat.le_refl _)).get hlt
          obtain ⟨z0, z1, z2, z3, z4, z5⟩ := hc6
          have UK := Lib.hid (List.getElem?_eq_getElem hlt)
          have SMU := Lib.hid (HS.out.2.2.1 _ (List.getElem_mem hlt))
          have TK := Lib.hid (show s.sb.take (j + 1) = s.sb.take j ++ [s.sb[j]] from List.take_succ_eq_append_getElem hlt)
          have TL := Lib.hid (show (s.sb.take j).length = j from by simp; omega)
          have ej : IntKind.i64.wrap ((j : Int) + 1) = (j : Int) + 1 := by have := HS.out.2.1; exact IntWalk.i64_in _ (by omega)
          have hji : (j : Int) < (s.sb.length : Int) := by omega
          have JLT := Lib.hid hlt
          have HSB := Lib.hid HS.out.2.1
          obtain ⟨p8, c8, rfl⟩ := GG.out.shape
          clear e
          generalize s.sb[j] = u at *
          generalize s.sb.take j = us at *
          have KX := Lib.hid (bk_alloc (BK.refl wr) (.cells #[.string u.nm, .int .i64 u.t.op, .int .i64 u.t.wd, .int .u64 u.t.vl, .string u.t.nm, .slice qu u.t.ts.length du] 56))
          have NX := Lib.hid (heap_alloc_new wr (.cells #[.string u.nm, .int .i64 u.t.op, .int .i64 u.t.wd, .int .u64 u.t.vl, .string u.t.nm, .slice qu u.t.ts.length du] 56))
          have CC := Lib.hid (fun wc (hb : BK wr wc) => copyT u.t SMU.out wc qu du (hru.bk hb (Nat.le_refl _)))
          have LW := Lib.hid (show wf.heap.size ≤ wr.heap.size from bk_size KB.out)
          have GB := Lib.hid (fun wc (hb : BK wr wc) => GG.out.bk (PU.mono us) hb)
          have GLT := Lib.hid GG.out.lt
          clear hru
          go_wp2_with fail
          have hSw : C6 (wr.alloc (.cells #[.string u.nm, .int .i64 u.t.op, .int .i64 u.t.wd, .int .u64 u.t.vl, .string u.t.nm, .slice qu u.t.ts.length du] 56)) wr.heap.size 0 (.string u.nm) (.int .i64 u.t.op) (.int .i64 u.t.wd) (.int .u64 u.t.vl) (.string u.t.nm) (.slice qu u.t.ts.length du) := by
            have h := cs_of_row NX.out
            exact ⟨h 0 _ rfl, h 1 _ rfl, h 2 _ rfl, h 3 _ rfl, h 4 _ rfl, h 5 _ rfl⟩
          have BX := Lib.hid (show wr.heap.size < (wr.alloc (.cells #[.string u.nm, .int .i64 u.t.op, .int .i64 u.t.wd, .int .u64 u.t.vl, .string u.t.nm, .slice qu u.t.ts.length du] 56)).heap.size from by rw [sz1]; omega)
          generalize wr.alloc (.cells #[.string u.nm, .int .i64 u.t.op, .int .i64 u.t.wd, .int .u64 u.t.vl, .string u.t.nm, .slice qu u.t.ts.length du] 56) = wx at *
          refine wp_region_held_drew (S := fun w' => C6 w' wr.heap.size 0 (.string u.nm) (.int .i64 u.t.op) (.int .i64 u.t.wd) (.int .u64 u.t.vl) (.string u.t.nm) (.slice qu u.t.ts.length du)) (by kernel_rfl) (hSw) (fun hHeld => ?_)
          have hkI := bk_drew (BK.refl wx)
          generalize wx.drew = wI at hHeld hkI ⊢
          refine wpAnyH_take (i := 0) (v := .slice p8 j c8) rfl (by kernel_rfl) (by kernel_rfl) (by kernel_rfl) (fun _ _ _ h => h) (Or.inl ⟨by kernel_rfl, fun w hSw => by (go_simp)⟩) hHeld ?_
          try simp only [Act.put, List.setIfInBounds_toArray, List.set_cons_zero, List.set_cons_succ]
          refine wpAnyH_take (i := 1) (v := .pointer (some ⟨wr.heap.size, 0, none⟩)) rfl (by kernel_rfl) (by kernel_rfl) (by kernel_rfl) (fun _ _ _ h => h) (Or.inl ⟨by kernel_rfl, fun w hSw => by (go_simp)⟩) hHeld ?_
          try simp only [Act.put, List.setIfInBounds_toArray, List.set_cons_zero, List.set_cons_succ]
          refine wpAnyH_take (i := 2) (v := .string u.nm) rfl (by kernel_rfl) (by kernel_rfl) (by kernel_rfl) (fun _ _ _ h => h) (Or.inl ⟨by kernel_rfl, fun w hSw => by (obtain ⟨a0, a1, a2, a3, a4, a5⟩ := hSw; simp only [Nat.zero_add] at a1 a2 a3 a4 a5; go_simp)⟩) hHeld ?_
          try simp only [Act.put, List.setIfInBounds_toArray, List.set_cons_zero, List.set_cons_succ]
          refine wpAnyH_take (i := 3) (v := .pointer (some ⟨wr.heap.size, 1, none⟩)) rfl (by kernel_rfl) (by kernel_rfl) (by kernel_rfl) (fun _ _ _ h => h) (Or.inl ⟨by kernel_rfl, fun w hSw => by (go_simp)⟩) hHeld ?_
          try simp only [Act.put, List.setIfInBounds_toArray, List.set_cons_zero, List.set_cons_succ]
          refine wpAnyH_take (i := 4) (v := .agg #[.int .i64 u.t.op, .int .i64 u.t.wd, .int .u64 u.t.vl, .string u.t.nm, .slice qu u.t.ts.length du]) rfl (by kernel_rfl) (by kernel_rfl) (by kernel_rfl) (fun _ _ _ h => h) (Or.inl ⟨by kernel_rfl, fun w hSw => by (obtain ⟨a0, a1, a2, a3, a4, a5⟩ := hSw; simp only [Nat.zero_add] at a1 a2 a3 a4 a5; go_simp)⟩) hHeld ?_
          try simp only [Act.put, List.setIfInBounds_toArray, List.set_cons_zero, List.set_cons_succ]
          refine wpAnyH_ready (rs := [5]) (by kernel_rfl) (by simp) ?_
          refine AllReadyH.cons (o := _) rfl (fun K9 hK9 => ?_) AllReadyH.nil
          go_simp
          go_at_call 62
          refine (CC.out _ (bk_tr KX.out hkI)).mono ?_
          rintro e w6 ⟨⟨q6, d6, rfl, hr6⟩, hb6⟩
          have hk6 := bk_tr hkI hb6
          have h6 := C6.at hSw (bk_block hk6 BX.out)
          refine hK9.out _ _ (h6) (fun hHeld => ?_)
          clear hK9 K9
          try simp only [Act.put, List.setIfInBounds_toArray, List.set_cons_zero, List.set_cons_succ]
          refine wpAnyH_take (i := 6) (v := .agg #[.string u.nm, .int .i64 u.t.op, .int .i64 u.t.wd, .int .u64 u.t.vl, .string u.t.nm, .slice q6 u.t.ts.length d6]) rfl (by kernel_rfl) (by kernel_rfl) (by kernel_rfl) (fun _ _ _ h => h) (Or.inl ⟨by kernel_rfl, fun w hSw => by (go_simp)⟩) hHeld ?_
          try simp only [Act.put, List.setIfInBounds_toArray, List.set_cons_zero, List.set_cons_succ]
          refine wpAnyH_ready (rs := [7]) (by kernel_rfl) (by simp) ?_
          refine AllReadyH.cons (o := _) rfl (fun K9 hK9 => ?_) AllReadyH.nil
          go_simp
          have hk7 := bk_alloc hk6 (.cells #[.string u.nm, .int .i64 u.t.op, .int .i64 u.t.wd, .int .u64 u.t.vl, .string u.t.nm, .slice q6 u.t.ts.length d6] 56)
          refine hK9.out _ _ (C6.at hSw (bk_block hk7 BX.out)) (fun hHeld => ?_)
          clear hK9 K9
          try simp only [Act.put, List.setIfInBounds_toArray, List.set_cons_zero, List.set_cons_succ]
          refine wpAnyH_ready (rs := [8]) (by kernel_rfl) (by simp) ?_
          refine AllReadyH.cons (o := _) rfl (fun K9 hK9 => ?_) AllReadyH.nil
          refine gl_push _ _ 37 56 6 80 _ rfl Tryd.underlying37 info56 rfl (by decide) (by decide) wf.heap.size (.slice p8 j c8) j (PU us) (PU (us ++ [u])) (PU.mono us) (PU.mono _) (fun D w k cs hk h => PU.snoc us u D w k cs (by rw [TL.out]; exact hk) h) rfl (GB.out _ (bk_tr KX.out hk6)) #[.string u.nm, .int .i64 u.t.op, .int .i64 u.t.wd, .int .u64 u.t.vl, .string u.t.nm, .slice q6 u.t.ts.length d6] rfl (by intro x hx; simp at hx; rcases hx with rfl | rfl | rfl | rfl | rfl | rfl <;> rfl) rfl (by have h1 := bk_size KX.out; have h2 := bk_size hk6; have := LW.out; omega) (by have := HSB.out; have := JLT.out; omega) ⟨u, q6, d6, by rw [List.getElem?_append_right (by rw [TL.out]; exact Nat.le_refl _), TL.out, Nat.sub_self]; rfl, rfl, hr6.keep (fun i hi => ⟨rfl, by have h1 := bk_size KX.out; have h2 := bk_size hkI; have := LW.out; have := hi.1; omega, hi.2, fun e => by have h0 := (GLT.out i e).2; have h1 := bk_size KX.out; have h2 := bk_size hkI; have := hi.1; omega⟩)⟩ ?_
          intro g9 cap9 w9 hg9 hs9
          have hk9 : BK wf w9 := Step.bk_new (bk_tr KB.out (bk_tr KX.out hk6)) hs9 (fun i hi => by have := (GLT.out i hi).1; exact this)
          have h9 : C6 w9 wr.heap.size 0 (.string u.nm) (.int .i64 u.t.op) (.int .i64 u.t.wd) (.int .u64 u.t.vl) (.string u.t.nm) (.slice qu u.t.ts.length du) := C6.at h6 (hs9.block _ (Nat.lt_of_lt_of_le BX.out (bk_size hk6)) (fun e => by have := (GLT.out _ e).2; omega))
          refine hK9.out _ _ (h9) (fun hHeld => ?_)
          clear hK9 K9
          try simp only [Act.put, List.setIfInBounds_toArray, List.set_cons_zero, List.set_cons_succ]
          refine wpAnyH_ready (rs := [9]) (by kernel_rfl) (by simp) ?_
          refine AllReadyH.cons (o := _) rfl (fun K9 hK9 => ?_) AllReadyH.nil
          go_simp
          refine hK9.out _ _ (h9) (fun hHeld => ?_)
          clear hK9 K9
          try simp only [Act.put, List.setIfInBounds_toArray, List.set_cons_zero, List.set_cons_succ]
          refine wpAnyH_done (by kernel_rfl) ?_ _
          have K9' := Lib.hid hk9
          have G9 := Lib.hid hg9
          clear hk9 hg9 h9 h6 hk6 hk7 hr6 hb6 hs9 hSw hkI hHeld
          go_wp2_with fail
          go_roundw
          case rel => exact ⟨j + 1, by have := JLT.out; omega, by go_num, by rw [TK.out]; exact G9.out, K9'.out⟩
          case measure => have := JLT.out; simp [intOf]; omega
    · have hlt : j < s.rf.length := by omega
      have hd : decide (j < s.rf.length) = true := by simpa using hlt
      obtain ⟨b, o, rfl, -, y0⟩ := ((show RowI (mem 0 w1) w1 q1 d1 s.rf from P1.out.rf).bk KB.out (Nat.le_refl _)).get hlt
      have CC := Lib.hid (HC.out _ (List.getElem_mem hlt) wr KB.out)
      have ej : IntKind.i64.wrap ((j : Int) + 1) = (j : Int) + 1 := by have := HS.out.1; exact IntWalk.i64_in _ (by omega)
      have hji : (j : Int) < (s.rf.length : Int) := by omega
      have JLT := Lib.hid hlt
      have TK := Lib.hid (show (s.rf.take (j + 1)).map f = (s.rf.take j).map f ++ [f s.rf[j]] from by rw [List.take_succ_eq_append_getElem hlt, List.map_append]; rfl)
      have TL := Lib.hid (show ((s.rf.take j).map f).length = j from by simp; omega)
      obtain ⟨p5, c5, rfl⟩ := LL.out.shape
      rw [TL.out] at LL ⊢
      clear e
      generalize f s.rf[j] = fr at *
      generalize s.rf[j] = r at *
      generalize (s.rf.take j).map f = zs at *
      go_wp2_with fail
      refine CC.out.mono ?_
      rintro e w2 ⟨rfl, rfl⟩
      have SZL := Lib.hid (show w1.heap.size ≤ wr.heap.size from bk_size KB.out)
      have HR := HS.out.1
      have LZ := Lib.hid (show LI w1.heap.size wr (.slice p5 zs.length c5) zs from by rw [TL.out]; exact LL.out)
      clear LL
      go_wp2_with (at_builtin; go_must (refine wpList_pushI rfl _ _ rfl w1.heap.size (.slice p5 zs.length c5) zs (by rw [TL.out]; rfl) LZ.out fr rfl SZL.out (by rw [TL.out]; omega) ?_))
      intro g4 cap4 w5 hl5 hs5
      have K5 := Lib.hid (Step.bk_new KB.out hs5 (fun i hi => by have := (LZ.out.lt _ hi).1; omega))
      have L5 := Lib.hid hl5
      clear hl5 hs5
      rw [TL.out] at L5 ⊢
      go_wp2_with fail
      go_roundw
      case rel => exact ⟨j + 1, by have := JLT.out; omega, by go_num, by rw [TK.out]; exact L5.out, K5.out⟩
      case measure => have := JLT.out; simp [intOf]; omega
end Go.Proofs.YtnlpiaejfmdckaaDoor
