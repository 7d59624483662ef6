/- The law of a window put back: the walk. -/
import Derived.Test.YtjmmaaphadeokaaZL
import Derived.Test.YtjmmaaphadeokaaZK
import Derived.Test.YtjmmaaphadeokaaYG
import Derived.Test.YtjmmaaphadeokaaYH
import Derived.Test.YtjmmaaphadeokaaRI
namespace Go.Proofs.Ytjmmaaphadeokaa
open Go.RowKit Go.Shelf
set_option linter.unusedVariables false
set_option linter.unusedSimpArgs false
/-- what stands in the law: the program, the two numbers, the registers -/
structure QL (w w0 : World) (x0 x1 x2 x3 : Value) (f n : Int) (s : List Int) : Prop where
  c : B4 w0 w.heap.size x0 x1 x2 x3
  y0 : w0.cell? ⟨w.heap.size + 1, 0, none⟩ = some (.int .i64 f)
  y1 : w0.cell? ⟨w.heap.size + 1, 1, none⟩ = some (.int .i64 n)
  a : SU w0 (w.heap.size + 2) s
  k : BK w w0
theorem QL.keep {w w0 w1 : World} {x0 x1 x2 x3 : Value} {f n : Int} {s : List Int} (h : QL w w0 x0 x1 x2 x3 f n s) (hb : BK w0 w1) : QL w w1 x0 x1 x2 x3 f n s :=
  ⟨h.c.keep hb, (hb.bl.cell (p := ⟨w.heap.size + 1, 0, none⟩) (World.block_lt_of_cell? w0 _ h.y0)).trans h.y0, (hb.bl.cell (p := ⟨w.heap.size + 1, 1, none⟩) (World.block_lt_of_cell? w0 _ h.y1)).trans h.y1, h.a.keep hb, bk_tr h.k hb⟩
theorem QL.lt {w w0 : World} {x0 x1 x2 x3 : Value} {f n : Int} {s : List Int} (h : QL w w0 x0 x1 x2 x3 f n s) : w.heap.size + 2 < w0.heap.size := h.a.lt
theorem cell_row {w : World} {D b o : Nat} {cs : Array Value} (h : b ≠ D) : (w.setRow D cs).cell? ⟨b, o, none⟩ = w.cell? ⟨b, o, none⟩ := World.cell?_of_block (a := ⟨b, o, none⟩) (setRow_other w D b cs h)
theorem QL.row {w w0 : World} {x0 x1 x2 x3 : Value} {f n : Int} {s : List Int} (h : QL w w0 x0 x1 x2 x3 f n s) {D : Nat} (cs : Array Value) (hD : w.heap.size + 2 < D) : QL w (w0.setRow D cs) x0 x1 x2 x3 f n s := by
  obtain ⟨⟨c0, c1, c2, c3⟩, y0, y1, a, k⟩ := h
  refine ⟨⟨?_, ?_, ?_, ?_⟩, ?_, ?_, ?_, below_setRow k (by omega) _⟩
  · rw [cell_row (by omega)]; exact c0
  · rw [cell_row (by omega)]; exact c1
  · rw [cell_row (by omega)]; exact c2
  · rw [cell_row (by omega)]; exact c3
  · rw [cell_row (by omega)]; exact y0
  · rw [cell_row (by omega)]; exact y1
  · exact (setRow_other w0 D _ cs (by omega)).trans a
theorem cell_far {w : World} {D b o j : Nat} {x : Value} (h : b ≠ D) : (w.setCell ⟨D, j, none⟩ x).cell? ⟨b, o, none⟩ = w.cell? ⟨b, o, none⟩ := World.cell?_setCell_far _ _ _ _ (fun e => h e.symm)
theorem QL.cell {w w0 : World} {x0 x1 x2 x3 : Value} {f n : Int} {s : List Int} (h : QL w w0 x0 x1 x2 x3 f n s) {D : Nat} (j : Nat) (x : Value) (hD : w.heap.size + 2 < D) : QL w (w0.setCell ⟨D, j, none⟩ x) x0 x1 x2 x3 f n s := by
  obtain ⟨⟨c0, c1, c2, c3⟩, y0, y1, a, k⟩ := h
  refine ⟨⟨?_, ?_, ?_, ?_⟩, ?_, ?_, ?_, bk_set k _ _ (by show w.heap.size ≤ D; omega)⟩
  · rw [cell_far (by omega)]; exact c0
  · rw [cell_far (by omega)]; exact c1
  · rw [cell_far (by omega)]; exact c2
  · rw [cell_far (by omega)]; exact c3
  · rw [cell_far (by omega)]; exact y0
  · rw [cell_far (by omega)]; exact y1
  · exact a.other _ _ (by show w.heap.size + 2 ≠ D; omega)
theorem W4.set0 {w : World} {b : Nat} {x0 x1 x2 x3 : Value} (h : W4 w b x0 x1 x2 x3) (y : Value) : W4 (w.setCell ⟨b, 0, none⟩ y) b y x1 x2 x3 := ⟨Go.Joins.block_setCell (i := 0) h.h y⟩
theorem W4.set1 {w : World} {b : Nat} {x0 x1 x2 x3 : Value} (h : W4 w b x0 x1 x2 x3) (y : Value) : W4 (w.setCell ⟨b, 1, none⟩ y) b x0 y x2 x3 := ⟨Go.Joins.block_setCell (i := 1) h.h y⟩
theorem W4.row {w : World} {b : Nat} {x0 x1 x2 x3 : Value} (h : W4 w b x0 x1 x2 x3) (y0 y1 y2 y3 : Value) : W4 (w.setRow b #[y0, y1, y2, y3]) b y0 y1 y2 y3 := ⟨setRow_heap w b _ _ 25 (0, 0) h.h⟩
set_option maxRecDepth 100000 in
set_option maxHeartbeats 20000000 in
theorem plaw (W R : Int) (p q : Option Addr) (pc qc : Nat) (ins : List I6) (out : List Int) (f n : Nat) (s : List Int) (w : World) (hi : RI w p pc ins) (ho : RO w q qc out) (l40 : ins.length ≤ 40) (lo : out.length ≤ 20) (hv : Vd W R ins out) (hfn : f + n ≤ ins.length) (hs : s.length = 8) :
    Calls Try.prog 9 #[.agg #[.int .i64 W, .int .i64 R, .slice p ins.length pc, .slice q out.length qc], .agg #[.int .i64 (f : Int), .int .i64 (n : Int)], .agg (ua s)] w fun e w' => e = .returned (.bool true) ∧ BK w w' := by
  have li : ins.length ≤ 300 := by omega
  have b4 := (b4_new w (.int .i64 W) (.int .i64 R) (.slice p ins.length pc) (.slice q out.length qc) 25).keep (bk_alloc (bk_alloc (BK.refl _) (.cells #[.int .i64 (f : Int), .int .i64 (n : Int)] 41)) (.cells (ua s) 45))
  have y0 : (((w.alloc (.cells #[.int .i64 W, .int .i64 R, .slice p ins.length pc, .slice q out.length qc] 25)).alloc (.cells #[.int .i64 (f : Int), .int .i64 (n : Int)] 41)).alloc (.cells (ua s) 45)).cell? ⟨w.heap.size + 1, 0, none⟩ = some (.int .i64 (f : Int)) := by
    have e := World.cell?_alloc_new (w.alloc (.cells #[.int .i64 W, .int .i64 R, .slice p ins.length pc, .slice q out.length qc] 25)) #[.int .i64 (f : Int), .int .i64 (n : Int)] 41 0
    rw [sz1] at e
    exact ((bk_alloc (BK.refl _) (.cells (ua s) 45)).bl.cell (p := ⟨w.heap.size + 1, 0, none⟩) (by rw [sz1, sz1]; show w.heap.size + 1 < w.heap.size + 1 + 1; omega)).trans e
  have y1 : (((w.alloc (.cells #[.int .i64 W, .int .i64 R, .slice p ins.length pc, .slice q out.length qc] 25)).alloc (.cells #[.int .i64 (f : Int), .int .i64 (n : Int)] 41)).alloc (.cells (ua s) 45)).cell? ⟨w.heap.size + 1, 1, none⟩ = some (.int .i64 (n : Int)) := by
    have e := World.cell?_alloc_new (w.alloc (.cells #[.int .i64 W, .int .i64 R, .slice p ins.length pc, .slice q out.length qc] 25)) #[.int .i64 (f : Int), .int .i64 (n : Int)] 41 1
    rw [sz1] at e
    exact ((bk_alloc (BK.refl _) (.cells (ua s) 45)).bl.cell (p := ⟨w.heap.size + 1, 1, none⟩) (by rw [sz1, sz1]; show w.heap.size + 1 < w.heap.size + 1 + 1; omega)).trans e
  have a1 := SU.new ((w.alloc (.cells #[.int .i64 W, .int .i64 R, .slice p ins.length pc, .slice q out.length qc] 25)).alloc (.cells #[.int .i64 (f : Int), .int .i64 (n : Int)] 41)) s
  rw [sz1, sz1] at a1
  have k0 := bk_alloc (bk_alloc (bk_alloc (BK.refl w) (.cells #[.int .i64 W, .int .i64 R, .slice p ins.length pc, .slice q out.length qc] 25)) (.cells #[.int .i64 (f : Int), .int .i64 (n : Int)] 41)) (.cells (ua s) 45)
  have il : QL w (((w.alloc (.cells #[.int .i64 W, .int .i64 R, .slice p ins.length pc, .slice q out.length qc] 25)).alloc (.cells #[.int .i64 (f : Int), .int .i64 (n : Int)] 41)).alloc (.cells (ua s) 45)) (.int .i64 W) (.int .i64 R) (.slice p ins.length pc) (.slice q out.length qc) f n s := ⟨b4, y0, y1, a1, k0⟩
  have L1 := Lib.hid (fun wc => by have := light10 W R p q pc qc ins.length out.length wc; rw [show lightB ins.length out.length = true from decide_eq_true ⟨li, lo⟩] at this; exact this)
  have C28 := Lib.hid (fun (wc : World) (hb : BK w wc) => by have := rchk28 W R p q pc qc ins out wc (hi.keep hb) (ho.keep hb) (by omega) (by omega); rw [chk_zero.2 hv] at this; exact this)
  have h1 := hv.w1
  have h2 := hv.w2
  have R29 := Lib.hid (fun (wc : World) (hb : BK w wc) => (run29 W R p q pc qc out.length ins s wc (hi.keep hb) li hs h1 h2 hv.rg).mono (R' := RunQ W ins s wc) fun e w' h => runQ h)
  have HO := Lib.hid ho
  have HI := Lib.hid hi
  have OI := Lib.hid (fun r (hr : r ∈ out) => show 0 ≤ r ∧ r < 8 by have := hv.oin r hr; have := hv.r2; omega)
  have HS := Lib.hid hs
  have LV := Lib.hid lives11
  have hw0 := chk_win hv hfn
  have C24 := Lib.hid (fun (wc : World) (hb : BK w wc) => win24_ok W R p q pc qc ins out f n wc (hi.keep hb) (ho.keep hb) li lo hw0)
  have VW := hv.win f n
  have VP := hv.put f n hfn (winOut 8 ((ins.drop f).take n) (ins.drop (f + n)) out)
  have wl : ((ins.drop f).take n).length = n := by simp; omega
  have ol := winOut_len ((ins.drop f).take n) (ins.drop (f + n)) out
  have sl := removeL_len (winOut 8 ((ins.drop f).take n) (ins.drop (f + n)) out) ((ins.drop f).take n)
  have PU := Lib.hid (fun x => puts_pure (x := x) hv f n hs)
  have C26a := Lib.hid (fun (wc : World) (p' q' : Option Addr) (pc' qc' : Nat) (hb : BK w wc) (h3 : RI wc p' pc' ((ins.drop f).take n)) (h4 : RO wc q' qc' (winOut 8 ((ins.drop f).take n) (ins.drop (f + n)) out)) => by have := rep26_ok W R p q pc qc ins out p' q' pc' qc' ((ins.drop f).take n) _ f n wc (hi.keep hb) (ho.keep hb) h3 h4 li lo (by omega) (by omega) hw0 (chk_zero.2 VW) (by omega); rw [rep_self] at this; exact this)
  have C19 := Lib.hid (fun (wc : World) (p' q' : Option Addr) (pc' qc' : Nat) (h3 : RI wc p' pc' ((ins.drop f).take n)) (h4 : RO wc q' qc' (winOut 8 ((ins.drop f).take n) (ins.drop (f + n)) out)) => remove19_ok W R p' q' pc' qc' ((ins.drop f).take n) _ wc h3 h4 (by omega) VW)
  have C26b := Lib.hid (fun (wc : World) (p' q' : Option Addr) (pc' qc' : Nat) (hb : BK w wc) (h3 : RI wc p' pc' (removeL (winOut 8 ((ins.drop f).take n) (ins.drop (f + n)) out) ((ins.drop f).take n))) (h4 : RO wc q' qc' (winOut 8 ((ins.drop f).take n) (ins.drop (f + n)) out)) => rep26_own W R p q pc qc ins out p' q' pc' qc' _ _ f n wc (hi.keep hb) (ho.keep hb) h3 h4 li lo (by omega) (by omega) hw0 (chk_zero.2 VW.removed) (by omega))
  have C23 := Lib.hid (fun (wc : World) (p' q' : Option Addr) (pc' qc' : Nat) (hb : BK w wc) (h3 : RI wc p' pc' ins) (h4 : RO wc q' qc' out) => same23 W R p q p' q' pc qc pc' qc' ins out wc (hi.keep hb) (ho.keep hb) h3 h4 (by omega) (by omega))
  have pl := VP.len
  have VPH := Lib.hid VP
  clear b4 y0 y1 a1 k0 hi ho hv hs hw0 VW VP
  generalize repL ins (removeL (winOut 8 ((ins.drop f).take n) (ins.drop (f + n)) out) ((ins.drop f).take n)) f n = L at C26b PU VPH pl
  generalize removeL (winOut 8 ((ins.drop f).take n) (ins.drop (f + n)) out) ((ins.drop f).take n) = S at C19 C26b sl
  generalize winOut 8 ((ins.drop f).take n) (ins.drop (f + n)) out = wo at C24 C26a C26b C19 ol
  generalize (ins.drop f).take n = Wd at C24 C26a C19 wl sl
  have D28 := Lib.hid (fun (wc : World) (p' q' : Option Addr) (pc' qc' : Nat) (hi : RI wc p' pc' L) (ho : RO wc q' qc' out) => by have := rchk28 W R p' q' pc' qc' L out wc hi ho (by omega) (by omega); rw [chk_zero.2 VPH.out] at this; exact this)
  have D29 := Lib.hid (fun (wc : World) (p' q' : Option Addr) (pc' qc' : Nat) (hi : RI wc p' pc' L) => (run29 W R p' q' pc' qc' out.length L s wc hi (by omega) HS.out h1 h2 VPH.out.rg).mono (R' := RunQ W L s wc) fun e w' h => runQ h)
  have t1 : ¬ (40 : Int) < (ins.length : Int) := by omega
  clear wl sl ol
  go_enter Try.func9, Try.ntmps9
  go_upto_region 1 with (fail)
  generalize ((w.alloc (.cells #[.int .i64 W, .int .i64 R, .slice p ins.length pc, .slice q out.length qc] 25)).alloc (.cells #[.int .i64 f, .int .i64 n] 41)).alloc (.cells (ua s) 45) = w0 at il ⊢
  rw [show w.heap.size + 1 + 1 = w.heap.size + 2 from rfl]
  have I0 := Lib.hid il
  clear il
  obtain ⟨⟨c0, c1, c2, c3⟩, y0, y1, -, -⟩ := I0.out
  go_wp2_with fail
  refine (L1.out w0).mono ?_
  rintro e w1 ⟨rfl, hb1⟩
  have I1 := Lib.hid (I0.out.keep hb1)
  clear hb1 c0 c1 c2 c3 y0 y1
  obtain ⟨⟨c0, c1, c2, c3⟩, y0, y1, -, -⟩ := I1.out
  go_wp2_with fail
  refine (C28.out w1 I1.out.k).mono ?_
  rintro e w2 ⟨rfl, hb2⟩
  have I2 := Lib.hid (I1.out.keep hb2)
  clear hb2 c0 c1 c2 c3 y0 y1
  obtain ⟨⟨c0, c1, c2, c3⟩, y0, y1, -, -⟩ := I2.out
  go_wp2_with fail
  refine (C24.out w2 I2.out.k).mono ?_
  rintro e w3 ⟨pa, pac, qa, qac, rfl, hri, hro, hb3⟩
  have I3 := Lib.hid (I2.out.keep hb3)
  have RI3 := Lib.hid hri
  have RO3 := Lib.hid hro
  clear hb3 hri hro c0 c1 c2 c3 y0 y1
  go_upto_region 4 with (fail)
  have I4 := Lib.hid (I3.out.keep (bk_alloc (BK.refl w3) (.cells #[.int .i64 W, .int .i64 R, .slice pa Wd.length pac, .slice qa wo.length qac] 25)))
  have E4 := Lib.hid (show DL (w3.alloc (.cells #[.int .i64 W, .int .i64 R, .slice pa Wd.length pac, .slice qa wo.length qac] 25)) w3.heap.size (.int .i64 W) (.int .i64 R) pa pac qa qac Wd wo from ⟨b4_new w3 _ _ _ _ 25, RI3.out.keep (bk_alloc (BK.refl _) _), RO3.out.keep (bk_alloc (BK.refl _) _)⟩)
  generalize w3.alloc (.cells #[.int .i64 W, .int .i64 R, .slice pa Wd.length pac, .slice qa wo.length qac] 25) = w4 at I4 E4 ⊢
  generalize w3.heap.size = B1 at E4 ⊢
  obtain ⟨⟨c0, c1, c2, c3⟩, y0, y1, -, -⟩ := I4.out
  obtain ⟨d0, d1, d2, d3⟩ := E4.out.c
  go_wp2_with fail
  refine (C26a.out w4 pa qa pac qac I4.out.k E4.out.i E4.out.o).mono ?_
  rintro e w5 ⟨pb, pbc, qb, qbc, rfl, hri, hro, hb5⟩
  have I5 := Lib.hid (I4.out.keep hb5)
  have E5 := Lib.hid (E4.out.keep hb5)
  have RI5 := Lib.hid hri
  have RO5 := Lib.hid hro
  clear hb5 hri hro c0 c1 c2 c3 y0 y1 d0 d1 d2 d3
  go_upto_region 7 with (fail)
  have I6 := Lib.hid (I5.out.keep (bk_alloc (BK.refl w5) (.cells #[.int .i64 W, .int .i64 R, .slice pb ins.length pbc, .slice qb out.length qbc] 25)))
  have E6 := Lib.hid (E5.out.keep (bk_alloc (BK.refl w5) (.cells #[.int .i64 W, .int .i64 R, .slice pb ins.length pbc, .slice qb out.length qbc] 25)))
  have V6 := Lib.hid (W4.new w5 (.int .i64 W) (.int .i64 R) (.slice pb ins.length pbc) (.slice qb out.length qbc))
  have RI6 := Lib.hid (RI5.out.keep (bk_alloc (BK.refl w5) (.cells #[.int .i64 W, .int .i64 R, .slice pb ins.length pbc, .slice qb out.length qbc] 25)))
  have RO6 := Lib.hid (RO5.out.keep (bk_alloc (BK.refl w5) (.cells #[.int .i64 W, .int .i64 R, .slice pb ins.length pbc, .slice qb out.length qbc] 25)))
  have hD := I5.out.lt
  generalize w5.alloc (.cells #[.int .i64 W, .int .i64 R, .slice pb ins.length pbc, .slice qb out.length qbc] 25) = w6 at I6 E6 V6 RI6 RO6 ⊢
  generalize w5.heap.size = D at V6 hD ⊢
  have HD := Lib.hid hD
  clear hD
  obtain ⟨⟨c0, c1, c2, c3⟩, y0, y1, -, -⟩ := I6.out
  obtain ⟨d0, d1, d2, d3⟩ := V6.out.b4
  go_wp2_with fail
  refine (C23.out w6 pb qb pbc qbc I6.out.k RI6.out RO6.out).mono ?_
  rintro e w7 ⟨rfl, hb7⟩
  have I7 := Lib.hid (I6.out.keep hb7)
  have E7 := Lib.hid (E6.out.keep hb7)
  have V7 := Lib.hid (V6.out.keep hb7)
  clear hb7 c0 c1 c2 c3 y0 y1 d0 d1 d2 d3
  obtain ⟨d0, d1, d2, d3⟩ := E7.out.c
  go_wp2_with fail
  refine (C19.out w7 pa qa pac qac E7.out.i E7.out.o).mono ?_
  rintro e w8 ⟨pd, pdc, qd, qdc, rfl, hri, hro, hb8⟩
  have I8 := Lib.hid (I7.out.keep hb8)
  have V8 := Lib.hid (V7.out.keep hb8)
  have RI8 := Lib.hid hri
  have RO8 := Lib.hid hro
  clear hb8 hri hro d0 d1 d2 d3
  go_upto_region 10 with (fail)
  have I9 := Lib.hid (I8.out.keep (bk_alloc (BK.refl w8) (.cells #[.int .i64 W, .int .i64 R, .slice pd S.length pdc, .slice qd wo.length qdc] 25)))
  have V9 := Lib.hid (V8.out.keep (bk_alloc (BK.refl w8) (.cells #[.int .i64 W, .int .i64 R, .slice pd S.length pdc, .slice qd wo.length qdc] 25)))
  have E9 := Lib.hid (show DL (w8.alloc (.cells #[.int .i64 W, .int .i64 R, .slice pd S.length pdc, .slice qd wo.length qdc] 25)) w8.heap.size (.int .i64 W) (.int .i64 R) pd pdc qd qdc S wo from ⟨b4_new w8 _ _ _ _ 25, RI8.out.keep (bk_alloc (BK.refl _) _), RO8.out.keep (bk_alloc (BK.refl _) _)⟩)
  generalize w8.alloc (.cells #[.int .i64 W, .int .i64 R, .slice pd S.length pdc, .slice qd wo.length qdc] 25) = w9 at I9 V9 E9 ⊢
  generalize w8.heap.size = G at E9 ⊢
  obtain ⟨⟨c0, c1, c2, c3⟩, y0, y1, -, -⟩ := I9.out
  obtain ⟨d0, d1, d2, d3⟩ := E9.out.c
  go_wp2_with fail
  refine (C26b.out w9 pd qd pdc qdc I9.out.k E9.out.i E9.out.o).mono ?_
  rintro e wA ⟨pe, pec, qe, qec, rfl, hri, hro, hbA⟩
  have IA := Lib.hid (I9.out.keep hbA)
  have VA := Lib.hid (V9.out.keep hbA)
  have SZ9 := V9.out.lt
  have RIA := Lib.hid (own_set (own_set (own_set (own_set hri ⟨D, 0, none⟩ (.int .i64 W) SZ9) ⟨D, 1, none⟩ (.int .i64 R) SZ9) ⟨D, 2, none⟩ (.slice pe L.length pec) SZ9) ⟨D, 3, none⟩ (.slice qe out.length qec) SZ9)
  have ROA := Lib.hid (own_set (own_set (own_set (own_set hro ⟨D, 0, none⟩ (.int .i64 W) SZ9) ⟨D, 1, none⟩ (.int .i64 R) SZ9) ⟨D, 2, none⟩ (.slice pe L.length pec) SZ9) ⟨D, 3, none⟩ (.slice qe out.length qec) SZ9)
  clear hbA hri hro c0 c1 c2 c3 y0 y1 d0 d1 d2 d3 SZ9
  have IB := Lib.hid ((((IA.out.cell 0 (.int .i64 W) HD.out).cell 1 (.int .i64 R) HD.out).cell 2 (.slice pe L.length pec) HD.out).cell 3 (.slice qe out.length qec) HD.out)
  have VB := Lib.hid ((((VA.out.set0 (.int .i64 W)).set1 (.int .i64 R)).set2 (.slice pe L.length pec)).set3 (.slice qe out.length qec))
  obtain ⟨⟨v0, v1, v2, v3⟩, u0, u1, u2, u3⟩ := VA.out.cells
  go_upto_region 11 with (fail)
  clear v0 v1 v2 v3 u0 u1 u2 u3
  generalize (((wA.setCell ⟨D, 0, none⟩ (.int .i64 W)).setCell ⟨D, 1, none⟩ (.int .i64 R)).setCell ⟨D, 2, none⟩ (.slice pe L.length pec)).setCell ⟨D, 3, none⟩ (.slice qe out.length qec) = wB at IB VB RIA ROA ⊢
  have EB := Lib.hid (show DL wB D (.int .i64 W) (.int .i64 R) pe pec qe qec L out from ⟨VB.out.b4, RI.own RIA.out, RO.own ROA.out⟩)
  obtain ⟨d0, d1, d2, d3⟩ := EB.out.c
  go_wp2_with fail
  refine (D28.out wB pe qe pec qec EB.out.i EB.out.o).mono ?_
  rintro e wr ⟨rfl, hbr⟩
  have IZ := Lib.hid (IB.out.keep hbr)
  have EZ := Lib.hid (EB.out.keep hbr)
  clear hbr d0 d1 d2 d3
  have A1 := Lib.hid IZ.out.a
  go_upto_region 13 with (fail)
  obtain ⟨c0, c1, c2, c3⟩ := IZ.out.c
  go_upto_region 14 with (first
    | (refine wpList_load_row rfl 45 _ rfl (w.heap.size + 2) rfl 45 (ua s) (0, 0) _ A1.out Try.underlying45 rfl (by rw [ua_size, HS.out]; kernel_rfl) ?_)
    | (go_at_call 29; refine (R29.out wr IZ.out.k).mono ?_; rintro e w5x ⟨x, hx8, hxv, rfl, hb5⟩; have x8 := Lib.hid hx8; have xV := Lib.hid hxv; have xB := Lib.hid hb5; clear hx8 hxv hb5)
    | (refine wpList_store_row rfl 45 _ _ rfl w5x.heap.size (ua x) rfl rfl 45 _ (heap_alloc_last _ _) (by rw [ua_size, x8.out]; kernel_rfl) (by rw [ua_size, x8.out]; rfl) (ua_one _) ?_; rw [World.setRow_alloc_new]))
  clear c0 c1 c2 c3
  have I7' := Lib.hid ((IZ.out.keep xB.out).keep (bk_alloc (BK.refl w5x) (.cells (ua x) 45)))
  have E7' := Lib.hid ((EZ.out.keep xB.out).keep (bk_alloc (BK.refl w5x) (.cells (ua x) 45)))
  have X5 := Lib.hid (SU.new w5x x)
  generalize w5x.alloc (.cells (ua x) 45) = w6x at I7' E7' X5 ⊢
  generalize w5x.heap.size = XB at X5 ⊢
  have B1' := Lib.hid I7'.out.a
  obtain ⟨c0, c1, c2, c3⟩ := E7'.out.c
  go_upto_region 15 with (first
    | (refine wpList_load_row rfl 45 _ rfl (w.heap.size + 2) rfl 45 (ua s) (0, 0) _ B1'.out Try.underlying45 rfl (by rw [ua_size, HS.out]; kernel_rfl) ?_)
    | (go_at_call 29; refine (D29.out w6x pe qe pec qec E7'.out.i).mono ?_; rintro e w7x ⟨y, hx8, hxv, rfl, hb5⟩; have y8 := Lib.hid hx8; have yV := Lib.hid hxv; have yB := Lib.hid hb5; clear hx8 hxv hb5)
    | (refine wpList_store_row rfl 45 _ _ rfl w7x.heap.size (ua y) rfl rfl 45 _ (heap_alloc_last _ _) (by rw [ua_size, y8.out]; kernel_rfl) (by rw [ua_size, y8.out]; rfl) (ua_one _) ?_; rw [World.setRow_alloc_new]))
  clear c0 c1 c2 c3
  have I8' := Lib.hid ((I7'.out.keep yB.out).keep (bk_alloc (BK.refl w7x) (.cells (ua y) 45)))
  have X8' := Lib.hid ((X5.out.keep yB.out).keep (bk_alloc (BK.refl w7x) (.cells (ua y) 45)))
  have Y8' := Lib.hid (SU.new w7x y)
  generalize w7x.alloc (.cells (ua y) 45) = w8' at I8' X8' Y8' ⊢
  generalize w7x.heap.size = YB at Y8' ⊢
  have XY := Lib.hid (fun (h : (runM (valV W) ins (cutS W s)).isSome = true) => show (runM (valV W) L (cutS W s)).isSome = true ∧ ∀ r ∈ out, gR x r = gR y r by
    obtain ⟨x', hx'⟩ := Option.isSome_iff_exists.1 h
    obtain ⟨y', h3, h4⟩ := PU.out x' hx'
    rw [xV.out x' hx', yV.out y' h3, h3]; exact ⟨rfl, h4⟩)
  clear xV yV PU
  generalize (runM (valV W) ins (cutS W s)).isSome = oa at XY ⊢
  generalize (runM (valV W) L (cutS W s)).isSome = ob at XY ⊢
  cases oa
  · go_wp2_with (go_at_call 11; refine (LV.out _).mono ?_; rintro e w9 ⟨rfl, hb9⟩; have HB9 := Lib.hid hb9; clear hb9)
    go_ret
    exact ⟨rfl, bk_tr I8'.out.k HB9.out⟩
  · obtain rfl : ob = true := (XY.out rfl).1
    have EQ := Lib.hid (XY.out rfl).2
    clear XY
    obtain ⟨c0, c1, c2, c3⟩ := I8'.out.c
    go_wp2_with fail
    clear c0 c1 c2 c3
    go_loopw [111] (fun i wr => ∃ k : Nat, k ≤ out.length ∧ i = .int .i64 k ∧ BK w8' wr) (fun i _ => out.length - (intOf i).toNat)
    case atStart => exact ⟨0, Nat.zero_le _, rfl, BK.refl _⟩
    case round =>
      rename_i wz _
      obtain ⟨k, hk, rfl, hbk⟩ := hrel
      have HBK := Lib.hid hbk
      have IZ2 := Lib.hid (I8'.out.keep hbk)
      have XZ := Lib.hid (X8'.out.keep hbk)
      have YZ := Lib.hid (Y8'.out.keep hbk)
      clear hbk
      by_cases hlt : k < out.length
      · obtain ⟨bo, oo, rfl, hc⟩ := (HO.out.keep IZ2.out.k).get k hlt
        have hy := OI.out out[k] (List.getElem_mem hlt)
        have he := EQ.out out[k] (List.getElem_mem hlt)
        generalize out[k] = v at hc hy he
        obtain ⟨r, rfl⟩ : ∃ r : Nat, v = r := ⟨v.toNat, by omega⟩
        have rx : r < x.length := by have := x8.out; omega
        have ry : r < y.length := by have := y8.out; omega
        rw [gR_nat r rx, gR_nat r ry] at he
        have r0 : (0 : Int) ≤ r := by omega
        have r8 : (r : Int) < 8 := by omega
        have ex := XZ.out.cell r rx
        have ey := YZ.out.cell r ry
        rw [he] at ex
        generalize y[r] = zz at ex ey
        obtain ⟨c0, c1, c2, c3⟩ := IZ2.out.c
        clear hy he
        go_upto_region 20 with (fail)
        go_quiet (fail)
        clear ex ey hc c0 c1 c2 c3
        go_wp2_with fail
        go_roundw
        case rel => exact ⟨k + 1, by omega, by go_num, bk_drewN HBK.out _⟩
        case measure => simp [intOf]; omega
      · obtain rfl : k = out.length := by omega
        go_wp2_with (go_at_call 11; refine (LV.out _).mono ?_; rintro e w9 ⟨rfl, hb9⟩; have HB9 := Lib.hid hb9; clear hb9)
        go_ret
        exact ⟨rfl, bk_tr IZ2.out.k HB9.out⟩

end Go.Proofs.Ytjmmaaphadeokaa
