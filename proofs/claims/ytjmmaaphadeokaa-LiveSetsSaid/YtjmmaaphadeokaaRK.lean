/- The law of Replace. -/
import Derived.Test.YtjmmaaphadeokaaRI
import Derived.Test.YtjmmaaphadeokaaRG
import Derived.Test.YtjmmaaphadeokaaRH
import Derived.Test.YtjmmaaphadeokaaUD
namespace Go.Proofs.Ytjmmaaphadeokaa
open Go.RowKit Go.Shelf
set_option linter.unusedVariables false
set_option linter.unusedSimpArgs false
theorem rep_both (W R : Int) (p q : Option Addr) (pc qc : Nat) (ins : List I6) (out : List Int) (W2 R2 : Int) (p2 q2 : Option Addr) (pc2 qc2 : Nat) (ins2 : List I6) (out2 : List Int) (f n : Int) (w : World) (hi : RI w p pc ins) (ho : RO w q qc out) (hi2 : RI w p2 pc2 ins2) (ho2 : RO w q2 qc2 out2) (li : ins.length ≤ 300) (lo : out.length ≤ 20) (li2 : ins2.length ≤ 300) (lo2 : out2.length ≤ 20) (f2 : f ≤ 9223372036854775807) (n2 : n ≤ 9223372036854775807) (fl : -9223372036854775808 ≤ f) (nl : -9223372036854775808 ≤ n) : ∃ (E W' R' : Int) (L : List I6) (O : List Int), L.length ≤ 300 ∧ O.length ≤ 20 ∧
    (∀ wc, BK w wc → Calls Try.prog 26 #[.agg #[.int .i64 W, .int .i64 R, .slice p ins.length pc, .slice q out.length qc], .int .i64 f, .int .i64 n, .agg #[.int .i64 W2, .int .i64 R2, .slice p2 ins2.length pc2, .slice q2 out2.length qc2]] wc (RES E W' R' L O wc)) ∧
    (∀ wc, BK w wc → Calls Try.prog 27 #[.agg #[.int .i64 W, .int .i64 R, .slice p ins.length pc, .slice q out.length qc], .int .i64 f, .int .i64 n, .agg #[.int .i64 W2, .int .i64 R2, .slice p2 ins2.length pc2, .slice q2 out2.length qc2]] wc (RES E W' R' L O wc)) := by
  have K := fun wc (hb : BK w wc) => (⟨hi.keep hb, ho.keep hb, hi2.keep hb, ho2.keep hb⟩ : RI wc p pc ins ∧ RO wc q qc out ∧ RI wc p2 pc2 ins2 ∧ RO wc q2 qc2 out2)
  by_cases h1 : winE W R ins out f n = 0
  · by_cases h2 : chkE W2 R2 ins2 out2 = 0
    · by_cases h3 : W2 = W
      · by_cases h4 : R2 = R
        · obtain ⟨-, v1, v2, v3⟩ := win_zero h1
          by_cases h5 : (ins.length : Int) - n + ins2.length ≤ 256
          · subst h3 h4
            obtain ⟨fn, rfl⟩ : ∃ k : Nat, f = k := ⟨f.toNat, by omega⟩
            obtain ⟨nn, rfl⟩ : ∃ k : Nat, n = k := ⟨n.toNat, by omega⟩
            refine ⟨0, W2, R2, repL ins ins2 fn nn, out, by unfold repL; simp; omega, lo, fun wc hb => ?_, fun wc hb => ?_⟩
            · obtain ⟨a, b, c, d⟩ := K wc hb
              exact (rep26_ok W2 R2 p q pc qc ins out p2 q2 pc2 qc2 ins2 out2 fn nn wc a b c d li lo li2 lo2 h1 h2 h5).mono fun e w' h => res_ok h
            · obtain ⟨a, b, c, d⟩ := K wc hb
              exact (rep27_ok W2 R2 p q pc qc ins out p2 q2 pc2 qc2 ins2 out2 fn nn wc a b c d li lo li2 lo2 h1 h2 h5).mono fun e w' h => res_ok h
          · refine ⟨7, 0, 0, [], [], by simp, by simp, fun wc hb => ?_, fun wc hb => ?_⟩
            · obtain ⟨a, b, c, d⟩ := K wc hb
              exact (rep26_4 W R p q pc qc ins out W2 R2 p2 q2 pc2 qc2 ins2 out2 f n wc a b c d li lo li2 lo2 f2 n2 h1 h2 h3 h4 (by omega)).mono fun e w' h => res_zero h
            · obtain ⟨a, b, c, d⟩ := K wc hb
              exact (rep27_4 W R p q pc qc ins out W2 R2 p2 q2 pc2 qc2 ins2 out2 f n wc a b c d li lo li2 lo2 f2 n2 h1 h2 h3 h4 (by omega)).mono fun e w' h => res_zero h
        · refine ⟨3, 0, 0, [], [], by simp, by simp, fun wc hb => ?_, fun wc hb => ?_⟩
          · obtain ⟨a, b, c, d⟩ := K wc hb
            exact (rep26_3b W R p q pc qc ins out W2 R2 p2 q2 pc2 qc2 ins2 out2 f n wc a b c d li lo li2 lo2 f2 n2 h1 h2 h3 h4).mono fun e w' h => res_zero h
          · obtain ⟨a, b, c, d⟩ := K wc hb
            exact (rep27_3b W R p q pc qc ins out W2 R2 p2 q2 pc2 qc2 ins2 out2 f n wc a b c d li lo li2 lo2 f2 n2 h1 h2 h3 h4).mono fun e w' h => res_zero h
      · refine ⟨3, 0, 0, [], [], by simp, by simp, fun wc hb => ?_, fun wc hb => ?_⟩
        · obtain ⟨a, b, c, d⟩ := K wc hb
          exact (rep26_3a W R p q pc qc ins out W2 R2 p2 q2 pc2 qc2 ins2 out2 f n wc a b c d li lo li2 lo2 f2 n2 h1 h2 h3).mono fun e w' h => res_zero h
        · obtain ⟨a, b, c, d⟩ := K wc hb
          exact (rep27_3a W R p q pc qc ins out W2 R2 p2 q2 pc2 qc2 ins2 out2 f n wc a b c d li lo li2 lo2 f2 n2 h1 h2 h3).mono fun e w' h => res_zero h
    · refine ⟨chkE W2 R2 ins2 out2, 0, 0, [], [], by simp, by simp, fun wc hb => ?_, fun wc hb => ?_⟩
      · obtain ⟨a, b, c, d⟩ := K wc hb
        exact (rep26_2 W R p q pc qc ins out W2 R2 p2 q2 pc2 qc2 ins2 out2 f n wc a b c d li lo li2 lo2 f2 n2 h1 h2).mono fun e w' h => res_zero h
      · obtain ⟨a, b, c, d⟩ := K wc hb
        exact (rep27_2 W R p q pc qc ins out W2 R2 p2 q2 pc2 qc2 ins2 out2 f n wc a b c d li lo li2 lo2 f2 n2 h1 h2).mono fun e w' h => res_zero h
  · refine ⟨winE W R ins out f n, 0, 0, [], [], by simp, by simp, fun wc hb => ?_, fun wc hb => ?_⟩
    · obtain ⟨a, b, c, d⟩ := K wc hb
      exact (rep26_1 W R p q pc qc ins out W2 R2 p2 q2 pc2 qc2 ins2 out2 f n wc a b c d li lo li2 lo2 f2 n2 h1).mono fun e w' h => res_zero h
    · obtain ⟨a, b, c, d⟩ := K wc hb
      exact (rep27_1 W R p q pc qc ins out W2 R2 p2 q2 pc2 qc2 ins2 out2 f n wc a b c d li lo li2 lo2 f2 n2 h1).mono fun e w' h => res_zero h
theorem light_yes {n m : Nat} (h1 : n ≤ 300) (h2 : m ≤ 20) : lightB n m = true := decide_eq_true ⟨h1, h2⟩
theorem light_no {n m : Nat} (h : ¬ (n ≤ 300 ∧ m ≤ 20)) : lightB n m = false := decide_eq_false h
set_option maxRecDepth 100000 in
set_option maxHeartbeats 2000000 in
theorem rlaw_heavy (W R : Int) (p q : Option Addr) (pc qc n m : Nat) (W2 R2 : Int) (p2 q2 : Option Addr) (pc2 qc2 n2 m2 : Nat) (f k : Int) (w : World) (h : ¬ ((n ≤ 300 ∧ m ≤ 20) ∧ (n2 ≤ 300 ∧ m2 ≤ 20))) :
    Calls Try.prog 6 #[.agg #[.int .i64 W, .int .i64 R, .slice p n pc, .slice q m qc], .agg #[.int .i64 W2, .int .i64 R2, .slice p2 n2 pc2, .slice q2 m2 qc2], .agg #[.int .i64 f, .int .i64 k]] w fun e w' => e = .returned (.bool true) ∧ BK w w' := by
  have K0 := Lib.hid (bk_alloc (bk_alloc (bk_alloc (BK.refl w) (.cells #[.int .i64 W, .int .i64 R, .slice p n pc, .slice q m qc] 25)) (.cells #[.int .i64 W2, .int .i64 R2, .slice p2 n2 pc2, .slice q2 m2 qc2] 25)) (.cells #[.int .i64 f, .int .i64 k] 41))
  have b4 := (b4_new w (.int .i64 W) (.int .i64 R) (.slice p n pc) (.slice q m qc) 25).keep (bk_alloc (bk_alloc (BK.refl _) (.cells #[.int .i64 W2, .int .i64 R2, .slice p2 n2 pc2, .slice q2 m2 qc2] 25)) (.cells #[.int .i64 f, .int .i64 k] 41))
  have d4 := (b4_new (w.alloc (.cells #[.int .i64 W, .int .i64 R, .slice p n pc, .slice q m qc] 25)) (.int .i64 W2) (.int .i64 R2) (.slice p2 n2 pc2) (.slice q2 m2 qc2) 25).keep (bk_alloc (BK.refl _) (.cells #[.int .i64 f, .int .i64 k] 41))
  rw [sz1] at d4
  have L1 := Lib.hid (light10 W R p q pc qc n m)
  have L2 := Lib.hid (light10 W2 R2 p2 q2 pc2 qc2 n2 m2)
  by_cases h1 : n ≤ 300 ∧ m ≤ 20
  · rw [light_no (n := n2) (m := m2) (fun h2 => h ⟨h1, h2⟩)] at L2
    rw [light_yes h1.1 h1.2] at L1
    clear h h1
    go_enter Try.func6, Try.ntmps6
    go_upto_region 1 with (fail)
    generalize ((w.alloc (.cells #[.int .i64 W, .int .i64 R, .slice p n pc, .slice q m qc] 25)).alloc (.cells #[.int .i64 W2, .int .i64 R2, .slice p2 n2 pc2, .slice q2 m2 qc2] 25)).alloc (.cells #[.int .i64 f, .int .i64 k] 41) = w0 at K0 b4 d4 ⊢
    have HD := Lib.hid d4
    obtain ⟨c0, c1, c2, c3⟩ := b4
    clear d4
    go_wp2_with fail
    refine (L1.out w0).mono ?_
    rintro e w1 ⟨rfl, hb1⟩
    obtain ⟨d0, d1, d2, d3⟩ := HD.out.keep hb1
    have J1 := Lib.hid hb1
    clear hb1 c0 c1 c2 c3
    go_wp2_with fail
    refine (L2.out w1).mono ?_
    rintro e w2 ⟨rfl, hb2⟩
    have J2 := Lib.hid (bk_tr J1.out hb2)
    clear hb2 d0 d1 d2 d3
    go_wp2_with fail
    refine (lives11 w2).mono ?_
    rintro e w3 ⟨rfl, hb3⟩
    have J3 := Lib.hid (bk_tr J2.out hb3)
    clear hb3
    go_wp2_with fail
    go_ret
    exact ⟨rfl, bk_tr K0.out J3.out⟩
  · rw [light_no h1] at L1
    clear h h1
    go_enter Try.func6, Try.ntmps6
    go_upto_region 1 with (fail)
    generalize ((w.alloc (.cells #[.int .i64 W, .int .i64 R, .slice p n pc, .slice q m qc] 25)).alloc (.cells #[.int .i64 W2, .int .i64 R2, .slice p2 n2 pc2, .slice q2 m2 qc2] 25)).alloc (.cells #[.int .i64 f, .int .i64 k] 41) = w0 at K0 b4 d4 ⊢
    obtain ⟨c0, c1, c2, c3⟩ := b4
    clear d4
    go_wp2_with fail
    refine (L1.out w0).mono ?_
    rintro e w1 ⟨rfl, hb1⟩
    have J1 := Lib.hid hb1
    clear hb1 c0 c1 c2 c3
    go_wp2_with fail
    refine (lives11 w1).mono ?_
    rintro e w3 ⟨rfl, hb3⟩
    have J3 := Lib.hid (bk_tr J1.out hb3)
    clear hb3
    go_wp2_with fail
    go_ret
    exact ⟨rfl, bk_tr K0.out J3.out⟩
set_option maxRecDepth 100000 in
set_option maxHeartbeats 4000000 in
theorem rlaw (W R : Int) (p q : Option Addr) (pc qc : Nat) (ins : List I6) (out : List Int) (W2 R2 : Int) (p2 q2 : Option Addr) (pc2 qc2 : Nat) (ins2 : List I6) (out2 : List Int) (f n : Int) (w : World) (hi : RI w p pc ins) (ho : RO w q qc out) (hi2 : RI w p2 pc2 ins2) (ho2 : RO w q2 qc2 out2) (li : ins.length ≤ 300) (lo : out.length ≤ 20) (li2 : ins2.length ≤ 300) (lo2 : out2.length ≤ 20) (f2 : f ≤ 9223372036854775807) (n2 : n ≤ 9223372036854775807) (fl : -9223372036854775808 ≤ f) (nl : -9223372036854775808 ≤ n) : Calls Try.prog 6 #[.agg #[.int .i64 W, .int .i64 R, .slice p ins.length pc, .slice q out.length qc], .agg #[.int .i64 W2, .int .i64 R2, .slice p2 ins2.length pc2, .slice q2 out2.length qc2], .agg #[.int .i64 f, .int .i64 n]] w fun e w' => e = .returned (.bool true) ∧ BK w w' := by
  obtain ⟨E, W', R', L, O, hL, hO, h26, h27⟩ := rep_both W R p q pc qc ins out W2 R2 p2 q2 pc2 qc2 ins2 out2 f n w hi ho hi2 ho2 li lo li2 lo2 f2 n2 fl nl
  have k0 := bk_alloc (bk_alloc (bk_alloc (BK.refl w) (.cells #[.int .i64 W, .int .i64 R, .slice p ins.length pc, .slice q out.length qc] 25)) (.cells #[.int .i64 W2, .int .i64 R2, .slice p2 ins2.length pc2, .slice q2 out2.length qc2] 25)) (.cells #[.int .i64 f, .int .i64 n] 41)
  have b4 := (b4_new w (.int .i64 W) (.int .i64 R) (.slice p ins.length pc) (.slice q out.length qc) 25).keep (bk_alloc (bk_alloc (BK.refl _) (.cells #[.int .i64 W2, .int .i64 R2, .slice p2 ins2.length pc2, .slice q2 out2.length qc2] 25)) (.cells #[.int .i64 f, .int .i64 n] 41))
  have d4 := (b4_new (w.alloc (.cells #[.int .i64 W, .int .i64 R, .slice p ins.length pc, .slice q out.length qc] 25)) (.int .i64 W2) (.int .i64 R2) (.slice p2 ins2.length pc2) (.slice q2 out2.length qc2) 25).keep (bk_alloc (BK.refl _) (.cells #[.int .i64 f, .int .i64 n] 41))
  rw [sz1] at d4
  have x0 : (((w.alloc (.cells #[.int .i64 W, .int .i64 R, .slice p ins.length pc, .slice q out.length qc] 25)).alloc (.cells #[.int .i64 W2, .int .i64 R2, .slice p2 ins2.length pc2, .slice q2 out2.length qc2] 25)).alloc (.cells #[.int .i64 f, .int .i64 n] 41)).cell? ⟨w.heap.size + 1 + 1, 0, none⟩ = some (.int .i64 f) := by
    have e := World.cell?_alloc_new ((w.alloc (.cells #[.int .i64 W, .int .i64 R, .slice p ins.length pc, .slice q out.length qc] 25)).alloc (.cells #[.int .i64 W2, .int .i64 R2, .slice p2 ins2.length pc2, .slice q2 out2.length qc2] 25)) #[.int .i64 f, .int .i64 n] 41 0
    rw [sz1, sz1] at e
    rw [e]; rfl
  have x1 : (((w.alloc (.cells #[.int .i64 W, .int .i64 R, .slice p ins.length pc, .slice q out.length qc] 25)).alloc (.cells #[.int .i64 W2, .int .i64 R2, .slice p2 ins2.length pc2, .slice q2 out2.length qc2] 25)).alloc (.cells #[.int .i64 f, .int .i64 n] 41)).cell? ⟨w.heap.size + 1 + 1, 1, none⟩ = some (.int .i64 n) := by
    have e := World.cell?_alloc_new ((w.alloc (.cells #[.int .i64 W, .int .i64 R, .slice p ins.length pc, .slice q out.length qc] 25)).alloc (.cells #[.int .i64 W2, .int .i64 R2, .slice p2 ins2.length pc2, .slice q2 out2.length qc2] 25)) #[.int .i64 f, .int .i64 n] 41 1
    rw [sz1, sz1] at e
    rw [e]; rfl
  have L1 := Lib.hid (fun wc => by have := light10 W R p q pc qc ins.length out.length wc; rw [light_yes li lo] at this; exact this)
  have L2 := Lib.hid (fun wc => by have := light10 W2 R2 p2 q2 pc2 qc2 ins2.length out2.length wc; rw [light_yes li2 lo2] at this; exact this)
  have H26 := Lib.hid h26
  have H27 := Lib.hid h27
  clear hi ho hi2 ho2 h26 h27
  go_enter Try.func6, Try.ntmps6
  go_upto_region 1 with (fail)
  generalize ((w.alloc (.cells #[.int .i64 W, .int .i64 R, .slice p ins.length pc, .slice q out.length qc] 25)).alloc (.cells #[.int .i64 W2, .int .i64 R2, .slice p2 ins2.length pc2, .slice q2 out2.length qc2] 25)).alloc (.cells #[.int .i64 f, .int .i64 n] 41) = w0 at k0 b4 d4 x0 x1 ⊢
  have K0 := Lib.hid k0
  have HB := Lib.hid b4
  have HD := Lib.hid d4
  have HX0 := Lib.hid (fun wc (hb : BK w0 wc) => (hb.bl.cell (p := ⟨w.heap.size + 1 + 1, 0, none⟩) (World.block_lt_of_cell? w0 _ x0)).trans x0)
  have HX1 := Lib.hid (fun wc (hb : BK w0 wc) => (hb.bl.cell (p := ⟨w.heap.size + 1 + 1, 1, none⟩) (World.block_lt_of_cell? w0 _ x1)).trans x1)
  obtain ⟨c0, c1, c2, c3⟩ := b4
  clear d4 x0 x1 k0
  go_wp2_with fail
  refine (L1.out w0).mono ?_
  rintro e w1 ⟨rfl, hb1⟩
  obtain ⟨d0, d1, d2, d3⟩ := HD.out.keep hb1
  have J1 := Lib.hid hb1
  clear hb1 c0 c1 c2 c3
  go_wp2_with fail
  refine (L2.out w1).mono ?_
  rintro e w2 ⟨rfl, hb2⟩
  have J2 := Lib.hid (bk_tr J1.out hb2)
  clear hb2 d0 d1 d2 d3
  obtain ⟨c0, c1, c2, c3⟩ := HB.out.keep J2.out
  obtain ⟨d0, d1, d2, d3⟩ := HD.out.keep J2.out
  have y0 := HX0.out _ J2.out
  have y1 := HX1.out _ J2.out
  go_wp2_with fail
  refine (H26.out w2 (bk_tr K0.out J2.out)).mono ?_
  rintro e w3 ⟨p3, pc3, q3, qc3, rfl, hi3, ho3, hb3⟩
  have HI3 := Lib.hid hi3
  have HO3 := Lib.hid ho3
  have J3 := Lib.hid (bk_tr J2.out hb3)
  clear hb3 hi3 ho3 c0 c1 c2 c3 d0 d1 d2 d3 y0 y1
  go_upto_region 4 with (fail)
  have e4 := b4_new w3 (.int .i64 W') (.int .i64 R') (.slice p3 L.length pc3) (.slice q3 O.length qc3) 25
  have k4 := bk_alloc (BK.refl w3) (.cells #[.int .i64 W', .int .i64 R', .slice p3 L.length pc3, .slice q3 O.length qc3] 25)
  generalize w3.alloc (.cells #[.int .i64 W', .int .i64 R', .slice p3 L.length pc3, .slice q3 O.length qc3] 25) = w4 at e4 k4 ⊢
  generalize w3.heap.size = t7 at e4 ⊢
  have HE4 := Lib.hid e4
  have K4 := Lib.hid k4
  have J4 := Lib.hid (bk_tr J3.out k4)
  clear e4 k4
  obtain ⟨c0, c1, c2, c3⟩ := HB.out.keep J4.out
  obtain ⟨d0, d1, d2, d3⟩ := HD.out.keep J4.out
  have y0 := HX0.out _ J4.out
  have y1 := HX1.out _ J4.out
  go_wp2_with fail
  refine (H27.out w4 (bk_tr K0.out J4.out)).mono ?_
  rintro e w5 ⟨p5, pc5, q5, qc5, rfl, hi5, ho5, hb5⟩
  have HI5 := Lib.hid hi5
  have HO5 := Lib.hid ho5
  have K5 := Lib.hid (bk_tr K4.out hb5)
  have J5 := Lib.hid (bk_tr J4.out hb5)
  have HE5 := Lib.hid (HE4.out.keep hb5)
  clear hb5 hi5 ho5 c0 c1 c2 c3 d0 d1 d2 d3 y0 y1
  go_upto_region 5 with (fail)
  have f4 := b4_new w5 (.int .i64 W') (.int .i64 R') (.slice p5 L.length pc5) (.slice q5 O.length qc5) 25
  have k6 := bk_alloc (BK.refl w5) (.cells #[.int .i64 W', .int .i64 R', .slice p5 L.length pc5, .slice q5 O.length qc5] 25)
  generalize w5.alloc (.cells #[.int .i64 W', .int .i64 R', .slice p5 L.length pc5, .slice q5 O.length qc5] 25) = w6 at f4 k6 ⊢
  generalize w5.heap.size = t9 at f4 ⊢
  have J6 := Lib.hid (bk_tr J5.out k6)
  have C23 := Lib.hid (same23 W' R' p3 q3 p5 q5 pc3 qc3 pc5 qc5 L O w6 (HI3.out.keep (bk_tr K5.out k6)) (HO3.out.keep (bk_tr K5.out k6)) (HI5.out.keep k6) (HO5.out.keep k6) (by omega) (by omega))
  obtain ⟨c0, c1, c2, c3⟩ := HE5.out.keep k6
  obtain ⟨d0, d1, d2, d3⟩ := f4
  clear k6
  go_wp2_with fail
  refine C23.out.mono ?_
  rintro e w7 ⟨rfl, hb7⟩
  have J7 := Lib.hid (bk_tr J6.out hb7)
  clear hb7 c0 c1 c2 c3 d0 d1 d2 d3
  go_wp2_with fail
  refine (lives11 w7).mono ?_
  rintro e w8 ⟨rfl, hb8⟩
  have J8 := Lib.hid (bk_tr J7.out hb8)
  clear hb8
  go_wp2_with fail
  go_ret
  exact ⟨rfl, bk_tr K0.out J8.out⟩
end Go.Proofs.Ytjmmaaphadeokaa
