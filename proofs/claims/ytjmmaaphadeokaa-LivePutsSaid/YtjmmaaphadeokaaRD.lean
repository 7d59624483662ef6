/- Light, windows, liveness of the reference. -/
import Derived.Test.YtjmmaaphadeokaaRC
namespace Go.Proofs.Ytjmmaaphadeokaa
open Go.RowKit Go.Shelf
set_option linter.unusedVariables false
set_option linter.unusedSimpArgs false
def lightB (n m : Nat) : Bool := decide (n ≤ 300 ∧ m ≤ 20)
set_option maxHeartbeats 1000000 in
theorem light10 (W R : Int) (p q : Option Addr) (pc qc n m : Nat) (w : World) : Calls Try.prog 10 #[.agg #[.int .i64 W, .int .i64 R, .slice p n pc, .slice q m qc]] w fun e w' => e = .returned (.bool (lightB n m)) ∧ BK w w' := by
  have HK := Lib.hid (bk_alloc (BK.refl w) (.cells #[.int .i64 W, .int .i64 R, .slice p n pc, .slice q m qc] 25))
  by_cases h1 : n ≤ 300
  · by_cases h2 : m ≤ 20
    · have HL := Lib.hid (show lightB n m = true from decide_eq_true ⟨h1, h2⟩)
      have g1 : (n : Int) ≤ 300 := by omega
      have g2 : (m : Int) ≤ 20 := by omega
      clear h1 h2
      go_enter Try.func10, Try.ntmps10
      go_wp2_with fail
      go_ret
      exact ⟨ret_bool (by first | exact HL.out.symm | (rw [HL.out]; simp; omega) | (rw [HL.out]; simp)), HK.out⟩
    · have HL := Lib.hid (show lightB n m = false from decide_eq_false (fun h => h2 h.2))
      have g1 : (n : Int) ≤ 300 := by omega
      have g2 : 20 < (m : Int) := by omega
      clear h1 h2
      go_enter Try.func10, Try.ntmps10
      go_wp2_with fail
      go_ret
      exact ⟨ret_bool (by first | exact HL.out.symm | (rw [HL.out]; simp; omega) | (rw [HL.out]; simp)), HK.out⟩
  · have HL := Lib.hid (show lightB n m = false from decide_eq_false (fun h => h1 h.1))
    have g1 : 300 < (n : Int) := by omega
    clear h1
    go_enter Try.func10, Try.ntmps10
    go_wp2_with fail
    go_ret
    exact ⟨ret_bool (by first | exact HL.out.symm | (rw [HL.out]; simp; omega) | (rw [HL.out]; simp)), HK.out⟩
/-- the error of a window -/
def winE (W R : Int) (ins : List I6) (out : List Int) (f n : Int) : Int :=
  if chkE W R ins out = 0 then (if 0 ≤ f ∧ 0 ≤ n ∧ f + n ≤ ins.length then 0 else 2) else chkE W R ins out
set_option maxRecDepth 100000 in
set_option maxHeartbeats 1000000 in
theorem win43 (W R : Int) (p q : Option Addr) (pc qc : Nat) (ins : List I6) (out : List Int) (w : World) (hi : RI w p pc ins) (ho : RO w q qc out)  (li : ins.length ≤ 1000) (lo : out.length ≤ 1000) (f n : Int) (f2 : f ≤ 9223372036854775807) (n2 : n ≤ 9223372036854775807) : Calls Try.prog 43 #[.agg #[.int .i64 W, .int .i64 R, .slice p ins.length pc, .slice q out.length qc], .int .i64 f, .int .i64 n] w fun e w' => e = .returned (.int .i64 (winE W R ins out f n)) ∧ BK w w' := by
  have b4 := b4_new w (.int .i64 W) (.int .i64 R) (.slice p ins.length pc) (.slice q out.length qc) 25
  have k0 := bk_alloc (BK.refl w) (.cells #[.int .i64 W, .int .i64 R, .slice p ins.length pc, .slice q out.length qc] 25)
  have C30 := Lib.hid (fun (wc : World) (hb : BK w wc) => chk30 W R p q pc qc ins out wc (hi.keep hb) (ho.keep hb) li lo)
  have HE := Lib.hid (show winE W R ins out f n = (if chkE W R ins out = 0 then (if 0 ≤ f ∧ 0 ≤ n ∧ f + n ≤ ins.length then 0 else 2) else chkE W R ins out) from rfl)
  clear hi ho
  generalize winE W R ins out f n = E at HE ⊢
  generalize chkE W R ins out = y at C30 HE
  by_cases hy : y = 0
  · subst hy
    have HE1 := Lib.hid (HE.out.trans (if_pos rfl))
    by_cases hw : 0 ≤ f ∧ 0 ≤ n ∧ f + n ≤ ins.length
    · have HE2 := Lib.hid (HE1.out.trans (if_pos hw))
      obtain ⟨g1, g2, g3⟩ := hw
      have g4 : n ≤ (ins.length : Int) - f := by omega
      have g5 : n ≤ (ins.length : Int) := by omega
      have g6 : f ≤ (ins.length : Int) - n := by omega
      clear HE
      go_enter Try.func43, Try.ntmps43
      go_upto_region 1 with (fail)
      generalize w.alloc (.cells #[.int .i64 W, .int .i64 R, .slice p ins.length pc, .slice q out.length qc] 25) = w0 at b4 k0 ⊢
      have HB := Lib.hid b4
      obtain ⟨c0, c1, c2, c3⟩ := b4
      have K0 := Lib.hid k0
      clear k0
      go_wp2_with fail
      refine (C30.out w0 K0.out).mono ?_
      rintro e w1 ⟨rfl, hb1⟩
      have K1 := Lib.hid (bk_tr K0.out hb1)
      obtain ⟨d0, d1, d2, d3⟩ := HB.out.keep hb1
      clear hb1 c0 c1 c2 c3
      go_wp2_with fail
      go_ret
      exact ⟨ret_int HE2.out.symm, K1.out⟩
    · have HE2 := Lib.hid (HE1.out.trans (if_neg hw))
      have hcase : f < 0 ∨ (0 ≤ f ∧ n < 0) ∨ (0 ≤ f ∧ 0 ≤ n ∧ (ins.length : Int) < n) ∨ (0 ≤ f ∧ 0 ≤ n ∧ n ≤ (ins.length : Int) ∧ (ins.length : Int) - f < n) := by omega
      have g6 : (0 ≤ f ∧ 0 ≤ n ∧ n ≤ (ins.length : Int) ∧ (ins.length : Int) - f < n) → (ins.length : Int) - n < f := by omega
      have g7 : (0 ≤ f ∧ 0 ≤ n ∧ (ins.length : Int) < n) → (ins.length : Int) - f < n := by omega
      clear HE hw
      rcases hcase with h | ⟨h, ha⟩ | ⟨h, ha, hb⟩ | ⟨h, ha, hb, hc⟩
      all_goals
        (first | (have g8 := g6 ⟨h, ha, hb, hc⟩) | (have g8 := g7 ⟨h, ha, hb⟩) | skip)
        clear g6 g7
        go_enter Try.func43, Try.ntmps43
        go_upto_region 1 with (fail)
        generalize w.alloc (.cells #[.int .i64 W, .int .i64 R, .slice p ins.length pc, .slice q out.length qc] 25) = w0 at b4 k0 ⊢
        have HB := Lib.hid b4
        obtain ⟨c0, c1, c2, c3⟩ := b4
        have K0 := Lib.hid k0
        clear k0
        go_wp2_with fail
        refine (C30.out w0 K0.out).mono ?_
        rintro e w1 ⟨rfl, hb1⟩
        have K1 := Lib.hid (bk_tr K0.out hb1)
        obtain ⟨d0, d1, d2, d3⟩ := HB.out.keep hb1
        clear hb1 c0 c1 c2 c3
        go_wp2_with fail
        go_ret
        exact ⟨ret_int HE2.out.symm, K1.out⟩
  · have HE1 := Lib.hid (HE.out.trans (if_neg hy))
    have hn : (y != 0) = true := by simpa using hy
    clear HE hy
    go_enter Try.func43, Try.ntmps43
    go_upto_region 1 with (fail)
    generalize w.alloc (.cells #[.int .i64 W, .int .i64 R, .slice p ins.length pc, .slice q out.length qc] 25) = w0 at b4 k0 ⊢
    obtain ⟨c0, c1, c2, c3⟩ := b4
    have K0 := Lib.hid k0
    clear k0
    go_wp2_with fail
    refine (C30.out w0 K0.out).mono ?_
    rintro e w1 ⟨rfl, hb1⟩
    have K1 := Lib.hid (bk_tr K0.out hb1)
    clear hb1 c0 c1 c2 c3
    go_wp2_with fail
    go_ret
    exact ⟨ret_int HE1.out.symm, K1.out⟩
set_option maxRecDepth 100000 in
set_option maxHeartbeats 1000000 in
theorem win46 (W R : Int) (p q : Option Addr) (pc qc : Nat) (ins : List I6) (out : List Int) (w : World) (hi : RI w p pc ins) (ho : RO w q qc out)  (li : ins.length ≤ 1000) (lo : out.length ≤ 1000) (f n : Int) (f2 : f ≤ 9223372036854775807) (n2 : n ≤ 9223372036854775807) : Calls Try.prog 46 #[.agg #[.int .i64 W, .int .i64 R, .slice p ins.length pc, .slice q out.length qc], .int .i64 f, .int .i64 n] w fun e w' => e = .returned (.int .i64 (winE W R ins out f n)) ∧ BK w w' := by
  have b4 := b4_new w (.int .i64 W) (.int .i64 R) (.slice p ins.length pc) (.slice q out.length qc) 25
  have k0 := bk_alloc (BK.refl w) (.cells #[.int .i64 W, .int .i64 R, .slice p ins.length pc, .slice q out.length qc] 25)
  have C30 := Lib.hid (fun (wc : World) (hb : BK w wc) => rchk28 W R p q pc qc ins out wc (hi.keep hb) (ho.keep hb) li lo)
  have HE := Lib.hid (show winE W R ins out f n = (if chkE W R ins out = 0 then (if 0 ≤ f ∧ 0 ≤ n ∧ f + n ≤ ins.length then 0 else 2) else chkE W R ins out) from rfl)
  clear hi ho
  generalize winE W R ins out f n = E at HE ⊢
  generalize chkE W R ins out = y at C30 HE
  by_cases hy : y = 0
  · subst hy
    have HE1 := Lib.hid (HE.out.trans (if_pos rfl))
    by_cases hw : 0 ≤ f ∧ 0 ≤ n ∧ f + n ≤ ins.length
    · have HE2 := Lib.hid (HE1.out.trans (if_pos hw))
      obtain ⟨g1, g2, g3⟩ := hw
      have g4 : n ≤ (ins.length : Int) - f := by omega
      have g5 : n ≤ (ins.length : Int) := by omega
      have g6 : f ≤ (ins.length : Int) - n := by omega
      clear HE
      go_enter Try.func46, Try.ntmps46
      go_upto_region 1 with (fail)
      generalize w.alloc (.cells #[.int .i64 W, .int .i64 R, .slice p ins.length pc, .slice q out.length qc] 25) = w0 at b4 k0 ⊢
      have HB := Lib.hid b4
      obtain ⟨c0, c1, c2, c3⟩ := b4
      have K0 := Lib.hid k0
      clear k0
      go_wp2_with fail
      refine (C30.out w0 K0.out).mono ?_
      rintro e w1 ⟨rfl, hb1⟩
      have K1 := Lib.hid (bk_tr K0.out hb1)
      obtain ⟨d0, d1, d2, d3⟩ := HB.out.keep hb1
      clear hb1 c0 c1 c2 c3
      go_wp2_with fail
      go_ret
      exact ⟨ret_int HE2.out.symm, K1.out⟩
    · have HE2 := Lib.hid (HE1.out.trans (if_neg hw))
      have hcase : f < 0 ∨ (0 ≤ f ∧ n < 0) ∨ (0 ≤ f ∧ 0 ≤ n ∧ (ins.length : Int) < n) ∨ (0 ≤ f ∧ 0 ≤ n ∧ n ≤ (ins.length : Int) ∧ (ins.length : Int) - f < n) := by omega
      have g6 : (0 ≤ f ∧ 0 ≤ n ∧ n ≤ (ins.length : Int) ∧ (ins.length : Int) - f < n) → (ins.length : Int) - n < f := by omega
      have g7 : (0 ≤ f ∧ 0 ≤ n ∧ (ins.length : Int) < n) → (ins.length : Int) - f < n := by omega
      clear HE hw
      rcases hcase with h | ⟨h, ha⟩ | ⟨h, ha, hb⟩ | ⟨h, ha, hb, hc⟩
      all_goals
        (first | (have g8 := g6 ⟨h, ha, hb, hc⟩) | (have g8 := g7 ⟨h, ha, hb⟩) | skip)
        clear g6 g7
        go_enter Try.func46, Try.ntmps46
        go_upto_region 1 with (fail)
        generalize w.alloc (.cells #[.int .i64 W, .int .i64 R, .slice p ins.length pc, .slice q out.length qc] 25) = w0 at b4 k0 ⊢
        have HB := Lib.hid b4
        obtain ⟨c0, c1, c2, c3⟩ := b4
        have K0 := Lib.hid k0
        clear k0
        go_wp2_with fail
        refine (C30.out w0 K0.out).mono ?_
        rintro e w1 ⟨rfl, hb1⟩
        have K1 := Lib.hid (bk_tr K0.out hb1)
        obtain ⟨d0, d1, d2, d3⟩ := HB.out.keep hb1
        clear hb1 c0 c1 c2 c3
        go_wp2_with fail
        go_ret
        exact ⟨ret_int HE2.out.symm, K1.out⟩
  · have HE1 := Lib.hid (HE.out.trans (if_neg hy))
    have hn : (y != 0) = true := by simpa using hy
    clear HE hy
    go_enter Try.func46, Try.ntmps46
    go_upto_region 1 with (fail)
    generalize w.alloc (.cells #[.int .i64 W, .int .i64 R, .slice p ins.length pc, .slice q out.length qc] 25) = w0 at b4 k0 ⊢
    obtain ⟨c0, c1, c2, c3⟩ := b4
    have K0 := Lib.hid k0
    clear k0
    go_wp2_with fail
    refine (C30.out w0 K0.out).mono ?_
    rintro e w1 ⟨rfl, hb1⟩
    have K1 := Lib.hid (bk_tr K0.out hb1)
    clear hb1 c0 c1 c2 c3
    go_wp2_with fail
    go_ret
    exact ⟨ret_int HE1.out.symm, K1.out⟩

theorem usedB_drop (ins : List I6) (out : List Int) (r : Int) (k : Nat) (h : k < ins.length) : usedB (ins.drop k) out r = (hasB (usesL ins[k]) r || (!defB ins[k] r && usedB (ins.drop (k + 1)) out r)) := by
  rw [List.drop_eq_getElem_cons h]; rfl
set_option maxRecDepth 100000 in
set_option maxHeartbeats 1000000 in
theorem used54 (W R : Int) (p q : Option Addr) (pc qc : Nat) (ins : List I6) (out : List Int) (w : World) (hi : RI w p pc ins) (ho : RO w q qc out)  (li : ins.length ≤ 1000) (lo : out.length ≤ 1000) (k0 : Nat) (hk0 : k0 ≤ ins.length) (r : Int) : Calls Try.prog 54 #[.agg #[.int .i64 W, .int .i64 R, .slice p ins.length pc, .slice q out.length qc], .int .i64 (k0 : Int), .int .i64 r] w fun e w' => e = .returned (.bool (usedB (ins.drop k0) out r)) ∧ BK w w' := by
  have b4 := b4_new w (.int .i64 W) (.int .i64 R) (.slice p ins.length pc) (.slice q out.length qc) 25
  have k9 := bk_alloc (BK.refl w) (.cells #[.int .i64 W, .int .i64 R, .slice p ins.length pc, .slice q out.length qc] 25)
  have HI := Lib.hid hi
  have HO := Lib.hid ho
  have HZ := Lib.hid (show usedB (ins.drop ins.length) out r = hasB out r by rw [List.drop_length]; rfl)
  clear hi ho
  go_enter Try.func54, Try.ntmps54
  go_upto_region 1 with (fail)
  generalize w.alloc (.cells #[.int .i64 W, .int .i64 R, .slice p ins.length pc, .slice q out.length qc] 25) = w0 at b4 k9 ⊢
  have H4 := Lib.hid (fun wc (hb : BK w0 wc) => b4.keep hb)
  have HK := Lib.hid k9
  clear b4 k9
  go_wp2_with fail
  go_loopw [7] (fun i wr => ∃ k : Nat, k ≤ ins.length ∧ i = .int .i64 k ∧ usedB (ins.drop k0) out r = usedB (ins.drop k) out r ∧ BK w0 wr) (fun i _ => ins.length - (intOf i).toNat)
  case atStart => exact ⟨k0, hk0, rfl, rfl, BK.refl _⟩
  case round =>
    obtain ⟨k, hkk, rfl, hs, hkw⟩ := hrel
    have HK0 := Lib.hid hkw
    obtain ⟨c0, c1, c2, c3⟩ := H4.out _ hkw
    by_cases hlt : k < ins.length
    · have hst := hs.trans (usedB_drop ins out r k hlt)
      obtain ⟨b, o, rfl, hc⟩ := (HI.out.keep (bk_tr HK.out hkw)).get k hlt
      clear hs hkw
      generalize ins[k] = i at hc hst
      have HC := Lib.hid (fun wc (hb : BK wr wc) => hc.keep hb)
      obtain ⟨d0, d1, d2, d3, d4, d5⟩ := hc
      have HST := Lib.hid hst
      clear hst
      have hul : (usesL i).length ≤ 100000 := by have := usesL_len i; omega
      go_wp2_with fail
      refine (uses83 i wr).mono ?_
      rintro e w1 ⟨s, sc, rfl, hu, hb1⟩
      have C35 := Lib.hid (has35 (usesL i) r s sc w1 hu hul)
      have K1 := Lib.hid hb1
      obtain ⟨z0, z1, z2, z3⟩ := H4.out _ (bk_tr HK0.out hb1)
      obtain ⟨x0, x1, x2, x3, x4, x5⟩ := HC.out _ hb1
      clear hu hb1 c0 c1 c2 c3 d0 d1 d2 d3 d4 d5
      cases hh : hasB (usesL i) r
      · rw [hh] at C35
        have H1 := Lib.hid (HST.out.trans (by rw [hh, Bool.false_or]))
        clear hh
        go_wp2_with fail
        refine C35.out.mono ?_
        rintro e w2 ⟨rfl, rfl⟩
        have C47 := Lib.hid (defs47 i r w1)
        cases hd : defB i r
        · rw [hd] at C47
          have H2 := Lib.hid (H1.out.trans (by rw [hd]; simp : _ = usedB (ins.drop (k + 1)) out r))
          clear hd
          go_wp2_with fail
          refine C47.out.mono ?_
          rintro e w3 ⟨rfl, hb3⟩
          have K3 := Lib.hid (bk_tr HK0.out (bk_tr K1.out hb3))
          clear hb3 z0 z1 z2 z3 x0 x1 x2 x3 x4 x5
          go_wp2_with fail
          go_roundw
          case rel => exact ⟨k + 1, by omega, by go_num, H2.out, K3.out⟩
          case measure => simp [intOf]; omega
        · rw [hd] at C47
          have H2 := Lib.hid (H1.out.trans (by rw [hd]; simp : _ = false))
          clear hd
          go_wp2_with fail
          refine C47.out.mono ?_
          rintro e w3 ⟨rfl, hb3⟩
          have K3 := Lib.hid (bk_tr HK0.out (bk_tr K1.out hb3))
          clear hb3 z0 z1 z2 z3 x0 x1 x2 x3 x4 x5
          go_wp2_with fail
          go_ret
          exact ⟨ret_bool H2.out.symm, bk_tr HK.out K3.out⟩
      · rw [hh] at C35
        have H1 := Lib.hid (HST.out.trans (by rw [hh, Bool.true_or]))
        clear hh
        go_wp2_with fail
        refine C35.out.mono ?_
        rintro e w2 ⟨rfl, rfl⟩
        go_wp2_with fail
        go_ret
        exact ⟨ret_bool H1.out.symm, bk_tr HK.out (bk_tr HK0.out K1.out)⟩
    · obtain rfl : k = ins.length := by omega
      have H1 := Lib.hid (hs.trans HZ.out)
      have C35 := Lib.hid (has35 out r q qc wr (HO.out.keep (bk_tr HK.out hkw)) (by omega))
      clear hs hkw
      go_wp2_with fail
      refine C35.out.mono ?_
      rintro e w2 ⟨rfl, rfl⟩
      go_wp2_with fail
      go_ret
      exact ⟨ret_bool H1.out.symm, bk_tr HK.out HK0.out⟩
theorem liveL_succ (k : Nat) (t : List I6) (out : List Int) : liveL (k + 1) t out = if usedB t out k = true then liveL k t out ++ [(k : Int)] else liveL k t out := by
  unfold liveL
  rw [List.range_succ, List.filter_append]
  cases h : usedB t out k <;> simp [h]
theorem liveL_len (k : Nat) (t : List I6) (out : List Int) : (liveL k t out).length ≤ k := by
  unfold liveL; simp
  have := List.length_filter_le (fun r : Nat => usedB t out r) (List.range k)
  simpa using this
set_option maxRecDepth 100000 in
set_option maxHeartbeats 1000000 in
theorem before33 (W R : Int) (p q : Option Addr) (pc qc : Nat) (ins : List I6) (out : List Int) (w : World) (hi : RI w p pc ins) (ho : RO w q qc out)  (li : ins.length ≤ 1000) (lo : out.length ≤ 1000) (k0 : Nat) (hk0 : k0 ≤ ins.length) (r1 : 1 ≤ R) (r2 : R ≤ 8) : Calls Try.prog 33 #[.agg #[.int .i64 W, .int .i64 R, .slice p ins.length pc, .slice q out.length qc], .int .i64 (k0 : Int)] w (LP (liveL R.toNat (ins.drop k0) out) w) := by
  obtain ⟨n, rfl⟩ : ∃ n : Nat, R = n := ⟨R.toNat, by omega⟩
  obtain ⟨i0, hi0, hz0, hz1, hz2⟩ := info_parts info3
  have b4 := b4_new w (.int .i64 W) (.int .i64 (n : Int)) (.slice p ins.length pc) (.slice q out.length qc) 25
  have k9 := bk_alloc (BK.refl w) (.cells #[.int .i64 W, .int .i64 (n : Int), .slice p ins.length pc, .slice q out.length qc] 25)
  have C54 := Lib.hid (fun (wc : World) (hb : BK w wc) (r : Int) => used54 W (n : Int) p q pc qc ins out wc (hi.keep hb) (ho.keep hb) li lo k0 hk0 r)
  have HT := Lib.hid (show ((n : Int)).toNat = n from by simp)
  rw [HT.out]
  clear hi ho
  generalize hll : ins.drop k0 = t at C54 ⊢
  clear hll
  go_enter Try.func33, Try.ntmps33
  go_upto_region 1 with (fail)
  generalize w.alloc (.cells #[.int .i64 W, .int .i64 (n : Int), .slice p ins.length pc, .slice q out.length qc] 25) = w0 at b4 k9 ⊢
  have K9 := Lib.hid k9
  have HE0 := Lib.hid (own_empty w0 w0.heap.size (Nat.le_refl _) 3 1)
  have H4 := Lib.hid (fun wc (hb : BK w0 wc) => b4.keep hb)
  have K1 := Lib.hid (bk_alloc (BK.refl w0) (.cells #[] 3))
  clear b4 k9
  go_wp2_with fail
  generalize w0.alloc (.cells #[] 3) = w1 at HE0 K1 ⊢
  go_loopw [5, 6] (fun v j wr => ∃ k : Nat, k ≤ n ∧ j = .int .i64 k ∧ wr.ownsRow w0.heap.size 3 1 v (liveL k t out).length (ints (liveL k t out)) ∧ BK w0 wr) (fun _ j _ => n - (intOf j).toNat)
  case atStart => exact ⟨0, by omega, rfl, HE0.out, K1.out⟩
  case round =>
    obtain ⟨k, hk, rfl, hown, hkw⟩ := hrel
    have HK := Lib.hid hkw
    have HO := Lib.hid hown
    obtain ⟨c0, c1, c2, c3⟩ := H4.out _ hkw
    by_cases hlt : k < n
    · have hll := liveL_len k t out
      have HSU := Lib.hid (liveL_succ k t out)
      have R54 := Lib.hid (C54.out wr (bk_tr K9.out hkw) (k : Int))
      clear hown hkw
      generalize usedB t out (k : Int) = z at HSU R54
      go_wp2_with fail
      refine R54.out.mono ?_
      rintro e w3 ⟨rfl, hb3⟩
      have HO3 := Lib.hid (own_below HO.out hb3)
      have K3 := Lib.hid (bk_tr HK.out hb3)
      clear hb3 c0 c1 c2 c3
      cases z
      · have H1 := Lib.hid (HSU.out.trans (if_neg (by simp)))
        go_wp2_with fail
        go_roundw
        case rel => exact ⟨k + 1, by omega, by go_num, by rw [H1.out]; exact HO3.out, K3.out⟩
        case measure => simp [intOf]; omega
      · have H1 := Lib.hid (HSU.out.trans (if_pos rfl))
        have hml : (liveL k t out).length + 1 ≤ maxLen := by unfold maxLen; omega
        have hown := HO3.out
        have hbs := K3.out.bl.size
        go_wp2_with (at_builtin; refine wpList_append_own _ rfl _ _ 23 rfl w0.heap.size 3 i0 (.int .i64 0) 1 8 Try.underlying23 hi0 hz0 hz1 hz2 rfl (by decide) _ _ _ rfl (hown.alloc _) ⟨w3.heap.size, 0, none⟩ 1 1 [.int .i64 (k : Int)] rfl rfl (one_new _ _ _) (by simp [Value.oneCell']) hml (by omega) (by simp; omega) ?_; intro v' w4 hown' hgrow _; have HO4 := Lib.hid (show w4.ownsRow w0.heap.size 3 1 v' (liveL (k + 1) t out).length (ints (liveL (k + 1) t out)) from by rw [H1.out]; exact own_cast hown' (by simp) (by simp [ints])); have HB4 := Lib.hid (show BK w0 w4 from (K3.out.bl.alloc hbs _).grown hgrow (by simp; omega) (fun r hr => (World.ownsRow.lt hown r hr).1)); clear hown' hgrow)
        go_roundw
        case rel => exact ⟨k + 1, by omega, by go_num, HO4.out, HB4.out⟩
        case measure => simp [intOf]; omega
    · obtain rfl : k = n := by omega
      clear hown hkw
      go_wp2_with fail
      go_ret
      exact ⟨_, rfl, own_mono HO.out (bk_size K9.out), bk_tr K9.out HK.out⟩
end Go.Proofs.Ytjmmaaphadeokaa
