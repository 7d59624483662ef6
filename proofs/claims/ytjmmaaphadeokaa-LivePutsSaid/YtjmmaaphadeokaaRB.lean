/- The reference on an instruction. -/
import Derived.Test.YtjmmaaphadeokaaRA
namespace Go.Proofs.Ytjmmaaphadeokaa
open Go.RowKit Go.Shelf
set_option linter.unusedVariables false
set_option linter.unusedSimpArgs false
set_option maxRecDepth 100000 in
set_option maxHeartbeats 1000000 in
theorem rin_bad (W R : Int) (p q : Option Addr) (n' pc m qc : Nat) (i : I6) (w : World) (hv : opB i.op = false) : Calls Try.prog 49 #[.agg #[.int .i64 W, .int .i64 R, .slice p n' pc, .slice q m qc], .agg #[.int .i64 i.op, .int .i64 i.dst, .int .i64 i.a, .int .i64 i.b, .int .i64 i.c, .int .u64 i.imm]] w fun e w' => e = .returned (.int .i64 4) ∧ BK w w' := by
  have k0 := bk_alloc (bk_alloc (BK.refl w) (.cells #[.int .i64 W, .int .i64 R, .slice p n' pc, .slice q m qc] 25)) (.cells #[.int .i64 i.op, .int .i64 i.dst, .int .i64 i.a, .int .i64 i.b, .int .i64 i.c, .int .u64 i.imm] 54)
  have hx := x6_new (w.alloc (.cells #[.int .i64 W, .int .i64 R, .slice p n' pc, .slice q m qc] 25)) i 54
  rw [sz1] at hx
  have hs : srcs i.op = -1 := by
    unfold opB at hv; have h := of_decide_eq_false hv
    unfold srcs; rw [if_pos (by omega)]
  have H := Lib.hid (src61 i.op)
  rw [hs] at H
  clear hs hv
  go_enter Try.func49, Try.ntmps49
  go_upto_region 1 with (fail)
  generalize (w.alloc (.cells #[.int .i64 W, .int .i64 R, .slice p n' pc, .slice q m qc] 25)).alloc (.cells #[.int .i64 i.op, .int .i64 i.dst, .int .i64 i.a, .int .i64 i.b, .int .i64 i.c, .int .u64 i.imm] 54) = w0 at k0 hx ⊢
  obtain ⟨y0, y1, y2, y3, y4, y5⟩ := hx
  have K0 := Lib.hid k0
  clear k0
  go_wp2_with (go_at_call 61; refine (H.out _).mono ?_; rintro e w' ⟨rfl, rfl⟩)
  go_ret
  exact ⟨rfl, K0.out⟩
set_option maxRecDepth 100000 in
set_option maxHeartbeats 1000000 in
theorem rin_dst1 (W R : Int) (p q : Option Addr) (n' pc m qc : Nat) (i : I6) (w : World) (n : Nat) (hs : srcs i.op = n) (ho : i.op = 1) (hm : inB R i.dst = false) : Calls Try.prog 49 #[.agg #[.int .i64 W, .int .i64 R, .slice p n' pc, .slice q m qc], .agg #[.int .i64 i.op, .int .i64 i.dst, .int .i64 i.a, .int .i64 i.b, .int .i64 i.c, .int .u64 i.imm]] w fun e w' => e = .returned (.int .i64 18) ∧ BK w w' := by
  have k0 := bk_alloc (bk_alloc (BK.refl w) (.cells #[.int .i64 W, .int .i64 R, .slice p n' pc, .slice q m qc] 25)) (.cells #[.int .i64 i.op, .int .i64 i.dst, .int .i64 i.a, .int .i64 i.b, .int .i64 i.c, .int .u64 i.imm] 54)
  have hx := x6_new (w.alloc (.cells #[.int .i64 W, .int .i64 R, .slice p n' pc, .slice q m qc] 25)) i 54
  rw [sz1] at hx
  have b4 := (b4_new w (.int .i64 W) (.int .i64 R) (.slice p n' pc) (.slice q m qc) 25).keep (bk_alloc (BK.refl _) (.cells #[.int .i64 i.op, .int .i64 i.dst, .int .i64 i.a, .int .i64 i.b, .int .i64 i.c, .int .u64 i.imm] 54))
  have H := Lib.hid (src61 i.op)
  rw [hs] at H
  have n0 : (0 : Int) ≤ n := by omega
  have e0 : (i.op != 0) = true := by simp [ho]
  have e0' : (i.op == 0) = false := by simp [ho]
  have e1 : (i.op == 1) = true := by simp [ho]
  have e1' : (i.op != 1) = false := by simp [ho]
  have D := Lib.hid (in50 i.dst R)
  rw [hm] at D
  clear hs hm ho
  go_enter Try.func49, Try.ntmps49
  go_upto_region 1 with (fail)
  generalize (w.alloc (.cells #[.int .i64 W, .int .i64 R, .slice p n' pc, .slice q m qc] 25)).alloc (.cells #[.int .i64 i.op, .int .i64 i.dst, .int .i64 i.a, .int .i64 i.b, .int .i64 i.c, .int .u64 i.imm] 54) = w0 at k0 hx b4 ⊢
  have HX := Lib.hid (fun wc (hb : BK w0 wc) => hx.keep hb)
  have HB := Lib.hid (fun wc (hb : BK w0 wc) => b4.keep hb)
  obtain ⟨y0, y1, y2, y3, y4, y5⟩ := hx
  have K0 := Lib.hid k0
  have hlf := Lib.hid (ro_full w0 i.a i.b i.c)
  clear k0
  clear b4
  go_upto_region 5 with (go_at_call 61; refine (H.out _).mono ?_; rintro e w' ⟨rfl, rfl⟩)
  have ka := bk_alloc (BK.refl w0) (.cells #[.int .i64 i.a, .int .i64 i.b, .int .i64 i.c] 3)
  generalize w0.alloc (.cells #[.int .i64 i.a, .int .i64 i.b, .int .i64 i.c] 3) = w1 at hlf ka ⊢
  generalize w0.heap.size = g at hlf ⊢
  have KA := Lib.hid ka
  obtain ⟨z0, z1, z2, z3, z4, z5⟩ := HX.out _ ka
  obtain ⟨c0, c1, c2, c3⟩ := HB.out _ ka
  clear ka y0 y1 y2 y3 y4 y5
  go_wp2_with (go_at_call 50; refine (D.out _).mono ?_; rintro e w' ⟨rfl, rfl⟩)
  go_ret
  exact ⟨rfl, bk_tr K0.out KA.out⟩
set_option maxRecDepth 100000 in
set_option maxHeartbeats 1000000 in
theorem rin_dstx (W R : Int) (p q : Option Addr) (n' pc m qc : Nat) (i : I6) (w : World) (n : Nat) (hs : srcs i.op = n) (ho : i.op ≠ 0) (ho1 : i.op ≠ 1) (hm : inB R i.dst = false) : Calls Try.prog 49 #[.agg #[.int .i64 W, .int .i64 R, .slice p n' pc, .slice q m qc], .agg #[.int .i64 i.op, .int .i64 i.dst, .int .i64 i.a, .int .i64 i.b, .int .i64 i.c, .int .u64 i.imm]] w fun e w' => e = .returned (.int .i64 18) ∧ BK w w' := by
  have k0 := bk_alloc (bk_alloc (BK.refl w) (.cells #[.int .i64 W, .int .i64 R, .slice p n' pc, .slice q m qc] 25)) (.cells #[.int .i64 i.op, .int .i64 i.dst, .int .i64 i.a, .int .i64 i.b, .int .i64 i.c, .int .u64 i.imm] 54)
  have hx := x6_new (w.alloc (.cells #[.int .i64 W, .int .i64 R, .slice p n' pc, .slice q m qc] 25)) i 54
  rw [sz1] at hx
  have b4 := (b4_new w (.int .i64 W) (.int .i64 R) (.slice p n' pc) (.slice q m qc) 25).keep (bk_alloc (BK.refl _) (.cells #[.int .i64 i.op, .int .i64 i.dst, .int .i64 i.a, .int .i64 i.b, .int .i64 i.c, .int .u64 i.imm] 54))
  have H := Lib.hid (src61 i.op)
  rw [hs] at H
  have n0 : (0 : Int) ≤ n := by omega
  have e0 : (i.op != 0) = true := by simp [ho]
  have e0' : (i.op == 0) = false := by simp [ho]
  have e1 : (i.op == 1) = false := by simp [ho1]
  have e1' : (i.op != 1) = true := by simp [ho1]
  have D := Lib.hid (in50 i.dst R)
  rw [hm] at D
  clear hs hm ho ho1
  go_enter Try.func49, Try.ntmps49
  go_upto_region 1 with (fail)
  generalize (w.alloc (.cells #[.int .i64 W, .int .i64 R, .slice p n' pc, .slice q m qc] 25)).alloc (.cells #[.int .i64 i.op, .int .i64 i.dst, .int .i64 i.a, .int .i64 i.b, .int .i64 i.c, .int .u64 i.imm] 54) = w0 at k0 hx b4 ⊢
  have HX := Lib.hid (fun wc (hb : BK w0 wc) => hx.keep hb)
  have HB := Lib.hid (fun wc (hb : BK w0 wc) => b4.keep hb)
  obtain ⟨y0, y1, y2, y3, y4, y5⟩ := hx
  have K0 := Lib.hid k0
  have hlf := Lib.hid (ro_full w0 i.a i.b i.c)
  clear k0
  clear b4
  go_upto_region 5 with (go_at_call 61; refine (H.out _).mono ?_; rintro e w' ⟨rfl, rfl⟩)
  have ka := bk_alloc (BK.refl w0) (.cells #[.int .i64 i.a, .int .i64 i.b, .int .i64 i.c] 3)
  generalize w0.alloc (.cells #[.int .i64 i.a, .int .i64 i.b, .int .i64 i.c] 3) = w1 at hlf ka ⊢
  generalize w0.heap.size = g at hlf ⊢
  have KA := Lib.hid ka
  obtain ⟨z0, z1, z2, z3, z4, z5⟩ := HX.out _ ka
  obtain ⟨c0, c1, c2, c3⟩ := HB.out _ ka
  clear ka y0 y1 y2 y3 y4 y5
  go_wp2_with (go_at_call 50; refine (D.out _).mono ?_; rintro e w' ⟨rfl, rfl⟩)
  go_ret
  exact ⟨rfl, bk_tr K0.out KA.out⟩
set_option maxRecDepth 100000 in
set_option maxHeartbeats 2000000 in
theorem rin_0 (W R : Int) (p q : Option Addr) (n' pc m qc : Nat) (i : I6) (w : World) (n : Nat) (hs : srcs i.op = n) (h3 : n ≤ 3) (ho : i.op = 0) (w1' : 1 ≤ W) (w2' : W ≤ 64) (E : Int) (hE : E = if anyMiss R (usesL i) = true then 18 else if i.op = 1 ∧ maskI W < i.imm then 2 else if junkB i = true then 19 else 0) : Calls Try.prog 49 #[.agg #[.int .i64 W, .int .i64 R, .slice p n' pc, .slice q m qc], .agg #[.int .i64 i.op, .int .i64 i.dst, .int .i64 i.a, .int .i64 i.b, .int .i64 i.c, .int .u64 i.imm]] w fun e w' => e = .returned (.int .i64 E) ∧ BK w w' := by
  have k0 := bk_alloc (bk_alloc (BK.refl w) (.cells #[.int .i64 W, .int .i64 R, .slice p n' pc, .slice q m qc] 25)) (.cells #[.int .i64 i.op, .int .i64 i.dst, .int .i64 i.a, .int .i64 i.b, .int .i64 i.c, .int .u64 i.imm] 54)
  have hx := x6_new (w.alloc (.cells #[.int .i64 W, .int .i64 R, .slice p n' pc, .slice q m qc] 25)) i 54
  rw [sz1] at hx
  have b4 := (b4_new w (.int .i64 W) (.int .i64 R) (.slice p n' pc) (.slice q m qc) 25).keep (bk_alloc (BK.refl _) (.cells #[.int .i64 i.op, .int .i64 i.dst, .int .i64 i.a, .int .i64 i.b, .int .i64 i.c, .int .u64 i.imm] 54))
  have H := Lib.hid (src61 i.op)
  rw [hs] at H
  have n0 : (0 : Int) ≤ n := by omega
  have e0 : (i.op != 0) = false := by simp [ho]
  have e0' : (i.op == 0) = true := by simp [ho]
  have e1 : (i.op == 1) = false := by simp [ho]
  have e1' : (i.op != 1) = true := by simp [ho]
  have HO := Lib.hid (show ¬ i.op = 1 from by omega)
  have HO0 := Lib.hid ho
  have HU := Lib.hid (fun k hk => us_get i n hs h3 k hk)
  have HU0 := Lib.hid (show anyMiss R ((usesL i).drop n) = false from by rw [usesL_n i n hs, List.drop_of_length_le (by simp; omega)]; rfl)
  have HS := Lib.hid hs
  have MK := Lib.hid (mask62' W w1' w2')
  generalize maskI W = mk at MK hE
  have HE := Lib.hid hE
  clear hs ho hE
  go_enter Try.func49, Try.ntmps49
  go_upto_region 1 with (fail)
  generalize (w.alloc (.cells #[.int .i64 W, .int .i64 R, .slice p n' pc, .slice q m qc] 25)).alloc (.cells #[.int .i64 i.op, .int .i64 i.dst, .int .i64 i.a, .int .i64 i.b, .int .i64 i.c, .int .u64 i.imm] 54) = w0 at k0 hx b4 ⊢
  have HX := Lib.hid (fun wc (hb : BK w0 wc) => hx.keep hb)
  have HB := Lib.hid (fun wc (hb : BK w0 wc) => b4.keep hb)
  obtain ⟨y0, y1, y2, y3, y4, y5⟩ := hx
  have K0 := Lib.hid k0
  have hlf := Lib.hid (ro_full w0 i.a i.b i.c)
  clear k0
  clear b4
  go_upto_region 5 with (go_at_call 61; refine (H.out _).mono ?_; rintro e w' ⟨rfl, rfl⟩)
  have ka := bk_alloc (BK.refl w0) (.cells #[.int .i64 i.a, .int .i64 i.b, .int .i64 i.c] 3)
  generalize w0.alloc (.cells #[.int .i64 i.a, .int .i64 i.b, .int .i64 i.c] 3) = w1 at hlf ka ⊢
  generalize w0.heap.size = g at hlf ⊢
  have KA := Lib.hid ka
  obtain ⟨z0, z1, z2, z3, z4, z5⟩ := HX.out _ ka
  obtain ⟨c0, c1, c2, c3⟩ := HB.out _ ka
  clear ka y0 y1 y2 y3 y4 y5
  have HLF := Lib.hid hlf.out
  clear hlf
  go_wp2_with fail
  clear z0 z1 z2 z3 z4 z5 c0 c1 c2 c3
  go_loopw [7] (fun j wr => ∃ k : Nat, k ≤ n ∧ j = .int .i64 k ∧ anyMiss R (usesL i) = anyMiss R ((usesL i).drop k) ∧ BK w1 wr) (fun j _ => n - (intOf j).toNat)
  case atStart => exact ⟨0, Nat.zero_le _, rfl, rfl, BK.refl _⟩
  case round =>
    obtain ⟨k, hk, rfl, hsx, hkw⟩ := hrel
    have HK := Lib.hid hkw
    have HSX := Lib.hid hsx
    obtain ⟨z0, z1, z2, z3, z4, z5⟩ := HX.out _ (bk_tr KA.out hkw)
    obtain ⟨c0, c1, c2, c3⟩ := HB.out _ (bk_tr KA.out hkw)
    by_cases hlt : k < n
    · obtain ⟨u1, u2, u3⟩ := HU.out k hlt
      obtain ⟨b', o', he, hc⟩ := (HLF.out.keep hkw).get k u2
      simp only [Option.some.injEq, Addr.mk.injEq, and_true] at he
      obtain ⟨rfl, rfl⟩ := he
      rw [Nat.zero_add] at hc
      have hst := hsx.trans (anyMiss_drop R (usesL i) k u1)
      rw [u3] at hst
      clear hsx hkw u3
      generalize [i.a, i.b, i.c][k] = y at hc hst
      have I50 := Lib.hid (in50' y R)
      have hk3 : (k : Int) < 3 := by omega
      cases hz : inB R y
      · have H1 := Lib.hid (show anyMiss R (usesL i) = true from by rw [hst]; unfold missB; rw [hz]; rfl)
        rw [hz] at I50
        clear hst hz
        go_wp2_with fail
        go_quiet ((go_at_call 50; exact Calls.quiet_of_same (I50.out _)))
        go_wp2_with fail
        go_ret
        exact ⟨ret_int (by rw [HE.out, if_pos H1.out]), bk_tr K0.out (bk_tr KA.out (bk_drewN HK.out _))⟩
      · have H1 := Lib.hid (show anyMiss R (usesL i) = anyMiss R ((usesL i).drop (k + 1)) from by rw [hst]; unfold missB; rw [hz]; rfl)
        rw [hz] at I50
        clear hst hz
        go_wp2_with fail
        go_quiet ((go_at_call 50; exact Calls.quiet_of_same (I50.out _)))
        go_wp2_with fail
        go_roundw
        case rel => exact ⟨k + 1, by omega, by go_num, H1.out, bk_drewN HK.out _⟩
        case measure => simp [intOf]; omega
    · obtain rfl : n = k := by omega
      have HM := Lib.hid (hsx.trans HU0.out)
      clear hsx
      have HNG := Lib.hid (show ¬ (i.op = 1 ∧ mk < i.imm) from fun h => HO.out h.1)
      go_wp2_with fail
      go_quiet (fail)
      clear z0 z1 z2 z3 z4 z5 c0 c1 c2 c3
      have HKQ := Lib.hid (show BK w1 (wr.drewN nq) from bk_drewN HK.out _)
      generalize wr.drewN nq = wq at HKQ ⊢
      obtain ⟨z0, z1, z2, z3, z4, z5⟩ := HX.out _ (bk_tr KA.out HKQ.out)
      obtain ⟨c0, c1, c2, c3⟩ := HB.out _ (bk_tr KA.out HKQ.out)
      by_cases hd0 : i.dst = 0
      · by_cases hi0 : i.imm = 0
        · have f1 : (i.dst != 0) = false := by simp [hd0]
          have f2 : (i.imm != 0) = false := by simp [hi0]
          have HH := Lib.hid (show headJ i = false from by unfold headJ; rw [hd0, hi0]; simp)
          clear hd0 hi0
          go_wp2_with fail
          clear z0 z1 z2 z3 z4 z5 c0 c1 c2 c3
          go_loopw [8] (fun j wq => ∃ x : Nat, n ≤ x ∧ x ≤ 3 ∧ j = .int .i64 x ∧ ZTo i n x ∧ BK w1 wq) (fun j _ => 3 - (intOf j).toNat)
          case atStart => exact ⟨n, Nat.le_refl _, h3, rfl, fun j h a b => by omega, HKQ.out⟩
          case round =>
            obtain ⟨x, hx1, hx2, rfl, hzt, hkq⟩ := hrel
            have HQ := Lib.hid hkq
            have HZT := Lib.hid hzt
            by_cases hlt2 : x < 3
            · have u2 : x < [i.a, i.b, i.c].length := by simpa using hlt2
              obtain ⟨b', o', he, hc⟩ := (HLF.out.keep hkq).get x u2
              simp only [Option.some.injEq, Addr.mk.injEq, and_true] at he
              obtain ⟨rfl, rfl⟩ := he
              rw [Nat.zero_add] at hc
              have HZS := Lib.hid (fun e => zto_snoc u2 HZT.out e)
              have HJT := Lib.hid (fun e => junk_tail (i := i) (n := n) HS.out u2 hx1 e)
              clear hzt hkq
              have hk3 : (x : Int) < 3 := by omega
              generalize [i.a, i.b, i.c][x] = y at hc HZS HJT
              by_cases hy : y = 0
              · have H1 := Lib.hid (HZS.out hy)
                subst hy
                go_wp2_with fail
                go_roundw
                case rel => exact ⟨x + 1, by omega, by omega, by go_num, H1.out, HQ.out⟩
                case measure => simp [intOf]; omega
              · have H1 := Lib.hid (HJT.out hy)
                have hd : (y != 0) = true := by simpa using hy
                clear hy
                go_wp2_with fail
                go_ret
                exact ⟨ret_int (by rw [HE.out, if_neg (by simp [HM.out]), if_neg (HNG.out), if_pos H1.out]), bk_tr K0.out (bk_tr KA.out HQ.out)⟩
            · obtain rfl : x = 3 := by omega
              have H1 := Lib.hid (junk_no HS.out HH.out HZT.out)
              clear hzt hkq
              go_wp2_with fail
              go_ret
              exact ⟨ret_int (by rw [HE.out, if_neg (by simp [HM.out]), if_neg (HNG.out), if_neg (by simp [H1.out])]), bk_tr K0.out (bk_tr KA.out HQ.out)⟩
        · have f1 : (i.dst != 0) = false := by simp [hd0]
          have f2 : (i.imm != 0) = true := by simp [hi0]
          have HH := Lib.hid (junk_head (show headJ i = true from by unfold headJ; rw [HO0.out]; simp [hi0]))
          clear hd0 hi0
          go_wp2_with fail
          go_ret
          exact ⟨ret_int (by rw [HE.out, if_neg (by simp [HM.out]), if_neg (HNG.out), if_pos HH.out]), bk_tr K0.out (bk_tr KA.out HKQ.out)⟩
      · have f1 : (i.dst != 0) = true := by simp [hd0]
        have HH := Lib.hid (junk_head (show headJ i = true from by unfold headJ; rw [HO0.out]; simp [hd0]))
        clear hd0
        go_wp2_with fail
        go_ret
        exact ⟨ret_int (by rw [HE.out, if_neg (by simp [HM.out]), if_neg (HNG.out), if_pos HH.out]), bk_tr K0.out (bk_tr KA.out HKQ.out)⟩
set_option maxRecDepth 100000 in
set_option maxHeartbeats 2000000 in
theorem rin_1 (W R : Int) (p q : Option Addr) (n' pc m qc : Nat) (i : I6) (w : World) (n : Nat) (hs : srcs i.op = n) (h3 : n ≤ 3) (ho : i.op = 1) (hm : inB R i.dst = true) (w1' : 1 ≤ W) (w2' : W ≤ 64) (E : Int) (hE : E = if anyMiss R (usesL i) = true then 18 else if i.op = 1 ∧ maskI W < i.imm then 2 else if junkB i = true then 19 else 0) : Calls Try.prog 49 #[.agg #[.int .i64 W, .int .i64 R, .slice p n' pc, .slice q m qc], .agg #[.int .i64 i.op, .int .i64 i.dst, .int .i64 i.a, .int .i64 i.b, .int .i64 i.c, .int .u64 i.imm]] w fun e w' => e = .returned (.int .i64 E) ∧ BK w w' := by
  have k0 := bk_alloc (bk_alloc (BK.refl w) (.cells #[.int .i64 W, .int .i64 R, .slice p n' pc, .slice q m qc] 25)) (.cells #[.int .i64 i.op, .int .i64 i.dst, .int .i64 i.a, .int .i64 i.b, .int .i64 i.c, .int .u64 i.imm] 54)
  have hx := x6_new (w.alloc (.cells #[.int .i64 W, .int .i64 R, .slice p n' pc, .slice q m qc] 25)) i 54
  rw [sz1] at hx
  have b4 := (b4_new w (.int .i64 W) (.int .i64 R) (.slice p n' pc) (.slice q m qc) 25).keep (bk_alloc (BK.refl _) (.cells #[.int .i64 i.op, .int .i64 i.dst, .int .i64 i.a, .int .i64 i.b, .int .i64 i.c, .int .u64 i.imm] 54))
  have H := Lib.hid (src61 i.op)
  rw [hs] at H
  have n0 : (0 : Int) ≤ n := by omega
  have e0 : (i.op != 0) = true := by simp [ho]
  have e0' : (i.op == 0) = false := by simp [ho]
  have e1 : (i.op == 1) = true := by simp [ho]
  have e1' : (i.op != 1) = false := by simp [ho]
  have D := Lib.hid (in50 i.dst R)
  rw [hm] at D
  have HO := Lib.hid ho
  have HU := Lib.hid (fun k hk => us_get i n hs h3 k hk)
  have HU0 := Lib.hid (show anyMiss R ((usesL i).drop n) = false from by rw [usesL_n i n hs, List.drop_of_length_le (by simp; omega)]; rfl)
  have HS := Lib.hid hs
  have MK := Lib.hid (mask62' W w1' w2')
  generalize maskI W = mk at MK hE
  have HE := Lib.hid hE
  clear hs ho hm hE
  go_enter Try.func49, Try.ntmps49
  go_upto_region 1 with (fail)
  generalize (w.alloc (.cells #[.int .i64 W, .int .i64 R, .slice p n' pc, .slice q m qc] 25)).alloc (.cells #[.int .i64 i.op, .int .i64 i.dst, .int .i64 i.a, .int .i64 i.b, .int .i64 i.c, .int .u64 i.imm] 54) = w0 at k0 hx b4 ⊢
  have HX := Lib.hid (fun wc (hb : BK w0 wc) => hx.keep hb)
  have HB := Lib.hid (fun wc (hb : BK w0 wc) => b4.keep hb)
  obtain ⟨y0, y1, y2, y3, y4, y5⟩ := hx
  have K0 := Lib.hid k0
  have hlf := Lib.hid (ro_full w0 i.a i.b i.c)
  clear k0
  clear b4
  go_upto_region 5 with (go_at_call 61; refine (H.out _).mono ?_; rintro e w' ⟨rfl, rfl⟩)
  have ka := bk_alloc (BK.refl w0) (.cells #[.int .i64 i.a, .int .i64 i.b, .int .i64 i.c] 3)
  generalize w0.alloc (.cells #[.int .i64 i.a, .int .i64 i.b, .int .i64 i.c] 3) = w1 at hlf ka ⊢
  generalize w0.heap.size = g at hlf ⊢
  have KA := Lib.hid ka
  obtain ⟨z0, z1, z2, z3, z4, z5⟩ := HX.out _ ka
  obtain ⟨c0, c1, c2, c3⟩ := HB.out _ ka
  clear ka y0 y1 y2 y3 y4 y5
  have HLF := Lib.hid hlf.out
  clear hlf
  go_wp2_with (go_at_call 50; refine (D.out _).mono ?_; rintro e w' ⟨rfl, rfl⟩)
  clear z0 z1 z2 z3 z4 z5 c0 c1 c2 c3
  go_loopw [7] (fun j wr => ∃ k : Nat, k ≤ n ∧ j = .int .i64 k ∧ anyMiss R (usesL i) = anyMiss R ((usesL i).drop k) ∧ BK w1 wr) (fun j _ => n - (intOf j).toNat)
  case atStart => exact ⟨0, Nat.zero_le _, rfl, rfl, BK.refl _⟩
  case round =>
    obtain ⟨k, hk, rfl, hsx, hkw⟩ := hrel
    have HK := Lib.hid hkw
    have HSX := Lib.hid hsx
    obtain ⟨z0, z1, z2, z3, z4, z5⟩ := HX.out _ (bk_tr KA.out hkw)
    obtain ⟨c0, c1, c2, c3⟩ := HB.out _ (bk_tr KA.out hkw)
    by_cases hlt : k < n
    · obtain ⟨u1, u2, u3⟩ := HU.out k hlt
      obtain ⟨b', o', he, hc⟩ := (HLF.out.keep hkw).get k u2
      simp only [Option.some.injEq, Addr.mk.injEq, and_true] at he
      obtain ⟨rfl, rfl⟩ := he
      rw [Nat.zero_add] at hc
      have hst := hsx.trans (anyMiss_drop R (usesL i) k u1)
      rw [u3] at hst
      clear hsx hkw u3
      generalize [i.a, i.b, i.c][k] = y at hc hst
      have I50 := Lib.hid (in50' y R)
      have hk3 : (k : Int) < 3 := by omega
      cases hz : inB R y
      · have H1 := Lib.hid (show anyMiss R (usesL i) = true from by rw [hst]; unfold missB; rw [hz]; rfl)
        rw [hz] at I50
        clear hst hz
        go_wp2_with fail
        go_quiet ((go_at_call 50; exact Calls.quiet_of_same (I50.out _)))
        go_wp2_with fail
        go_ret
        exact ⟨ret_int (by rw [HE.out, if_pos H1.out]), bk_tr K0.out (bk_tr KA.out (bk_drewN HK.out _))⟩
      · have H1 := Lib.hid (show anyMiss R (usesL i) = anyMiss R ((usesL i).drop (k + 1)) from by rw [hst]; unfold missB; rw [hz]; rfl)
        rw [hz] at I50
        clear hst hz
        go_wp2_with fail
        go_quiet ((go_at_call 50; exact Calls.quiet_of_same (I50.out _)))
        go_wp2_with fail
        go_roundw
        case rel => exact ⟨k + 1, by omega, by go_num, H1.out, bk_drewN HK.out _⟩
        case measure => simp [intOf]; omega
    · obtain rfl : n = k := by omega
      have HM := Lib.hid (hsx.trans HU0.out)
      clear hsx
      go_wp2_with fail
      by_cases hg : mk < i.imm
      · have hgd : decide (mk < i.imm) = true := by simpa using hg
        have HG := Lib.hid hg
        clear hg
        go_quiet ((go_at_call 62; exact Calls.quiet_of_same (MK.out _)))
        go_wp2_with fail
        go_ret
        exact ⟨ret_int (by rw [HE.out, if_neg (by simp [HM.out]), if_pos ⟨HO.out, HG.out⟩]), bk_tr K0.out (bk_tr KA.out (bk_drewN HK.out _))⟩
      · have hgd : decide (mk < i.imm) = false := by simpa using hg
        have HNG := Lib.hid (show ¬ (i.op = 1 ∧ mk < i.imm) from fun h => hg h.2)
        have HH := Lib.hid (show headJ i = false from by unfold headJ; rw [HO.out]; simp)
        clear hg
        go_quiet ((go_at_call 62; exact Calls.quiet_of_same (MK.out _)))
        clear z0 z1 z2 z3 z4 z5 c0 c1 c2 c3
        have HKQ := Lib.hid (show BK w1 (wr.drewN nq) from bk_drewN HK.out _)
        generalize wr.drewN nq = wq at HKQ ⊢
        obtain ⟨z0, z1, z2, z3, z4, z5⟩ := HX.out _ (bk_tr KA.out HKQ.out)
        obtain ⟨c0, c1, c2, c3⟩ := HB.out _ (bk_tr KA.out HKQ.out)
        go_wp2_with fail
        clear z0 z1 z2 z3 z4 z5 c0 c1 c2 c3
        go_loopw [8] (fun j wq => ∃ x : Nat, n ≤ x ∧ x ≤ 3 ∧ j = .int .i64 x ∧ ZTo i n x ∧ BK w1 wq) (fun j _ => 3 - (intOf j).toNat)
        case atStart => exact ⟨n, Nat.le_refl _, h3, rfl, fun j h a b => by omega, HKQ.out⟩
        case round =>
          obtain ⟨x, hx1, hx2, rfl, hzt, hkq⟩ := hrel
          have HQ := Lib.hid hkq
          have HZT := Lib.hid hzt
          by_cases hlt2 : x < 3
          · have u2 : x < [i.a, i.b, i.c].length := by simpa using hlt2
            obtain ⟨b', o', he, hc⟩ := (HLF.out.keep hkq).get x u2
            simp only [Option.some.injEq, Addr.mk.injEq, and_true] at he
            obtain ⟨rfl, rfl⟩ := he
            rw [Nat.zero_add] at hc
            have HZS := Lib.hid (fun e => zto_snoc u2 HZT.out e)
            have HJT := Lib.hid (fun e => junk_tail (i := i) (n := n) HS.out u2 hx1 e)
            clear hzt hkq
            have hk3 : (x : Int) < 3 := by omega
            generalize [i.a, i.b, i.c][x] = y at hc HZS HJT
            by_cases hy : y = 0
            · have H1 := Lib.hid (HZS.out hy)
              subst hy
              go_wp2_with fail
              go_roundw
              case rel => exact ⟨x + 1, by omega, by omega, by go_num, H1.out, HQ.out⟩
              case measure => simp [intOf]; omega
            · have H1 := Lib.hid (HJT.out hy)
              have hd : (y != 0) = true := by simpa using hy
              clear hy
              go_wp2_with fail
              go_ret
              exact ⟨ret_int (by rw [HE.out, if_neg (by simp [HM.out]), if_neg (HNG.out), if_pos H1.out]), bk_tr K0.out (bk_tr KA.out HQ.out)⟩
          · obtain rfl : x = 3 := by omega
            have H1 := Lib.hid (junk_no HS.out HH.out HZT.out)
            clear hzt hkq
            go_wp2_with fail
            go_ret
            exact ⟨ret_int (by rw [HE.out, if_neg (by simp [HM.out]), if_neg (HNG.out), if_neg (by simp [H1.out])]), bk_tr K0.out (bk_tr KA.out HQ.out)⟩
set_option maxRecDepth 100000 in
set_option maxHeartbeats 2000000 in
theorem rin_x (W R : Int) (p q : Option Addr) (n' pc m qc : Nat) (i : I6) (w : World) (n : Nat) (hs : srcs i.op = n) (h3 : n ≤ 3) (ho : i.op ≠ 0) (ho1 : i.op ≠ 1) (hm : inB R i.dst = true) (w1' : 1 ≤ W) (w2' : W ≤ 64) (E : Int) (hE : E = if anyMiss R (usesL i) = true then 18 else if i.op = 1 ∧ maskI W < i.imm then 2 else if junkB i = true then 19 else 0) : Calls Try.prog 49 #[.agg #[.int .i64 W, .int .i64 R, .slice p n' pc, .slice q m qc], .agg #[.int .i64 i.op, .int .i64 i.dst, .int .i64 i.a, .int .i64 i.b, .int .i64 i.c, .int .u64 i.imm]] w fun e w' => e = .returned (.int .i64 E) ∧ BK w w' := by
  have k0 := bk_alloc (bk_alloc (BK.refl w) (.cells #[.int .i64 W, .int .i64 R, .slice p n' pc, .slice q m qc] 25)) (.cells #[.int .i64 i.op, .int .i64 i.dst, .int .i64 i.a, .int .i64 i.b, .int .i64 i.c, .int .u64 i.imm] 54)
  have hx := x6_new (w.alloc (.cells #[.int .i64 W, .int .i64 R, .slice p n' pc, .slice q m qc] 25)) i 54
  rw [sz1] at hx
  have b4 := (b4_new w (.int .i64 W) (.int .i64 R) (.slice p n' pc) (.slice q m qc) 25).keep (bk_alloc (BK.refl _) (.cells #[.int .i64 i.op, .int .i64 i.dst, .int .i64 i.a, .int .i64 i.b, .int .i64 i.c, .int .u64 i.imm] 54))
  have H := Lib.hid (src61 i.op)
  rw [hs] at H
  have n0 : (0 : Int) ≤ n := by omega
  have e0 : (i.op != 0) = true := by simp [ho]
  have e0' : (i.op == 0) = false := by simp [ho]
  have e1 : (i.op == 1) = false := by simp [ho1]
  have e1' : (i.op != 1) = true := by simp [ho1]
  have D := Lib.hid (in50 i.dst R)
  rw [hm] at D
  have HO := Lib.hid (show ¬ i.op = 1 from ho1)
  have HO0 := Lib.hid ho
  have HU := Lib.hid (fun k hk => us_get i n hs h3 k hk)
  have HU0 := Lib.hid (show anyMiss R ((usesL i).drop n) = false from by rw [usesL_n i n hs, List.drop_of_length_le (by simp; omega)]; rfl)
  have HS := Lib.hid hs
  have MK := Lib.hid (mask62' W w1' w2')
  generalize maskI W = mk at MK hE
  have HE := Lib.hid hE
  clear hs ho ho1 hm hE
  go_enter Try.func49, Try.ntmps49
  go_upto_region 1 with (fail)
  generalize (w.alloc (.cells #[.int .i64 W, .int .i64 R, .slice p n' pc, .slice q m qc] 25)).alloc (.cells #[.int .i64 i.op, .int .i64 i.dst, .int .i64 i.a, .int .i64 i.b, .int .i64 i.c, .int .u64 i.imm] 54) = w0 at k0 hx b4 ⊢
  have HX := Lib.hid (fun wc (hb : BK w0 wc) => hx.keep hb)
  have HB := Lib.hid (fun wc (hb : BK w0 wc) => b4.keep hb)
  obtain ⟨y0, y1, y2, y3, y4, y5⟩ := hx
  have K0 := Lib.hid k0
  have hlf := Lib.hid (ro_full w0 i.a i.b i.c)
  clear k0
  clear b4
  go_upto_region 5 with (go_at_call 61; refine (H.out _).mono ?_; rintro e w' ⟨rfl, rfl⟩)
  have ka := bk_alloc (BK.refl w0) (.cells #[.int .i64 i.a, .int .i64 i.b, .int .i64 i.c] 3)
  generalize w0.alloc (.cells #[.int .i64 i.a, .int .i64 i.b, .int .i64 i.c] 3) = w1 at hlf ka ⊢
  generalize w0.heap.size = g at hlf ⊢
  have KA := Lib.hid ka
  obtain ⟨z0, z1, z2, z3, z4, z5⟩ := HX.out _ ka
  obtain ⟨c0, c1, c2, c3⟩ := HB.out _ ka
  clear ka y0 y1 y2 y3 y4 y5
  have HLF := Lib.hid hlf.out
  clear hlf
  go_wp2_with (go_at_call 50; refine (D.out _).mono ?_; rintro e w' ⟨rfl, rfl⟩)
  clear z0 z1 z2 z3 z4 z5 c0 c1 c2 c3
  go_loopw [7] (fun j wr => ∃ k : Nat, k ≤ n ∧ j = .int .i64 k ∧ anyMiss R (usesL i) = anyMiss R ((usesL i).drop k) ∧ BK w1 wr) (fun j _ => n - (intOf j).toNat)
  case atStart => exact ⟨0, Nat.zero_le _, rfl, rfl, BK.refl _⟩
  case round =>
    obtain ⟨k, hk, rfl, hsx, hkw⟩ := hrel
    have HK := Lib.hid hkw
    have HSX := Lib.hid hsx
    obtain ⟨z0, z1, z2, z3, z4, z5⟩ := HX.out _ (bk_tr KA.out hkw)
    obtain ⟨c0, c1, c2, c3⟩ := HB.out _ (bk_tr KA.out hkw)
    by_cases hlt : k < n
    · obtain ⟨u1, u2, u3⟩ := HU.out k hlt
      obtain ⟨b', o', he, hc⟩ := (HLF.out.keep hkw).get k u2
      simp only [Option.some.injEq, Addr.mk.injEq, and_true] at he
      obtain ⟨rfl, rfl⟩ := he
      rw [Nat.zero_add] at hc
      have hst := hsx.trans (anyMiss_drop R (usesL i) k u1)
      rw [u3] at hst
      clear hsx hkw u3
      generalize [i.a, i.b, i.c][k] = y at hc hst
      have I50 := Lib.hid (in50' y R)
      have hk3 : (k : Int) < 3 := by omega
      cases hz : inB R y
      · have H1 := Lib.hid (show anyMiss R (usesL i) = true from by rw [hst]; unfold missB; rw [hz]; rfl)
        rw [hz] at I50
        clear hst hz
        go_wp2_with fail
        go_quiet ((go_at_call 50; exact Calls.quiet_of_same (I50.out _)))
        go_wp2_with fail
        go_ret
        exact ⟨ret_int (by rw [HE.out, if_pos H1.out]), bk_tr K0.out (bk_tr KA.out (bk_drewN HK.out _))⟩
      · have H1 := Lib.hid (show anyMiss R (usesL i) = anyMiss R ((usesL i).drop (k + 1)) from by rw [hst]; unfold missB; rw [hz]; rfl)
        rw [hz] at I50
        clear hst hz
        go_wp2_with fail
        go_quiet ((go_at_call 50; exact Calls.quiet_of_same (I50.out _)))
        go_wp2_with fail
        go_roundw
        case rel => exact ⟨k + 1, by omega, by go_num, H1.out, bk_drewN HK.out _⟩
        case measure => simp [intOf]; omega
    · obtain rfl : n = k := by omega
      have HM := Lib.hid (hsx.trans HU0.out)
      clear hsx
      have HNG := Lib.hid (show ¬ (i.op = 1 ∧ mk < i.imm) from fun h => HO.out h.1)
      go_wp2_with fail
      go_quiet (fail)
      clear z0 z1 z2 z3 z4 z5 c0 c1 c2 c3
      have HKQ := Lib.hid (show BK w1 (wr.drewN nq) from bk_drewN HK.out _)
      generalize wr.drewN nq = wq at HKQ ⊢
      obtain ⟨z0, z1, z2, z3, z4, z5⟩ := HX.out _ (bk_tr KA.out HKQ.out)
      obtain ⟨c0, c1, c2, c3⟩ := HB.out _ (bk_tr KA.out HKQ.out)
      by_cases hi0 : i.imm = 0
      · have f2 : (i.imm != 0) = false := by simp [hi0]
        have HH := Lib.hid (show headJ i = false from by unfold headJ; rw [hi0]; simp [HO0.out])
        clear hi0
        go_wp2_with fail
        clear z0 z1 z2 z3 z4 z5 c0 c1 c2 c3
        go_loopw [8] (fun j wq => ∃ x : Nat, n ≤ x ∧ x ≤ 3 ∧ j = .int .i64 x ∧ ZTo i n x ∧ BK w1 wq) (fun j _ => 3 - (intOf j).toNat)
        case atStart => exact ⟨n, Nat.le_refl _, h3, rfl, fun j h a b => by omega, HKQ.out⟩
        case round =>
          obtain ⟨x, hx1, hx2, rfl, hzt, hkq⟩ := hrel
          have HQ := Lib.hid hkq
          have HZT := Lib.hid hzt
          by_cases hlt2 : x < 3
          · have u2 : x < [i.a, i.b, i.c].length := by simpa using hlt2
            obtain ⟨b', o', he, hc⟩ := (HLF.out.keep hkq).get x u2
            simp only [Option.some.injEq, Addr.mk.injEq, and_true] at he
            obtain ⟨rfl, rfl⟩ := he
            rw [Nat.zero_add] at hc
            have HZS := Lib.hid (fun e => zto_snoc u2 HZT.out e)
            have HJT := Lib.hid (fun e => junk_tail (i := i) (n := n) HS.out u2 hx1 e)
            clear hzt hkq
            have hk3 : (x : Int) < 3 := by omega
            generalize [i.a, i.b, i.c][x] = y at hc HZS HJT
            by_cases hy : y = 0
            · have H1 := Lib.hid (HZS.out hy)
              subst hy
              go_wp2_with fail
              go_roundw
              case rel => exact ⟨x + 1, by omega, by omega, by go_num, H1.out, HQ.out⟩
              case measure => simp [intOf]; omega
            · have H1 := Lib.hid (HJT.out hy)
              have hd : (y != 0) = true := by simpa using hy
              clear hy
              go_wp2_with fail
              go_ret
              exact ⟨ret_int (by rw [HE.out, if_neg (by simp [HM.out]), if_neg (HNG.out), if_pos H1.out]), bk_tr K0.out (bk_tr KA.out HQ.out)⟩
          · obtain rfl : x = 3 := by omega
            have H1 := Lib.hid (junk_no HS.out HH.out HZT.out)
            clear hzt hkq
            go_wp2_with fail
            go_ret
            exact ⟨ret_int (by rw [HE.out, if_neg (by simp [HM.out]), if_neg (HNG.out), if_neg (by simp [H1.out])]), bk_tr K0.out (bk_tr KA.out HQ.out)⟩
      · have f2 : (i.imm != 0) = true := by simp [hi0]
        have HH := Lib.hid (junk_head (show headJ i = true from by unfold headJ; simp [hi0, HO.out]))
        clear hi0
        go_wp2_with fail
        go_ret
        exact ⟨ret_int (by rw [HE.out, if_neg (by simp [HM.out]), if_neg (HNG.out), if_pos HH.out]), bk_tr K0.out (bk_tr KA.out HKQ.out)⟩
theorem rin49 (W R : Int) (p q : Option Addr) (n' pc m qc : Nat) (i : I6) (w : World) (w1 : 1 ≤ W) (w2 : W ≤ 64) : Calls Try.prog 49 #[.agg #[.int .i64 W, .int .i64 R, .slice p n' pc, .slice q m qc], .agg #[.int .i64 i.op, .int .i64 i.dst, .int .i64 i.a, .int .i64 i.b, .int .i64 i.c, .int .u64 i.imm]] w fun e w' => e = .returned (.int .i64 (insE (maskI W) R i)) ∧ BK w w' := by
  cases hv : opB i.op
  · rw [insE_op hv]; exact rin_bad W R p q n' pc m qc i w hv
  · have hb : 0 ≤ i.op ∧ i.op ≤ 19 := by unfold opB at hv; simpa using hv
    obtain ⟨n, hs, h3⟩ : ∃ n : Nat, srcs i.op = n ∧ n ≤ 3 := by
      rcases srcs_cases i.op with h | h | h | h | h
      · unfold srcs at h; (repeat' split at h) <;> omega
      · exact ⟨0, h, by omega⟩
      · exact ⟨1, h, by omega⟩
      · exact ⟨2, h, by omega⟩
      · exact ⟨3, h, by omega⟩
    have key : (dfB i.op && missB R i.dst) = false → insE (maskI W) R i = if anyMiss R (usesL i) = true then 18 else if i.op = 1 ∧ maskI W < i.imm then 2 else if junkB i = true then 19 else 0 := by
      intro h
      cases ha : anyMiss R (usesL i)
      · rw [insE_rest hv h ha]; rfl
      · rw [insE_reg hv (.inr ha)]; rfl
    by_cases h0 : i.op = 0
    · exact rin_0 W R p q n' pc m qc i w n hs h3 h0 w1 w2 _ (key (by rw [show dfB i.op = false from by rw [h0]; rfl]; rfl))
    · have hd : dfB i.op = true := by unfold dfB; apply decide_eq_true; omega
      cases hm : inB R i.dst
      · rw [insE_reg hv (.inl (by rw [hd]; unfold missB; rw [hm]; rfl))]
        by_cases h1 : i.op = 1
        · exact rin_dst1 W R p q n' pc m qc i w n hs h1 hm
        · exact rin_dstx W R p q n' pc m qc i w n hs h0 h1 hm
      · have kk := key (by unfold missB; rw [hm]; simp)
        by_cases h1 : i.op = 1
        · exact rin_1 W R p q n' pc m qc i w n hs h3 h1 hm w1 w2 _ kk
        · exact rin_x W R p q n' pc m qc i w n hs h3 h0 h1 hm w1 w2 _ kk
end Go.Proofs.Ytjmmaaphadeokaa
