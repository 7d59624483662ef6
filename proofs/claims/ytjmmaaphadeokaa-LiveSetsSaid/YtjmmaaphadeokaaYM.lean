/- Inputs and Both of the reference. -/
import Derived.Test.YtjmmaaphadeokaaRE
import Derived.Test.YtjmmaaphadeokaaUD
namespace Go.Proofs.Ytjmmaaphadeokaa
open Go.RowKit Go.Shelf
set_option linter.unusedVariables false
set_option linter.unusedSimpArgs false
theorem inp_live {W R : Int} {ins : List I6} {out : List Int} (h : chkE W R ins out = 0) : inpL W R ins out = liveL R.toNat ins out := by
  unfold inpL; rw [if_pos h, live_regs (chk_zero.1 h)]
theorem inp_none {W R : Int} {ins : List I6} {out : List Int} (h : chkE W R ins out ≠ 0) : inpL W R ins out = [] := if_neg h
set_option maxRecDepth 100000 in
set_option maxHeartbeats 1000000 in
/-- Inputs of the reference -/
theorem inputs15 (W R : Int) (p q : Option Addr) (pc qc : Nat) (ins : List I6) (out : List Int) (w : World) (hi : RI w p pc ins) (ho : RO w q qc out) (li : ins.length ≤ 300) (lo : out.length ≤ 20) : Calls Try.prog 15 #[.agg #[.int .i64 W, .int .i64 R, .slice p ins.length pc, .slice q out.length qc]] w (LP (inpL W R ins out) w) := by
  have b4 := b4_new w (.int .i64 W) (.int .i64 R) (.slice p ins.length pc) (.slice q out.length qc) 25
  have k0 := bk_alloc (BK.refl w) (.cells #[.int .i64 W, .int .i64 R, .slice p ins.length pc, .slice q out.length qc] 25)
  have HB := Lib.hid b4
  by_cases hc : chkE W R ins out = 0
  · have hv := chk_zero.1 hc
    rw [inp_live hc]
    have C30 := Lib.hid (fun (wc : World) (hb : BK w wc) => by have := rchk28 W R p q pc qc ins out wc (hi.keep hb) (ho.keep hb) (by omega) (by omega); rw [hc] at this; exact this)
    have C33 := Lib.hid (fun (wc : World) (hb : BK w wc) => by have := before33 W R p q pc qc ins out wc (hi.keep hb) (ho.keep hb) (by omega) (by omega) 0 (Nat.zero_le _) hv.r1 hv.r2; rw [List.drop_zero] at this; exact this)
    clear hi ho hc hv
    generalize liveL R.toNat ins out = L at C33 ⊢
    go_enter Try.func15, Try.ntmps15
    go_upto_region 1 with (fail)
    generalize w.alloc (.cells #[.int .i64 W, .int .i64 R, .slice p ins.length pc, .slice q out.length qc] 25) = w0 at b4 k0 HB ⊢
    obtain ⟨c0, c1, c2, c3⟩ := b4
    have K0 := Lib.hid k0
    clear k0
    go_wp2_with fail
    refine (C30.out w0 K0.out).mono ?_
    rintro e w1 ⟨rfl, hb1⟩
    have K1 := Lib.hid (bk_tr K0.out hb1)
    clear c0 c1 c2 c3
    obtain ⟨c0, c1, c2, c3⟩ := HB.out.keep hb1
    clear hb1
    go_wp2_with fail
    refine (C33.out w1 K1.out).mono ?_
    rintro e w2 ⟨v, rfl, ho2, hb2⟩
    have HO2 := Lib.hid ho2
    have K2 := Lib.hid (bk_tr K1.out hb2)
    clear hb2 ho2 c0 c1 c2 c3
    go_wp2_with fail
    go_ret
    exact ⟨_, rfl, own_mono HO2.out (bk_size K1.out), K2.out⟩
  · rw [inp_none hc]
    have C30 := Lib.hid (fun (wc : World) (hb : BK w wc) => rchk28 W R p q pc qc ins out wc (hi.keep hb) (ho.keep hb) (by omega) (by omega))
    have hn : (chkE W R ins out != 0) = true := by simpa using hc
    clear hi ho hc
    generalize chkE W R ins out = y at C30 hn
    go_enter Try.func15, Try.ntmps15
    go_upto_region 1 with (fail)
    generalize w.alloc (.cells #[.int .i64 W, .int .i64 R, .slice p ins.length pc, .slice q out.length qc] 25) = w0 at b4 k0 ⊢
    obtain ⟨c0, c1, c2, c3⟩ := b4
    have K0 := Lib.hid k0
    clear k0
    go_wp2_with fail
    refine (C30.out w0 K0.out).mono ?_
    rintro e w1 ⟨rfl, hb1⟩
    have K1 := Lib.hid (bk_tr K0.out hb1)
    clear hb1 c0 c1 c2 c3
    go_wp2_with fail
    go_ret
    exact ⟨_, rfl, own_none _ _ _ _, K1.out⟩
/-- the registers below n of two lists -/
def bothL (a b : List Int) (n : Nat) : List Int := ((List.range n).filter (fun r : Nat => hasB a r || hasB b r)).map (fun r : Nat => (r : Int))
theorem bothL_succ (a b : List Int) (k : Nat) : bothL a b (k + 1) = if (hasB a k || hasB b k) = true then bothL a b k ++ [(k : Int)] else bothL a b k := by
  unfold bothL
  rw [List.range_succ, List.filter_append]
  cases h : (hasB a k || hasB b k) <;> simp [h]
theorem bothL_len (a b : List Int) (k : Nat) : (bothL a b k).length ≤ k := by
  unfold bothL
  have := List.length_filter_le (fun r : Nat => hasB a r || hasB b r) (List.range k)
  simpa using this
set_option maxRecDepth 100000 in
set_option maxHeartbeats 1000000 in
theorem both18 (a b : List Int) (p q : Option Addr) (pc qc : Nat) (w : World) (ha : RO w p pc a) (hb : RO w q qc b) (la : a.length ≤ 1000) (lb : b.length ≤ 1000) : Calls Try.prog 18 #[.slice p a.length pc, .slice q b.length qc] w (LP (bothL a b 8) w) := by
  obtain ⟨i0, hi0, hz0, hz1, hz2⟩ := info_parts info3
  have CA35 := Lib.hid (fun (wc : World) (hk : BK w wc) (x : Int) => has35 a x p pc wc (ha.keep hk) (by omega))
  have CB35 := Lib.hid (fun (wc : World) (hk : BK w wc) (x : Int) => has35 b x q qc wc (hb.keep hk) (by omega))
  clear ha hb
  have HE0 := Lib.hid (own_empty w w.heap.size (Nat.le_refl _) 3 1)
  have K1 := Lib.hid (bk_alloc (BK.refl w) (.cells #[] 3))
  go_enter Try.func18, Try.ntmps18
  go_wp2_with fail
  generalize w.alloc (.cells #[] 3) = w1 at HE0 K1 ⊢
  go_loopw [5, 6] (fun v j wr => ∃ k : Nat, k ≤ 8 ∧ j = .int .i64 k ∧ wr.ownsRow w.heap.size 3 1 v (bothL a b k).length (ints (bothL a b k)) ∧ BK w wr) (fun _ j _ => 8 - (intOf j).toNat)
  case atStart => exact ⟨0, by omega, rfl, HE0.out, K1.out⟩
  case round =>
    obtain ⟨k, hk, rfl, hown, hkw⟩ := hrel
    have HK := Lib.hid hkw
    have HO3 := Lib.hid hown
    by_cases hlt : k < 8
    · have hll := bothL_len a b k
      have HSU := Lib.hid (bothL_succ a b k)
      have R1 := Lib.hid (CA35.out wr hkw (k : Int))
      have R2 := Lib.hid (CB35.out wr hkw (k : Int))
      have hk8 : (k : Int) < 8 := by omega
      clear hown hkw
      generalize hasB a (k : Int) = z1 at HSU R1
      generalize hasB b (k : Int) = z2 at HSU R2
      cases z1
      · go_wp2_with fail
        refine R1.out.mono ?_
        rintro e w3 ⟨rfl, rfl⟩
        cases z2
        · have H1 := Lib.hid (HSU.out.trans (if_neg (by simp)))
          go_wp2_with fail
          refine R2.out.mono ?_
          rintro e w3 ⟨rfl, rfl⟩
          go_wp2_with fail
          go_roundw
          case rel => exact ⟨k + 1, by omega, by go_num, by rw [H1.out]; exact HO3.out, HK.out⟩
          case measure => simp [intOf]; omega
        · have H1 := Lib.hid (HSU.out.trans (if_pos rfl))
          have hml : (bothL a b k).length + 1 ≤ maxLen := by unfold maxLen; omega
          have hown := HO3.out
          have hbs := HK.out.bl.size
          go_wp2_with fail
          refine R2.out.mono ?_
          rintro e w3 ⟨rfl, rfl⟩
          go_wp2_with (at_builtin; refine wpList_append_own _ rfl _ _ 23 rfl w.heap.size 3 i0 (.int .i64 0) 1 8 Try.underlying23 hi0 hz0 hz1 hz2 rfl (by decide) _ _ _ rfl (hown.alloc _) ⟨wr.heap.size, 0, none⟩ 1 1 [.int .i64 (k : Int)] rfl rfl (one_new _ _ _) (by simp [Value.oneCell']) hml (by omega) (by simp; omega) ?_; intro v' w4 hown' hgrow _; have HO4 := Lib.hid (show w4.ownsRow w.heap.size 3 1 v' (bothL a b (k + 1)).length (ints (bothL a b (k + 1))) from by rw [H1.out]; exact own_cast hown' (by simp) (by simp [ints])); have HB4 := Lib.hid (show BK w w4 from (HK.out.bl.alloc hbs _).grown hgrow (by simp; omega) (fun r hr => (World.ownsRow.lt hown r hr).1)); clear hown' hgrow)
          go_roundw
          case rel => exact ⟨k + 1, by omega, by go_num, HO4.out, HB4.out⟩
          case measure => simp [intOf]; omega
      · have H1 := Lib.hid (HSU.out.trans (if_pos rfl))
        have hml : (bothL a b k).length + 1 ≤ maxLen := by unfold maxLen; omega
        have hown := HO3.out
        have hbs := HK.out.bl.size
        go_wp2_with fail
        refine R1.out.mono ?_
        rintro e w3 ⟨rfl, rfl⟩
        go_wp2_with (at_builtin; refine wpList_append_own _ rfl _ _ 23 rfl w.heap.size 3 i0 (.int .i64 0) 1 8 Try.underlying23 hi0 hz0 hz1 hz2 rfl (by decide) _ _ _ rfl (hown.alloc _) ⟨wr.heap.size, 0, none⟩ 1 1 [.int .i64 (k : Int)] rfl rfl (one_new _ _ _) (by simp [Value.oneCell']) hml (by omega) (by simp; omega) ?_; intro v' w4 hown' hgrow _; have HO4 := Lib.hid (show w4.ownsRow w.heap.size 3 1 v' (bothL a b (k + 1)).length (ints (bothL a b (k + 1))) from by rw [H1.out]; exact own_cast hown' (by simp) (by simp [ints])); have HB4 := Lib.hid (show BK w w4 from (HK.out.bl.alloc hbs _).grown hgrow (by simp; omega) (fun r hr => (World.ownsRow.lt hown r hr).1)); clear hown' hgrow)
        go_roundw
        case rel => exact ⟨k + 1, by omega, by go_num, HO4.out, HB4.out⟩
        case measure => simp [intOf]; omega
    · obtain rfl : k = 8 := by omega
      clear hown hkw
      go_wp2_with fail
      go_ret
      exact ⟨_, rfl, HO3.out, HK.out⟩
end Go.Proofs.Ytjmmaaphadeokaa
