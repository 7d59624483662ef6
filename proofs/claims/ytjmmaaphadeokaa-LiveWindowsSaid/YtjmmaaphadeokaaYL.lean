/- The law of Window. -/
import Derived.Test.YtjmmaaphadeokaaYI
import Derived.Test.YtjmmaaphadeokaaYG
import Derived.Test.YtjmmaaphadeokaaRK
namespace Go.Proofs.Ytjmmaaphadeokaa
open Go.RowKit Go.Shelf
set_option linter.unusedVariables false
set_option linter.unusedSimpArgs false
theorem winOut_len (n : Nat) (w t : List I6) (out : List Int) : (winOut n w t out).length ≤ n := by
  unfold winOut
  have := List.length_filter_le (fun r : Nat => usedB t out r && anyDefB w r) (List.range n)
  simpa using this
/-- eight registers, or as many as there are -/
theorem win_regs {W R : Int} {t : List I6} {out : List Int} (h : Vd W R t out) (w : List I6) : winOut 8 w t out = winOut R.toNat w t out := by
  rw [← win_filt, ← win_filt, live_regs h]
/-- both Windows -/
theorem win_both (W R : Int) (p q : Option Addr) (pc qc : Nat) (ins : List I6) (out : List Int) (f n : Int) (w : World) (hi : RI w p pc ins) (ho : RO w q qc out) (li : ins.length ≤ 300) (lo : out.length ≤ 20) (f2 : f ≤ 9223372036854775807) (n2 : n ≤ 9223372036854775807) : ∃ (E W' R' : Int) (L : List I6) (O : List Int), L.length ≤ 300 ∧ O.length ≤ 20 ∧
    (∀ wc, BK w wc → Calls Try.prog 24 #[.agg #[.int .i64 W, .int .i64 R, .slice p ins.length pc, .slice q out.length qc], .int .i64 f, .int .i64 n] wc (RES E W' R' L O wc)) ∧
    (∀ wc, BK w wc → Calls Try.prog 25 #[.agg #[.int .i64 W, .int .i64 R, .slice p ins.length pc, .slice q out.length qc], .int .i64 f, .int .i64 n] wc (RES E W' R' L O wc)) := by
  by_cases h1 : winE W R ins out f n = 0
  · obtain ⟨hc, v1, v2, v3⟩ := win_zero h1
    have hv := chk_zero.1 hc
    obtain ⟨fn, rfl⟩ : ∃ k : Nat, f = k := ⟨f.toNat, by omega⟩
    obtain ⟨nn, rfl⟩ : ∃ k : Nat, n = k := ⟨n.toNat, by omega⟩
    have hvt : Vd W R (ins.drop (fn + nn)) out := hv.sub (by simp) (fun i h => List.mem_of_mem_drop h)
    have hr2 := hv.r2
    have hwl := winOut_len R.toNat ((ins.drop fn).take nn) (ins.drop (fn + nn)) out
    refine ⟨0, W, R, (ins.drop fn).take nn, winOut R.toNat ((ins.drop fn).take nn) (ins.drop (fn + nn)) out, by simp; omega, by omega, fun wc hb => ?_, fun wc hb => ?_⟩
    · rw [← win_regs hvt]
      exact (win24_ok W R p q pc qc ins out fn nn wc (hi.keep hb) (ho.keep hb) li lo h1).mono fun e w' h => res_ok h
    · exact (win25_ok W R p q pc qc ins out fn nn wc (hi.keep hb) (ho.keep hb) li lo h1).mono fun e w' h => res_ok h
  · refine ⟨winE W R ins out f n, 0, 0, [], [], by simp, by simp, fun wc hb => ?_, fun wc hb => ?_⟩
    · exact (win24_err W R p q pc qc ins out f n wc (hi.keep hb) (ho.keep hb) li lo f2 n2 h1).mono fun e w' h => res_zero h
    · exact (win25_err W R p q pc qc ins out f n wc (hi.keep hb) (ho.keep hb) li lo f2 n2 h1).mono fun e w' h => res_zero h
set_option maxRecDepth 100000 in
set_option maxHeartbeats 2000000 in
theorem wlaw_heavy (W R : Int) (p q : Option Addr) (pc qc n m : Nat) (f k : Int) (w : World) (h : ¬ (n ≤ 300 ∧ m ≤ 20)) :
    Calls Try.prog 5 #[.agg #[.int .i64 W, .int .i64 R, .slice p n pc, .slice q m qc], .int .i64 f, .int .i64 k] w fun e w' => e = .returned (.bool true) ∧ BK w w' := by
  have K0 := Lib.hid (bk_alloc (BK.refl w) (.cells #[.int .i64 W, .int .i64 R, .slice p n pc, .slice q m qc] 25))
  have b4 := b4_new w (.int .i64 W) (.int .i64 R) (.slice p n pc) (.slice q m qc) 25
  have L1 := Lib.hid (fun wc => by have := light10 W R p q pc qc n m wc; rw [light_no h] at this; exact this)
  clear h
  go_enter Try.func5, Try.ntmps5
  go_upto_region 1 with (fail)
  generalize w.alloc (.cells #[.int .i64 W, .int .i64 R, .slice p n pc, .slice q m qc] 25) = w0 at K0 b4 ⊢
  obtain ⟨c0, c1, c2, c3⟩ := b4
  go_wp2_with fail
  refine (L1.out w0).mono ?_
  rintro e w1 ⟨rfl, hb1⟩
  have J1 := Lib.hid hb1
  clear hb1 c0 c1 c2 c3
  go_wp2_with fail
  refine (lives11 w1).mono ?_
  rintro e w3 ⟨rfl, hb3⟩
  have J3 := Lib.hid (bk_tr J1.out hb3)
  clear hb3
  go_wp2_with fail
  go_ret
  exact ⟨rfl, bk_tr K0.out J3.out⟩
set_option maxRecDepth 100000 in
set_option maxHeartbeats 4000000 in
theorem wlaw (W R : Int) (p q : Option Addr) (pc qc : Nat) (ins : List I6) (out : List Int) (f n : Int) (w : World) (hi : RI w p pc ins) (ho : RO w q qc out) (li : ins.length ≤ 300) (lo : out.length ≤ 20) (f2 : f ≤ 9223372036854775807) (n2 : n ≤ 9223372036854775807) : Calls Try.prog 5 #[.agg #[.int .i64 W, .int .i64 R, .slice p ins.length pc, .slice q out.length qc], .int .i64 f, .int .i64 n] w fun e w' => e = .returned (.bool true) ∧ BK w w' := by
  obtain ⟨E, W', R', L, O, hL, hO, h24, h25⟩ := win_both W R p q pc qc ins out f n w hi ho li lo f2 n2
  have k0 := bk_alloc (BK.refl w) (.cells #[.int .i64 W, .int .i64 R, .slice p ins.length pc, .slice q out.length qc] 25)
  have b4 := b4_new w (.int .i64 W) (.int .i64 R) (.slice p ins.length pc) (.slice q out.length qc) 25
  have L1 := Lib.hid (fun wc => by have := light10 W R p q pc qc ins.length out.length wc; rw [light_yes li lo] at this; exact this)
  have H24 := Lib.hid h24
  have H25 := Lib.hid h25
  clear hi ho h24 h25
  go_enter Try.func5, Try.ntmps5
  go_upto_region 1 with (fail)
  generalize w.alloc (.cells #[.int .i64 W, .int .i64 R, .slice p ins.length pc, .slice q out.length qc] 25) = w0 at k0 b4 ⊢
  have K0 := Lib.hid k0
  have HB := Lib.hid b4
  obtain ⟨c0, c1, c2, c3⟩ := b4
  clear k0
  go_wp2_with fail
  refine (L1.out w0).mono ?_
  rintro e w1 ⟨rfl, hb1⟩
  have J1 := Lib.hid hb1
  clear c0 c1 c2 c3
  obtain ⟨c0, c1, c2, c3⟩ := HB.out.keep hb1
  clear hb1
  go_wp2_with fail
  refine (H24.out w1 (bk_tr K0.out J1.out)).mono ?_
  rintro e w3 ⟨p3, pc3, q3, qc3, rfl, hi3, ho3, hb3⟩
  have HI3 := Lib.hid hi3
  have HO3 := Lib.hid ho3
  have J3 := Lib.hid (bk_tr J1.out hb3)
  clear hb3 hi3 ho3 c0 c1 c2 c3
  go_upto_region 4 with (fail)
  have e4 := b4_new w3 (.int .i64 W') (.int .i64 R') (.slice p3 L.length pc3) (.slice q3 O.length qc3) 25
  have k4 := bk_alloc (BK.refl w3) (.cells #[.int .i64 W', .int .i64 R', .slice p3 L.length pc3, .slice q3 O.length qc3] 25)
  generalize w3.alloc (.cells #[.int .i64 W', .int .i64 R', .slice p3 L.length pc3, .slice q3 O.length qc3] 25) = w4 at e4 k4 ⊢
  generalize w3.heap.size = t5 at e4 ⊢
  have HE4 := Lib.hid e4
  have K4 := Lib.hid k4
  have J4 := Lib.hid (bk_tr J3.out k4)
  clear e4 k4
  obtain ⟨c0, c1, c2, c3⟩ := HB.out.keep J4.out
  go_wp2_with fail
  refine (H25.out w4 (bk_tr K0.out J4.out)).mono ?_
  rintro e w5 ⟨p5, pc5, q5, qc5, rfl, hi5, ho5, hb5⟩
  have HI5 := Lib.hid hi5
  have HO5 := Lib.hid ho5
  have K5 := Lib.hid (bk_tr K4.out hb5)
  have J5 := Lib.hid (bk_tr J4.out hb5)
  have HE5 := Lib.hid (HE4.out.keep hb5)
  clear hb5 hi5 ho5 c0 c1 c2 c3
  go_upto_region 5 with (fail)
  have f4 := b4_new w5 (.int .i64 W') (.int .i64 R') (.slice p5 L.length pc5) (.slice q5 O.length qc5) 25
  have k6 := bk_alloc (BK.refl w5) (.cells #[.int .i64 W', .int .i64 R', .slice p5 L.length pc5, .slice q5 O.length qc5] 25)
  generalize w5.alloc (.cells #[.int .i64 W', .int .i64 R', .slice p5 L.length pc5, .slice q5 O.length qc5] 25) = w6 at f4 k6 ⊢
  generalize w5.heap.size = t7 at f4 ⊢
  have J6 := Lib.hid (bk_tr J5.out k6)
  have C23 := Lib.hid (same23 W' R' p3 q3 p5 q5 pc3 qc3 pc5 qc5 L O w6 (HI3.out.keep (bk_tr K5.out k6)) (HO3.out.keep (bk_tr K5.out k6)) (HI5.out.keep k6) (HO5.out.keep k6) (by omega) (by omega))
  obtain ⟨c0, c1, c2, c3⟩ := HE5.out.keep k6
  obtain ⟨d0, d1, d2, d3⟩ := f4
  clear k6
  go_wp2_with fail
  refine C23.out.mono ?_
  rintro e w7 ⟨rfl, hb7⟩
  have J7 := Lib.hid (bk_tr J6.out hb7)
  clear hb7 c0 c1 c2 c3 d0 d1 d2 d3
  go_wp2_with fail
  refine (lives11 w7).mono ?_
  rintro e w8 ⟨rfl, hb8⟩
  have J8 := Lib.hid (bk_tr J7.out hb8)
  clear hb8
  go_wp2_with fail
  go_ret
  exact ⟨rfl, bk_tr K0.out J8.out⟩
end Go.Proofs.Ytjmmaaphadeokaa
