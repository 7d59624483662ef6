/- The law Back. -/
import Derived.Test.YtgiheheakgigkaaAV
namespace Go.Proofs.Ytgiheheakgigkaa
open Go.RowKit
set_option linter.unusedVariables false
set_option linter.unusedSimpArgs false
theorem zero_back {t : T} (h : fewB t 500 = true) : nd t ≤ 500 ∧ szT t ∧ (prT t).size ≤ 51000 := by
  have h0 := fewB_iff.1 h
  exact ⟨few_nd (l := 500) h0, sz_w t 500 (by omega) h0, few_pr (l := 500) h0⟩
set_option maxRecDepth 100000 in
set_option maxHeartbeats 8000000 in
theorem back_law (t : T) (hok : okT t) (w : World) (p : Option Addr) (c : Nat) (hp : RowD (mem 0 w) w p c t.ts) : Calls Try.prog 6 #[.agg #[.string t.a, .slice p t.ts.length c]] w fun e w' => e = .returned (.bool true) ∧ BK w w' := by
  have LV := Lib.hid live10
  have KA := Lib.hid (bk_alloc (BK.refl w) (.cells #[.string t.a, .slice p t.ts.length c] 25))
  have NA := Lib.hid (heap_alloc_new w (.cells #[.string t.a, .slice p t.ts.length c] 25))
  have RA := Lib.hid (hp.bk KA.out (Nat.le_refl _))
  have C17 := Lib.hid (show Calls Try.prog 17 #[.agg #[.string t.a, .slice p t.ts.length c], .int .i64 500] (w.alloc (.cells #[.string t.a, .slice p t.ts.length c] 25)) _ from few17 t hok _ p c 500 RA.out (by omega) (by omega))
  have ZB := Lib.hid (fun h => zero_back (t := t) h)
  have OK := Lib.hid hok
  have x0 := cell_of_row _ w.heap.size 0 _ 25 (0, 0) NA.out
  have x1 := cell_of_row _ w.heap.size 1 _ 25 (0, 0) NA.out
  clear hp hok
  have C23 := Lib.hid (fun (h : fewB t 500 = true) wc (hb : BK (w.alloc (.cells #[.string t.a, .slice p t.ts.length c] 25)) wc) => valid23 t (by have := (ZB.out h).1; omega) (ZB.out h).2.1 wc p c (RA.out.bk hb (Nat.le_refl _)))
  have C22 := Lib.hid (fun (h : fewB t 500 = true) wc (hb : BK (w.alloc (.cells #[.string t.a, .slice p t.ts.length c] 25)) wc) => valid22 t (by have := (ZB.out h).1; omega) (ZB.out h).2.1 wc p c (RA.out.bk hb (Nat.le_refl _)))
  have PP := Lib.hid (fun h => print_parse (t := t) h)
  have C18 := Lib.hid (fun (h : fewB t 500 = true) wc (hb : BK (w.alloc (.cells #[.string t.a, .slice p t.ts.length c] 25)) wc) => print18 t wc p c (RA.out.bk hb (Nat.le_refl _)) (by have := (ZB.out h).2.2; omega))
  have C11 := Lib.hid (fun (h : fewB t 500 = true) wc => p11 (prT t) (by have := (ZB.out h).2.2; omega) wc)
  have S15 := Lib.hid (same15 t OK.out t)
  rw [sameT_refl] at S15
  clear ZB OK
  generalize fewB t 500 = fb at *
  generalize vaT t = va at *
  go_enter Try.func6, Try.ntmps6
  go_wp2_with fail
  refine C17.out.mono ?_
  rintro e w2 ⟨rfl, hb2⟩
  have N2 := Lib.hid ((bk_block hb2 (Array.getElem?_eq_some_iff.1 NA.out).1).trans NA.out)
  generalize w.alloc (.cells #[.string t.a, .slice p t.ts.length c] 25) = w1 at *
  have K2 := Lib.hid hb2
  clear hb2 x0 x1 NA
  have x0 := cell_of_row _ w.heap.size 0 _ 25 (0, 0) N2.out
  have x1 := cell_of_row _ w.heap.size 1 _ 25 (0, 0) N2.out
  cases fb with
  | false =>
    have D10 := Lib.hid (LV.out w2)
    clear C11 C18 C22 C23 PP S15
    go_wp2_with fail
    refine D10.out.mono ?_
    rintro e w4 ⟨rfl, hb4⟩
    have K4 := Lib.hid hb4
    clear hb4
    go_wp2_with fail
    go_ret
    exact ⟨rfl, bk_tr KA.out (bk_tr K2.out K4.out)⟩
  | true =>
    have D23 := Lib.hid (C23.out (by trivial) w2 K2.out)
    go_wp2_with fail
    refine D23.out.mono ?_
    rintro e w3 ⟨rfl, hb3⟩
    have K3 := Lib.hid (bk_tr K2.out hb3)
    have N3 := Lib.hid ((bk_block hb3 (Array.getElem?_eq_some_iff.1 N2.out).1).trans N2.out)
    clear hb3 x0 x1 N2
    have x0 := cell_of_row _ w.heap.size 0 _ 25 (0, 0) N3.out
    have x1 := cell_of_row _ w.heap.size 1 _ 25 (0, 0) N3.out
    cases va with
    | false =>
      have D10 := Lib.hid (LV.out w3)
      clear C11 C18 C22 C23 PP S15
      go_wp2_with fail
      refine D10.out.mono ?_
      rintro e w4 ⟨rfl, hb4⟩
      have K4 := Lib.hid hb4
      clear hb4
      go_wp2_with fail
      go_ret
      exact ⟨rfl, bk_tr KA.out (bk_tr K3.out K4.out)⟩
    | true =>
      have P1 := PP.out (by trivial)
      have D18 := Lib.hid (C18.out (by trivial) w3 K3.out)
      have D11 := Lib.hid (C11.out (by trivial))
      rw [P1] at D11
      unfold ONE at D11
      dsimp only at D11
      have D22 := Lib.hid (C22.out (by trivial))
      clear P1 PP C11 C18 C22 C23
      generalize prT t = PT at *
      go_wp2_with fail
      refine D18.out.mono ?_
      rintro e w4 ⟨rfl, hb4⟩
      have K4 := Lib.hid (bk_tr K3.out hb4)
      have N4 := Lib.hid ((bk_block hb4 (Array.getElem?_eq_some_iff.1 N3.out).1).trans N3.out)
      clear hb4 x0 x1 N3
      go_wp2_with fail
      refine (D11.out _).mono ?_
      rintro e w5 ⟨⟨p5, c5, rfl, hr5⟩, hb5⟩
      have KB := Lib.hid (bk_alloc (BK.refl w5) (.cells #[.string t.a, .slice p5 t.ts.length c5] 25))
      have NB := Lib.hid (heap_alloc_new w5 (.cells #[.string t.a, .slice p5 t.ts.length c5] 25))
      have K5 := Lib.hid (bk_tr K4.out (bk_tr hb5 KB.out))
      have R5 := Lib.hid (hr5.bk KB.out (Nat.zero_le _))
      have N5 := Lib.hid ((bk_block (bk_tr hb5 KB.out) (Array.getElem?_eq_some_iff.1 N4.out).1).trans N4.out)
      clear hb5 hr5 N4
      have x0 := cell_of_row _ w.heap.size 0 _ 25 (0, 0) N5.out
      have x1 := cell_of_row _ w.heap.size 1 _ 25 (0, 0) N5.out
      have D22' := Lib.hid (D22.out _ K5.out)
      go_wp2_with fail
      refine D22'.out.mono ?_
      rintro e w6 ⟨rfl, hb6⟩
      have K6 := Lib.hid (bk_tr K5.out hb6)
      have R6 := Lib.hid (R5.out.bk hb6 (Nat.le_refl _))
      have N6 := Lib.hid ((bk_block hb6 (Array.getElem?_eq_some_iff.1 N5.out).1).trans N5.out)
      have M6 := Lib.hid ((bk_block hb6 (Array.getElem?_eq_some_iff.1 NB.out).1).trans NB.out)
      clear hb6 x0 x1 N5
      have x0 := cell_of_row _ w.heap.size 0 _ 25 (0, 0) N6.out
      have x1 := cell_of_row _ w.heap.size 1 _ 25 (0, 0) N6.out
      have y0 := cell_of_row _ w5.heap.size 0 _ 25 (0, 0) M6.out
      have y1 := cell_of_row _ w5.heap.size 1 _ 25 (0, 0) M6.out
      have D15 := Lib.hid (S15.out w6 p5 p c5 c R6.out (RA.out.bk K6.out (Nat.le_refl _)))
      go_wp2_with fail
      refine D15.out.mono ?_
      rintro e w7 ⟨rfl, hb7⟩
      have K7 := Lib.hid (bk_tr K6.out hb7)
      clear hb7
      have D10 := Lib.hid (LV.out w7)
      go_wp2_with fail
      refine D10.out.mono ?_
      rintro e w8 ⟨rfl, hb8⟩
      have K8 := Lib.hid hb8
      clear hb8
      go_wp2_with fail
      go_ret
      exact ⟨rfl, bk_tr KA.out (bk_tr K7.out K8.out)⟩
end Go.Proofs.Ytgiheheakgigkaa
