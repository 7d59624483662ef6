/- The law Gaps. -/
import Derived.Test.YtgiheheakgigkaaAX
namespace Go.Proofs.Ytgiheheakgigkaa
open Go.RowKit
set_option linter.unusedVariables false
set_option linter.unusedSimpArgs false
theorem zero_gaps {t : T} (h : fewB t 60 = true) : nd t ≤ 60 ∧ szT t ∧ (∀ g : ByteArray, g.size ≤ 40 → (spT g t).size ≤ 15660) := by
  have h0 := fewB_iff.1 h
  exact ⟨few_nd (l := 60) h0, sz_w t 60 (by omega) h0, fun g hg => few_sp hg (l := 60) h0⟩
set_option maxRecDepth 100000 in
set_option maxHeartbeats 8000000 in
theorem gaps_law (t : T) (g : ByteArray) (hok : okT t) (hg : g.size ≤ maxLen) (w : World) (p : Option Addr) (c : Nat) (hp : RowD (mem 0 w) w p c t.ts) : Calls Try.prog 8 #[.agg #[.string t.a, .slice p t.ts.length c], .string g] w fun e w' => e = .returned (.bool true) ∧ BK w w' := by
  have LV := Lib.hid live10
  have KA := Lib.hid (bk_alloc (BK.refl w) (.cells #[.string t.a, .slice p t.ts.length c] 25))
  have NA := Lib.hid (heap_alloc_new w (.cells #[.string t.a, .slice p t.ts.length c] 25))
  have RA := Lib.hid (hp.bk KA.out (Nat.le_refl _))
  have C17 := Lib.hid (show Calls Try.prog 17 #[.agg #[.string t.a, .slice p t.ts.length c], .int .i64 60] (w.alloc (.cells #[.string t.a, .slice p t.ts.length c] 25)) _ from few17 t hok _ p c 60 RA.out (by omega) (by omega))
  have ZB := Lib.hid (fun h => zero_gaps (t := t) h)
  have OK := Lib.hid hok
  have x0 := cell_of_row _ w.heap.size 0 _ 25 (0, 0) NA.out
  have x1 := cell_of_row _ w.heap.size 1 _ 25 (0, 0) NA.out
  clear hp hok
  have C23 := Lib.hid (fun (h : fewB t 60 = true) wc (hb : BK (w.alloc (.cells #[.string t.a, .slice p t.ts.length c] 25)) wc) => valid23 t (by have := (ZB.out h).1; omega) (ZB.out h).2.1 wc p c (RA.out.bk hb (Nat.le_refl _)))
  have PP := Lib.hid (fun h1 h2 => gap_parse (g := g) h1 (t := t) h2)
  have C29 := Lib.hid (fun (hs : g.size ≤ 40) wc => gap29 g (by omega) wc)
  have C30 := Lib.hid (fun (h : fewB t 60 = true) (hs : g.size ≤ 40) wc (hb : BK (w.alloc (.cells #[.string t.a, .slice p t.ts.length c] 25)) wc) => spaced30 g (by omega) t wc p c (RA.out.bk hb (Nat.le_refl _)) (by have := (ZB.out h).1; omega) (by have := (ZB.out h).2.2 g hs; omega))
  have C11 := Lib.hid (fun (h : fewB t 60 = true) (hs : g.size ≤ 40) wc => p11 (spT g t) (by have := (ZB.out h).2.2 g hs; omega) wc)
  have S15 := Lib.hid (same15 t OK.out t)
  rw [sameT_refl] at S15
  clear ZB OK hg
  generalize fewB t 60 = fb at *
  generalize vaT t = va at *
  generalize gpB g = gb at *
  go_enter Try.func8, Try.ntmps8
  go_wp2_with fail
  refine C17.out.mono ?_
  rintro e w2 ⟨rfl, hb2⟩
  have N2 := Lib.hid ((bk_block hb2 (Array.getElem?_eq_some_iff.1 NA.out).1).trans NA.out)
  generalize w.alloc (.cells #[.string t.a, .slice p t.ts.length c] 25) = w1 at *
  have K2 := Lib.hid hb2
  clear hb2 x0 x1 NA
  have x0 := cell_of_row _ w.heap.size 0 _ 25 (0, 0) N2.out
  have x1 := cell_of_row _ w.heap.size 1 _ 25 (0, 0) N2.out
  cases fb with
  | false =>
    have D10 := Lib.hid (LV.out w2)
    clear C11 C29 C30 C23 PP S15
    go_wp2_with fail
    refine D10.out.mono ?_
    rintro e w4 ⟨rfl, hb4⟩
    have K4 := Lib.hid hb4
    clear hb4
    go_wp2_with fail
    go_ret
    exact ⟨rfl, bk_tr KA.out (bk_tr K2.out K4.out)⟩
  | true =>
    have D23 := Lib.hid (C23.out (by trivial) w2 K2.out)
    go_wp2_with fail
    refine D23.out.mono ?_
    rintro e w3 ⟨rfl, hb3⟩
    have K3 := Lib.hid (bk_tr K2.out hb3)
    have N3 := Lib.hid ((bk_block hb3 (Array.getElem?_eq_some_iff.1 N2.out).1).trans N2.out)
    clear hb3 x0 x1 N2
    have x0 := cell_of_row _ w.heap.size 0 _ 25 (0, 0) N3.out
    have x1 := cell_of_row _ w.heap.size 1 _ 25 (0, 0) N3.out
    cases va with
    | false =>
      have D10 := Lib.hid (LV.out w3)
      clear C11 C29 C30 C23 PP S15
      go_wp2_with fail
      refine D10.out.mono ?_
      rintro e w4 ⟨rfl, hb4⟩
      have K4 := Lib.hid hb4
      clear hb4
      go_wp2_with fail
      go_ret
      exact ⟨rfl, bk_tr KA.out (bk_tr K3.out K4.out)⟩
    | true =>
      by_cases h40 : g.size ≤ 40
      · have g1 : ¬ (40 : Int) < (g.size : Int) := by omega
        have D29 := Lib.hid (C29.out h40)
        have H40 := Lib.hid h40
        clear h40
        go_wp2_with fail
        refine (D29.out _).mono ?_
        rintro e w' ⟨rfl, rfl⟩
        cases gb with
        | false =>
          have D10 := Lib.hid (LV.out w3)
          clear C11 C29 C30 C23 PP S15
          go_wp2_with fail
          refine D10.out.mono ?_
          rintro e w4 ⟨rfl, hb4⟩
          have K4 := Lib.hid hb4
          clear hb4
          go_wp2_with fail
          go_ret
          exact ⟨rfl, bk_tr KA.out (bk_tr K3.out K4.out)⟩
        | true =>
          have P1 := PP.out (by trivial) (by trivial)
          have D30 := Lib.hid (C30.out (by trivial) H40.out w3 K3.out)
          have D11 := Lib.hid (C11.out (by trivial) H40.out)
          rw [P1] at D11
          unfold ONE at D11
          dsimp only at D11
          clear P1 PP C11 C29 C30 C23
          generalize spT g t = PT at *
          go_wp2_with fail
          refine D30.out.mono ?_
          rintro e w4 ⟨rfl, hb4⟩
          have K4 := Lib.hid (bk_tr K3.out hb4)
          have N4 := Lib.hid ((bk_block hb4 (Array.getElem?_eq_some_iff.1 N3.out).1).trans N3.out)
          clear hb4 x0 x1 N3
          go_wp2_with fail
          refine (D11.out _).mono ?_
          rintro e w5 ⟨⟨p5, c5, rfl, hr5⟩, hb5⟩
          have KB := Lib.hid (bk_alloc (BK.refl w5) (.cells #[.string t.a, .slice p5 t.ts.length c5] 25))
          have NB := Lib.hid (heap_alloc_new w5 (.cells #[.string t.a, .slice p5 t.ts.length c5] 25))
          have K5 := Lib.hid (bk_tr K4.out (bk_tr hb5 KB.out))
          have R5 := Lib.hid (hr5.bk KB.out (Nat.zero_le _))
          have N5 := Lib.hid ((bk_block (bk_tr hb5 KB.out) (Array.getElem?_eq_some_iff.1 N4.out).1).trans N4.out)
          clear hb5 hr5 N4
          have x0 := cell_of_row _ w.heap.size 0 _ 25 (0, 0) N5.out
          have x1 := cell_of_row _ w.heap.size 1 _ 25 (0, 0) N5.out
          have y0 := cell_of_row _ w5.heap.size 0 _ 25 (0, 0) NB.out
          have y1 := cell_of_row _ w5.heap.size 1 _ 25 (0, 0) NB.out
          have D15 := Lib.hid (S15.out _ p5 p c5 c R5.out (RA.out.bk K5.out (Nat.le_refl _)))
          go_wp2_with fail
          refine D15.out.mono ?_
          rintro e w7 ⟨rfl, hb7⟩
          have K7 := Lib.hid (bk_tr K5.out hb7)
          clear hb7
          have D10 := Lib.hid (LV.out w7)
          go_wp2_with fail
          refine D10.out.mono ?_
          rintro e w8 ⟨rfl, hb8⟩
          have K8 := Lib.hid hb8
          clear hb8
          go_wp2_with fail
          go_ret
          exact ⟨rfl, bk_tr KA.out (bk_tr K7.out K8.out)⟩
      · have g1 : (40 : Int) < (g.size : Int) := by omega
        have D10 := Lib.hid (LV.out w3)
        clear C11 C29 C30 C23 PP S15 h40
        go_wp2_with fail
        refine D10.out.mono ?_
        rintro e w4 ⟨rfl, hb4⟩
        have K4 := Lib.hid hb4
        clear hb4
        go_wp2_with fail
        go_ret
        exact ⟨rfl, bk_tr KA.out (bk_tr K3.out K4.out)⟩
end Go.Proofs.Ytgiheheakgigkaa
