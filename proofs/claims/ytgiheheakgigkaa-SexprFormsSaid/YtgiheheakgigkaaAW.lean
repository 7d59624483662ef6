/- The law Forms. -/
import Derived.Test.YtgiheheakgigkaaAX
namespace Go.Proofs.Ytgiheheakgigkaa
open Go.RowKit
set_option linter.unusedVariables false
set_option linter.unusedSimpArgs false
theorem zero_forms {t : T} (h : fewB t 300 = true) : nd t ≤ 1000000 ∧ szT t := by
  have h0 := fewB_iff.1 h
  exact ⟨by have := few_nd (l := 300) h0; omega, sz_w t 300 (by omega) h0⟩
set_option maxRecDepth 100000 in
set_option maxHeartbeats 8000000 in
theorem forms_law (t u : T) (hok : okT t) (hou : okT u) (w : World) (p q : Option Addr) (c d : Nat) (hp : RowD (mem 0 w) w p c t.ts) (hq : RowD (mem 0 w) w q d u.ts) : Calls Try.prog 5 #[.agg #[.string t.a, .slice p t.ts.length c], .agg #[.string u.a, .slice q u.ts.length d]] w fun e w' => e = .returned (.bool true) ∧ BK w w' := by
  have LV := Lib.hid live10
  have K1 := bk_alloc (BK.refl w) (.cells #[.string t.a, .slice p t.ts.length c] 25)
  have K2 := bk_alloc (BK.refl (w.alloc (.cells #[.string t.a, .slice p t.ts.length c] 25))) (.cells #[.string u.a, .slice q u.ts.length d] 25)
  have KA := Lib.hid (bk_tr K1 K2)
  have S1 := sz1 w (.cells #[.string t.a, .slice p t.ts.length c] 25)
  have NX := Lib.hid ((bk_block K2 (by rw [S1]; omega)).trans (heap_alloc_new w (.cells #[.string t.a, .slice p t.ts.length c] 25)))
  have NY0 := heap_alloc_new (w.alloc (.cells #[.string t.a, .slice p t.ts.length c] 25)) (.cells #[.string u.a, .slice q u.ts.length d] 25)
  rw [S1] at NY0
  have NY := Lib.hid NY0
  clear NY0
  have RX := Lib.hid (hp.bk KA.out (Nat.le_refl _))
  have RY := Lib.hid (hq.bk KA.out (Nat.le_refl _))
  have x0 := cell_of_row _ w.heap.size 0 _ 25 (0, 0) NX.out
  have x1 := cell_of_row _ w.heap.size 1 _ 25 (0, 0) NX.out
  have y0 := cell_of_row _ (w.heap.size + 1) 0 _ 25 (0, 0) NY.out
  have y1 := cell_of_row _ (w.heap.size + 1) 1 _ 25 (0, 0) NY.out
  have C17 := Lib.hid (few17 t hok _ p c 300 RX.out (by omega) (by omega))
  have D17 := Lib.hid (fun wc hb => few17 u hou wc q d 300 (RY.out.bk hb (Nat.le_refl _)) (by omega) (by omega))
  have ZT := Lib.hid (fun h => zero_forms (t := t) h)
  have OT := Lib.hid hok
  clear hp hq hok hou K1 K2 S1
  generalize fewB t 300 = fb at *
  generalize fewB u 300 = gb at *
  go_enter Try.func5, Try.ntmps5
  go_wp2_with fail
  generalize (w.alloc (.cells #[.string t.a, .slice p t.ts.length c] 25)).alloc (.cells #[.string u.a, .slice q u.ts.length d] 25) = w1 at *
  refine C17.out.mono ?_
  rintro e w2 ⟨rfl, hb2⟩
  have KB := Lib.hid hb2
  have N2 := Lib.hid ((bk_block hb2 (Array.getElem?_eq_some_iff.1 NX.out).1).trans NX.out)
  have M2 := Lib.hid ((bk_block hb2 (Array.getElem?_eq_some_iff.1 NY.out).1).trans NY.out)
  clear hb2 x0 x1 y0 y1
  have x0 := cell_of_row _ w.heap.size 0 _ 25 (0, 0) N2.out
  have x1 := cell_of_row _ w.heap.size 1 _ 25 (0, 0) N2.out
  have y0 := cell_of_row _ (w.heap.size + 1) 0 _ 25 (0, 0) M2.out
  have y1 := cell_of_row _ (w.heap.size + 1) 1 _ 25 (0, 0) M2.out
  cases fb with
  | false =>
    have D10 := Lib.hid (LV.out w2)
    go_wp2_with fail
    refine D10.out.mono ?_
    rintro e w4 ⟨rfl, hb4⟩
    have K4 := Lib.hid hb4
    clear hb4
    go_wp2_with fail
    go_ret
    exact ⟨rfl, bk_tr KA.out (bk_tr KB.out K4.out)⟩
  | true =>
    have E17 := Lib.hid (D17.out w2 KB.out)
    go_wp2_with fail
    refine E17.out.mono ?_
    rintro e w3 ⟨rfl, hb3⟩
    have KC := Lib.hid (bk_tr KB.out hb3)
    have N3 := Lib.hid ((bk_block hb3 (Array.getElem?_eq_some_iff.1 N2.out).1).trans N2.out)
    have M3 := Lib.hid ((bk_block hb3 (Array.getElem?_eq_some_iff.1 M2.out).1).trans M2.out)
    clear hb3 x0 x1 y0 y1
    cases gb with
    | false =>
      have D10 := Lib.hid (LV.out w3)
      go_wp2_with fail
      refine D10.out.mono ?_
      rintro e w4 ⟨rfl, hb4⟩
      have K4 := Lib.hid hb4
      clear hb4
      go_wp2_with fail
      go_ret
      exact ⟨rfl, bk_tr KA.out (bk_tr KC.out K4.out)⟩
    | true =>
      have ZZ := Lib.hid (ZT.out (by trivial))
      have R3 := Lib.hid (RX.out.bk KC.out (Nat.le_refl _))
      have Q3 := Lib.hid (RY.out.bk KC.out (Nat.le_refl _))
      have KD := Lib.hid (fun wc (hb : BK w3 wc) => And.intro (cells2 (o := 0) (cell_of_row _ w.heap.size 0 _ 25 (0, 0) N3.out) (cell_of_row _ w.heap.size 1 _ 25 (0, 0) N3.out) hb) (cells2 (o := 0) (cell_of_row _ (w.heap.size + 1) 0 _ 25 (0, 0) M3.out) (cell_of_row _ (w.heap.size + 1) 1 _ 25 (0, 0) M3.out) hb))
      have C22 := Lib.hid (fun wc (hb : BK w3 wc) => (valid22 t ZZ.out.1 ZZ.out.2 wc p c (R3.out.bk hb (Nat.le_refl _))).mono fun e w' h => show e = .returned (.bool (vaT t)) ∧ BK w3 w' from ⟨h.1, bk_tr hb h.2⟩)
      have C23 := Lib.hid (fun wc (hb : BK w3 wc) => (valid23 t ZZ.out.1 ZZ.out.2 wc p c (R3.out.bk hb (Nat.le_refl _))).mono fun e w' h => show e = .returned (.bool (vaT t)) ∧ BK w3 w' from ⟨h.1, bk_tr hb h.2⟩)
      have C24 := Lib.hid (fun wc (hb : BK w3 wc) => (depth24 t wc p c (R3.out.bk hb (Nat.le_refl _)) ZZ.out.1).mono fun e w' h => show e = .returned (.int .i64 ((dpT t : Nat) : Int)) ∧ BK w3 w' from ⟨h.1, bk_tr hb h.2⟩)
      have C25 := Lib.hid (fun wc (hb : BK w3 wc) => (dep25 t wc p c (R3.out.bk hb (Nat.le_refl _)) ZZ.out.1).mono fun e w' h => show e = .returned (.int .i64 ((dpT t : Nat) : Int)) ∧ BK w3 w' from ⟨h.1, bk_tr hb h.2⟩)
      have C26 := Lib.hid (fun wc (hb : BK w3 wc) => (count26 t wc p c (R3.out.bk hb (Nat.le_refl _)) ZZ.out.1).mono fun e w' h => show e = .returned (.int .i64 ((cnT t : Nat) : Int)) ∧ BK w3 w' from ⟨h.1, bk_tr hb h.2⟩)
      have C27 := Lib.hid (fun wc (hb : BK w3 wc) => (cou27 t wc p c (R3.out.bk hb (Nat.le_refl _)) ZZ.out.1).mono fun e w' h => show e = .returned (.int .i64 ((cnT t : Nat) : Int)) ∧ BK w3 w' from ⟨h.1, bk_tr hb h.2⟩)
      have C28 := Lib.hid (fun wc (hb : BK w3 wc) => (same28 t OT.out u wc p q c d (R3.out.bk hb (Nat.le_refl _)) (Q3.out.bk hb (Nat.le_refl _))).mono fun e w' h => show e = .returned (.bool (sameT t u)) ∧ BK w3 w' from ⟨h.1, bk_tr hb h.2⟩)
      have C15 := Lib.hid (fun wc (hb : BK w3 wc) => (same15 t OT.out u wc p q c d (R3.out.bk hb (Nat.le_refl _)) (Q3.out.bk hb (Nat.le_refl _))).mono fun e w' h => show e = .returned (.bool (sameT t u)) ∧ BK w3 w' from ⟨h.1, bk_tr hb h.2⟩)
      have D28 := Lib.hid (fun wc (hb : BK w3 wc) => (same28 t OT.out t wc p p c c (R3.out.bk hb (Nat.le_refl _)) (R3.out.bk hb (Nat.le_refl _))).mono fun e w' h => show e = .returned (.bool true) ∧ BK w3 w' from ⟨by rw [h.1, sameT_refl], bk_tr hb h.2⟩)
      have C10 := Lib.hid (fun wc (hb : BK w3 wc) => (LV.out wc).mono fun e w' h => show e = .returned (.bool true) ∧ BK w3 w' from ⟨h.1, bk_tr hb h.2⟩)
      generalize vaT t = va at *
      generalize dpT t = dp at *
      generalize cnT t = cn at *
      generalize sameT t u = sm at *
      go_wp2_with fail
      refine wp_region_class (C := fun w' => BK w3 w') (by kernel_rfl) (by kernel_rfl) (bk_drew (BK.refl _)) ?_
      repeat (first
        | go_big_quiet_step (fail)
        | (refine wpQuiet_step (fun K hK => ?_)
           go_simp
           first
             | (refine hK _ ?_; clear hK K)
             | (refine ⟨_, fun _ _ => rfl, hK _ ?_⟩; clear hK K)
             | (apply Exists.intro; refine ⟨fun w5 hw5 => ?_, hK _ ?_⟩; (go_at_call 10; with_reducible exact C10.out _ hw5); clear hK K)
             | (apply Exists.intro; refine ⟨fun w5 hw5 => ?_, hK _ ?_⟩; (go_at_call 28; with_reducible exact D28.out _ hw5); clear hK K)
             | (apply Exists.intro; refine ⟨fun w5 hw5 => ?_, hK _ ?_⟩; (go_at_call 15; with_reducible exact C15.out _ hw5); clear hK K)
             | (apply Exists.intro; refine ⟨fun w5 hw5 => ?_, hK _ ?_⟩; (go_at_call 28; with_reducible exact C28.out _ hw5); clear hK K)
             | (apply Exists.intro; refine ⟨fun w5 hw5 => ?_, hK _ ?_⟩; (go_at_call 27; with_reducible exact C27.out _ hw5); clear hK K)
             | (apply Exists.intro; refine ⟨fun w5 hw5 => ?_, hK _ ?_⟩; (go_at_call 26; with_reducible exact C26.out _ hw5); clear hK K)
             | (apply Exists.intro; refine ⟨fun w5 hw5 => ?_, hK _ ?_⟩; (go_at_call 25; with_reducible exact C25.out _ hw5); clear hK K)
             | (apply Exists.intro; refine ⟨fun w5 hw5 => ?_, hK _ ?_⟩; (go_at_call 24; with_reducible exact C24.out _ hw5); clear hK K)
             | (apply Exists.intro; refine ⟨fun w5 hw5 => ?_, hK _ ?_⟩; (go_at_call 23; with_reducible exact C23.out _ hw5); clear hK K)
             | (apply Exists.intro; refine ⟨fun w5 hw5 => ?_, hK _ ?_⟩; (go_at_call 22; with_reducible exact C22.out _ hw5); clear hK K)
             | (apply Exists.intro; refine ⟨fun w5 hw5 => ?_, hK _ ?_⟩; (obtain ⟨⟨q0, q1⟩, ⟨p0, p1⟩⟩ := KD.out _ hw5; go_simp; rfl); clear hK K)))
      refine wpQuiet_nil ?_
      intro wn hwn
      have KN := Lib.hid (bk_tr KC.out hwn)
      clear hwn
      go_wp2_with fail
      go_ret
      exact ⟨rfl, bk_tr KA.out KN.out⟩
end Go.Proofs.Ytgiheheakgigkaa
