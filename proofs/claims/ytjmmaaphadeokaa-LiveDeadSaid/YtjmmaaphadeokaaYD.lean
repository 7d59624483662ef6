/- The law of Dead and Remove. -/
import Derived.Test.YtjmmaaphadeokaaYE
import Derived.Test.YtjmmaaphadeokaaRK
namespace Go.Proofs.Ytjmmaaphadeokaa
open Go.RowKit Go.Shelf
set_option linter.unusedVariables false
set_option linter.unusedSimpArgs false
/-- both Removes and both Deads -/
theorem dead_both (W R : Int) (p q : Option Addr) (pc qc : Nat) (ins : List I6) (out : List Int) (x : Int) (w : World) (hi : RI w p pc ins) (ho : RO w q qc out) (li : ins.length ≤ 300) (lo : out.length ≤ 20) : ∃ (E W' R' : Int) (L : List I6) (O : List Int) (D : Bool), L.length ≤ 300 ∧ O.length ≤ 20 ∧
    (∀ wc, BK w wc → Calls Try.prog 19 #[.agg #[.int .i64 W, .int .i64 R, .slice p ins.length pc, .slice q out.length qc]] wc (RES E W' R' L O wc)) ∧
    (∀ wc, BK w wc → Calls Try.prog 20 #[.agg #[.int .i64 W, .int .i64 R, .slice p ins.length pc, .slice q out.length qc]] wc (RES E W' R' L O wc)) ∧
    (∀ wc, BK w wc → Calls Try.prog 21 #[.agg #[.int .i64 W, .int .i64 R, .slice p ins.length pc, .slice q out.length qc], .int .i64 x] wc fun e w' => e = .returned (.bool D) ∧ BK wc w') ∧
    (∀ wc, BK w wc → Calls Try.prog 22 #[.agg #[.int .i64 W, .int .i64 R, .slice p ins.length pc, .slice q out.length qc], .int .i64 x] wc fun e w' => e = .returned (.bool D) ∧ BK wc w') := by
  have c21 := fun wc (hb : BK w wc) => dead21 W R p q pc qc ins out wc (hi.keep hb) (ho.keep hb) li lo x
  have c22 := fun wc (hb : BK w wc) => dead22 W R p q pc qc ins out wc (hi.keep hb) (ho.keep hb) li lo x
  by_cases h1 : chkE W R ins out = 0
  · have hv := chk_zero.1 h1
    refine ⟨0, W, R, removeL out ins, out, _, by have := removeL_len out ins; omega, lo, fun wc hb => ?_, fun wc hb => ?_, c21, c22⟩
    · exact (remove19_ok W R p q pc qc ins out wc (hi.keep hb) (ho.keep hb) lo hv).mono fun e w' h => res_ok h
    · exact (remove20_ok W R p q pc qc ins out wc (hi.keep hb) (ho.keep hb) lo hv).mono fun e w' h => res_ok h
  · refine ⟨chkE W R ins out, 0, 0, [], [], _, by simp, by simp, fun wc hb => ?_, fun wc hb => ?_, c21, c22⟩
    · exact (remove19_err W R p q pc qc ins out wc (hi.keep hb) (ho.keep hb) (by omega) (by omega) h1).mono fun e w' h => res_zero h
    · exact (remove20_err W R p q pc qc ins out wc (hi.keep hb) (ho.keep hb) (by omega) (by omega) h1).mono fun e w' h => res_zero h
set_option maxRecDepth 100000 in
set_option maxHeartbeats 2000000 in
theorem dlaw_heavy (W R : Int) (p q : Option Addr) (pc qc n m : Nat) (x : Int) (w : World) (h : 40 < n ∨ ¬ (n ≤ 300 ∧ m ≤ 20)) :
    Calls Try.prog 4 #[.agg #[.int .i64 W, .int .i64 R, .slice p n pc, .slice q m qc], .int .i64 x] w fun e w' => e = .returned (.bool true) ∧ BK w w' := by
  have K0 := Lib.hid (bk_alloc (BK.refl w) (.cells #[.int .i64 W, .int .i64 R, .slice p n pc, .slice q m qc] 25))
  have b4 := b4_new w (.int .i64 W) (.int .i64 R) (.slice p n pc) (.slice q m qc) 25
  have L1 := Lib.hid (light10 W R p q pc qc n m)
  by_cases h1 : 40 < n
  · have h2 : (40 : Int) < (n : Int) := by omega
    clear h
    go_enter Try.func4, Try.ntmps4
    go_upto_region 1 with (fail)
    generalize w.alloc (.cells #[.int .i64 W, .int .i64 R, .slice p n pc, .slice q m qc] 25) = w0 at K0 b4 ⊢
    obtain ⟨c0, c1, c2, c3⟩ := b4
    go_wp2_with fail
    refine (lives11 w0).mono ?_
    rintro e w3 ⟨rfl, hb3⟩
    have J3 := Lib.hid hb3
    clear hb3
    go_wp2_with fail
    go_ret
    exact ⟨rfl, bk_tr K0.out J3.out⟩
  · have h2 : ¬ (40 : Int) < (n : Int) := by omega
    rw [light_no (n := n) (m := m) (by omega)] at L1
    clear h
    go_enter Try.func4, Try.ntmps4
    go_upto_region 1 with (fail)
    generalize w.alloc (.cells #[.int .i64 W, .int .i64 R, .slice p n pc, .slice q m qc] 25) = w0 at K0 b4 ⊢
    obtain ⟨c0, c1, c2, c3⟩ := b4
    go_wp2_with fail
    refine (L1.out w0).mono ?_
    rintro e w1 ⟨rfl, hb1⟩
    have J1 := Lib.hid hb1
    clear hb1 c0 c1 c2 c3
    go_wp2_with fail
    refine (lives11 w1).mono ?_
    rintro e w3 ⟨rfl, hb3⟩
    have J3 := Lib.hid (bk_tr J1.out hb3)
    clear hb3
    go_wp2_with fail
    go_ret
    exact ⟨rfl, bk_tr K0.out J3.out⟩
set_option maxRecDepth 100000 in
set_option maxHeartbeats 4000000 in
theorem dlaw (W R : Int) (p q : Option Addr) (pc qc : Nat) (ins : List I6) (out : List Int) (x : Int) (w : World) (hi : RI w p pc ins) (ho : RO w q qc out) (li : ins.length ≤ 40) (lo : out.length ≤ 20) : Calls Try.prog 4 #[.agg #[.int .i64 W, .int .i64 R, .slice p ins.length pc, .slice q out.length qc], .int .i64 x] w fun e w' => e = .returned (.bool true) ∧ BK w w' := by
  obtain ⟨E, W', R', L, O, D, hL, hO, h19, h20, h21, h22⟩ := dead_both W R p q pc qc ins out x w hi ho (by omega) lo
  have k0 := bk_alloc (BK.refl w) (.cells #[.int .i64 W, .int .i64 R, .slice p ins.length pc, .slice q out.length qc] 25)
  have b4 := b4_new w (.int .i64 W) (.int .i64 R) (.slice p ins.length pc) (.slice q out.length qc) 25
  have L1 := Lib.hid (fun wc => by have := light10 W R p q pc qc ins.length out.length wc; rw [light_yes (by omega) lo] at this; exact this)
  have H19 := Lib.hid h19
  have H20 := Lib.hid h20
  have H21 := Lib.hid h21
  have H22 := Lib.hid h22
  have h2 : ¬ (40 : Int) < (ins.length : Int) := by omega
  clear hi ho h19 h20 h21 h22
  go_enter Try.func4, Try.ntmps4
  go_upto_region 1 with (fail)
  generalize w.alloc (.cells #[.int .i64 W, .int .i64 R, .slice p ins.length pc, .slice q out.length qc] 25) = w0 at k0 b4 ⊢
  have K0 := Lib.hid k0
  have HB := Lib.hid b4
  obtain ⟨c0, c1, c2, c3⟩ := b4
  clear k0
  go_wp2_with fail
  refine (L1.out w0).mono ?_
  rintro e w1 ⟨rfl, hb1⟩
  have J1 := Lib.hid hb1
  clear c0 c1 c2 c3
  obtain ⟨c0, c1, c2, c3⟩ := HB.out.keep hb1
  clear hb1
  go_wp2_with fail
  refine (H19.out w1 (bk_tr K0.out J1.out)).mono ?_
  rintro e w3 ⟨p3, pc3, q3, qc3, rfl, hi3, ho3, hb3⟩
  have HI3 := Lib.hid hi3
  have HO3 := Lib.hid ho3
  have J3 := Lib.hid (bk_tr J1.out hb3)
  clear hb3 hi3 ho3 c0 c1 c2 c3
  go_upto_region 4 with (fail)
  have e4 := b4_new w3 (.int .i64 W') (.int .i64 R') (.slice p3 L.length pc3) (.slice q3 O.length qc3) 25
  have k4 := bk_alloc (BK.refl w3) (.cells #[.int .i64 W', .int .i64 R', .slice p3 L.length pc3, .slice q3 O.length qc3] 25)
  generalize w3.alloc (.cells #[.int .i64 W', .int .i64 R', .slice p3 L.length pc3, .slice q3 O.length qc3] 25) = w4 at e4 k4 ⊢
  generalize w3.heap.size = t5 at e4 ⊢
  have HE4 := Lib.hid e4
  have K4 := Lib.hid k4
  have J4 := Lib.hid (bk_tr J3.out k4)
  clear e4 k4
  obtain ⟨c0, c1, c2, c3⟩ := HB.out.keep J4.out
  go_wp2_with fail
  refine (H20.out w4 (bk_tr K0.out J4.out)).mono ?_
  rintro e w5 ⟨p5, pc5, q5, qc5, rfl, hi5, ho5, hb5⟩
  have HI5 := Lib.hid hi5
  have HO5 := Lib.hid ho5
  have K5 := Lib.hid (bk_tr K4.out hb5)
  have J5 := Lib.hid (bk_tr J4.out hb5)
  have HE5 := Lib.hid (HE4.out.keep hb5)
  clear hb5 hi5 ho5 c0 c1 c2 c3
  go_upto_region 5 with (fail)
  have f4 := b4_new w5 (.int .i64 W') (.int .i64 R') (.slice p5 L.length pc5) (.slice q5 O.length qc5) 25
  have k6 := bk_alloc (BK.refl w5) (.cells #[.int .i64 W', .int .i64 R', .slice p5 L.length pc5, .slice q5 O.length qc5] 25)
  generalize w5.alloc (.cells #[.int .i64 W', .int .i64 R', .slice p5 L.length pc5, .slice q5 O.length qc5] 25) = w6 at f4 k6 ⊢
  generalize w5.heap.size = t7 at f4 ⊢
  have J6 := Lib.hid (bk_tr J5.out k6)
  have HE6 := Lib.hid (HE5.out.keep k6)
  have HF6 := Lib.hid f4
  have C23 := Lib.hid (fun (wc : World) (hb : BK w6 wc) => same23 W' R' p3 q3 p5 q5 pc3 qc3 pc5 qc5 L O wc (HI3.out.keep (bk_tr K5.out (bk_tr k6 hb))) (HO3.out.keep (bk_tr K5.out (bk_tr k6 hb))) (HI5.out.keep (bk_tr k6 hb)) (HO5.out.keep (bk_tr k6 hb)) (by omega) (by omega))
  clear k6 f4
  refine wp_region_held_drew (S := fun w' => B4 w' w.heap.size (.int .i64 W) (.int .i64 R) (.slice p ins.length pc) (.slice q out.length qc) ∧ B4 w' t5 (.int .i64 W') (.int .i64 R') (.slice p3 L.length pc3) (.slice q3 O.length qc3) ∧ B4 w' t7 (.int .i64 W') (.int .i64 R') (.slice p5 L.length pc5) (.slice q5 O.length qc5)) (by kernel_rfl) (⟨HB.out.keep (bk_drew J6.out), HE6.out.keep (bk_drew (BK.refl _)), HF6.out.keep (bk_drew (BK.refl _))⟩) (fun hHeld => ?_)
  have hkI := bk_drew (BK.refl w6)
  generalize w6.drew = wI at hHeld hkI ⊢
  refine wpAnyH_take (i := 0) (v := .agg #[.int .i64 W, .int .i64 R, .slice p ins.length pc, .slice q out.length qc]) rfl (by kernel_rfl) (by kernel_rfl) (by kernel_rfl) (fun _ _ _ h => h) (Or.inl ⟨by kernel_rfl, fun w hSw => by (have q0 := hSw.1.1; have q1 := hSw.1.2.1; have q2 := hSw.1.2.2.1; have q3' := hSw.1.2.2.2; go_simp)⟩) hHeld ?_
  try simp only [Act.put, List.setIfInBounds_toArray, List.set_cons_zero, List.set_cons_succ]
  refine wpAnyH_take (i := 1) (v := .int .i64 x) rfl (by kernel_rfl) (by kernel_rfl) (by kernel_rfl) (fun _ _ _ h => h) (Or.inl ⟨by kernel_rfl, fun w hSw => by (go_simp)⟩) hHeld ?_
  try simp only [Act.put, List.setIfInBounds_toArray, List.set_cons_zero, List.set_cons_succ]
  refine wpAnyH_take (i := 3) (v := .agg #[.int .i64 W, .int .i64 R, .slice p ins.length pc, .slice q out.length qc]) rfl (by kernel_rfl) (by kernel_rfl) (by kernel_rfl) (fun _ _ _ h => h) (Or.inl ⟨by kernel_rfl, fun w hSw => by (have q0 := hSw.1.1; have q1 := hSw.1.2.1; have q2 := hSw.1.2.2.1; have q3' := hSw.1.2.2.2; go_simp)⟩) hHeld ?_
  try simp only [Act.put, List.setIfInBounds_toArray, List.set_cons_zero, List.set_cons_succ]
  refine wpAnyH_take (i := 4) (v := .int .i64 x) rfl (by kernel_rfl) (by kernel_rfl) (by kernel_rfl) (fun _ _ _ h => h) (Or.inl ⟨by kernel_rfl, fun w hSw => by (go_simp)⟩) hHeld ?_
  try simp only [Act.put, List.setIfInBounds_toArray, List.set_cons_zero, List.set_cons_succ]
  refine wpAnyH_ready (rs := [2]) (by kernel_rfl) (by simp) ?_
  refine AllReadyH.cons (o := _) rfl (fun K9 hK9 => ?_) AllReadyH.nil
  go_simp
  go_at_call 21
  refine (H21.out wI (bk_tr K0.out (bk_tr J6.out hkI))).mono ?_
  rintro e w7 ⟨rfl, hb7⟩
  have k7 := bk_tr hkI hb7
  refine hK9.out _ _ (⟨hHeld.1.keep hb7, hHeld.2.1.keep hb7, hHeld.2.2.keep hb7⟩) (fun hHeld => ?_)
  clear hK9 K9
  try simp only [Act.put, List.setIfInBounds_toArray, List.set_cons_zero, List.set_cons_succ]
  refine wpAnyH_ready (rs := [5]) (by kernel_rfl) (by simp) ?_
  refine AllReadyH.cons (o := _) rfl (fun K9 hK9 => ?_) AllReadyH.nil
  go_simp
  go_at_call 22
  refine (H22.out w7 (bk_tr K0.out (bk_tr J6.out k7))).mono ?_
  rintro e w8 ⟨rfl, hb8⟩
  have k8 := bk_tr k7 hb8
  refine hK9.out _ _ (⟨hHeld.1.keep hb8, hHeld.2.1.keep hb8, hHeld.2.2.keep hb8⟩) (fun hHeld => ?_)
  clear hK9 K9
  try simp only [Act.put, List.setIfInBounds_toArray, List.set_cons_zero, List.set_cons_succ]
  refine wpAnyH_take (i := 6) (v := .bool true) rfl (by kernel_rfl) (by kernel_rfl) (by kernel_rfl) (fun _ _ _ h => h) (Or.inl ⟨by kernel_rfl, fun w hSw => by (go_simp)⟩) hHeld ?_
  try simp only [Act.put, List.setIfInBounds_toArray, List.set_cons_zero, List.set_cons_succ]
  refine wpAnyH_take (i := 7) (v := .bool true) rfl (by kernel_rfl) (by kernel_rfl) (by kernel_rfl) (fun _ _ _ h => h) (Or.inl ⟨by kernel_rfl, fun w hSw => by (go_simp)⟩) hHeld ?_
  try simp only [Act.put, List.setIfInBounds_toArray, List.set_cons_zero, List.set_cons_succ]
  refine wpAnyH_take (i := 8) (v := .agg #[.int .i64 W', .int .i64 R', .slice p3 L.length pc3, .slice q3 O.length qc3]) rfl (by kernel_rfl) (by kernel_rfl) (by kernel_rfl) (fun _ _ _ h => h) (Or.inl ⟨by kernel_rfl, fun w hSw => by (have q0 := hSw.2.1.1; have q1 := hSw.2.1.2.1; have q2 := hSw.2.1.2.2.1; have q3' := hSw.2.1.2.2.2; go_simp)⟩) hHeld ?_
  try simp only [Act.put, List.setIfInBounds_toArray, List.set_cons_zero, List.set_cons_succ]
  refine wpAnyH_take (i := 9) (v := .agg #[.int .i64 W', .int .i64 R', .slice p5 L.length pc5, .slice q5 O.length qc5]) rfl (by kernel_rfl) (by kernel_rfl) (by kernel_rfl) (fun _ _ _ h => h) (Or.inl ⟨by kernel_rfl, fun w hSw => by (have q0 := hSw.2.2.1; have q1 := hSw.2.2.2.1; have q2 := hSw.2.2.2.2.1; have q3' := hSw.2.2.2.2.2; go_simp)⟩) hHeld ?_
  try simp only [Act.put, List.setIfInBounds_toArray, List.set_cons_zero, List.set_cons_succ]
  refine wpAnyH_ready (rs := [10]) (by kernel_rfl) (by simp) ?_
  refine AllReadyH.cons (o := _) rfl (fun K9 hK9 => ?_) AllReadyH.nil
  go_simp
  go_at_call 23
  refine (C23.out w8 k8).mono ?_
  rintro e w9 ⟨rfl, hb9⟩
  have k9 := bk_tr k8 hb9
  refine hK9.out _ _ (⟨hHeld.1.keep hb9, hHeld.2.1.keep hb9, hHeld.2.2.keep hb9⟩) (fun hHeld => ?_)
  clear hK9 K9
  try simp only [Act.put, List.setIfInBounds_toArray, List.set_cons_zero, List.set_cons_succ]
  refine wpAnyH_take (i := 11) (v := .bool true) rfl (by kernel_rfl) (by kernel_rfl) (by kernel_rfl) (fun _ _ _ h => h) (Or.inl ⟨by kernel_rfl, fun w hSw => by (go_simp)⟩) hHeld ?_
  try simp only [Act.put, List.setIfInBounds_toArray, List.set_cons_zero, List.set_cons_succ]
  refine wpAnyH_take (i := 12) (v := .bool true) rfl (by kernel_rfl) (by kernel_rfl) (by kernel_rfl) (fun _ _ _ h => h) (Or.inl ⟨by kernel_rfl, fun w hSw => by (go_simp)⟩) hHeld ?_
  try simp only [Act.put, List.setIfInBounds_toArray, List.set_cons_zero, List.set_cons_succ]
  refine wpAnyH_take (i := 13) (v := .int .i64 E) rfl (by kernel_rfl) (by kernel_rfl) (by kernel_rfl) (fun _ _ _ h => h) (Or.inl ⟨by kernel_rfl, fun w hSw => by (go_simp)⟩) hHeld ?_
  try simp only [Act.put, List.setIfInBounds_toArray, List.set_cons_zero, List.set_cons_succ]
  refine wpAnyH_take (i := 14) (v := .int .i64 E) rfl (by kernel_rfl) (by kernel_rfl) (by kernel_rfl) (fun _ _ _ h => h) (Or.inl ⟨by kernel_rfl, fun w hSw => by (go_simp)⟩) hHeld ?_
  try simp only [Act.put, List.setIfInBounds_toArray, List.set_cons_zero, List.set_cons_succ]
  refine wpAnyH_take (i := 15) (v := .bool true) rfl (by kernel_rfl) (by kernel_rfl) (by kernel_rfl) (fun _ _ _ h => h) (Or.inl ⟨by kernel_rfl, fun w hSw => by (go_simp)⟩) hHeld ?_
  try simp only [Act.put, List.setIfInBounds_toArray, List.set_cons_zero, List.set_cons_succ]
  refine wpAnyH_take (i := 16) (v := .bool true) rfl (by kernel_rfl) (by kernel_rfl) (by kernel_rfl) (fun _ _ _ h => h) (Or.inl ⟨by kernel_rfl, fun w hSw => by (go_simp)⟩) hHeld ?_
  try simp only [Act.put, List.setIfInBounds_toArray, List.set_cons_zero, List.set_cons_succ]
  refine wpAnyH_take (i := 17) (v := .bool true) rfl (by kernel_rfl) (by kernel_rfl) (by kernel_rfl) (fun _ _ _ h => h) (Or.inl ⟨by kernel_rfl, fun w hSw => by (go_simp)⟩) hHeld ?_
  try simp only [Act.put, List.setIfInBounds_toArray, List.set_cons_zero, List.set_cons_succ]
  refine wpAnyH_ready (rs := [18]) (by kernel_rfl) (by simp) ?_
  refine AllReadyH.cons (o := _) rfl (fun K9 hK9 => ?_) AllReadyH.nil
  go_simp
  go_at_call 11
  refine (lives11 w9).mono ?_
  rintro e w10 ⟨rfl, hb10⟩
  have k10 := bk_tr k9 hb10
  refine hK9.out _ _ (⟨hHeld.1.keep hb10, hHeld.2.1.keep hb10, hHeld.2.2.keep hb10⟩) (fun hHeld => ?_)
  clear hK9 K9
  try simp only [Act.put, List.setIfInBounds_toArray, List.set_cons_zero, List.set_cons_succ]
  refine wpAnyH_ready (rs := [19]) (by kernel_rfl) (by simp) ?_
  refine AllReadyH.cons (o := _) rfl (fun K9 hK9 => ?_) AllReadyH.nil
  go_simp
  refine hK9.out _ _ (hHeld) (fun hHeld => ?_)
  clear hK9 K9
  try simp only [Act.put, List.setIfInBounds_toArray, List.set_cons_zero, List.set_cons_succ]
  refine wpAnyH_ready (rs := [20]) (by kernel_rfl) (by simp) ?_
  refine AllReadyH.cons (o := _) rfl (fun K9 hK9 => ?_) AllReadyH.nil
  go_simp
  refine hK9.out _ _ (hHeld) (fun hHeld => ?_)
  clear hK9 K9
  try simp only [Act.put, List.setIfInBounds_toArray, List.set_cons_zero, List.set_cons_succ]
  refine wpAnyH_done (by kernel_rfl) ?_ _
  have KF := Lib.hid (bk_tr J6.out k10)
  clear k10 k9 k8 k7 hkI hHeld
  go_wp2_with fail
  go_ret
  exact ⟨rfl, bk_tr K0.out KF.out⟩
end Go.Proofs.Ytjmmaaphadeokaa
