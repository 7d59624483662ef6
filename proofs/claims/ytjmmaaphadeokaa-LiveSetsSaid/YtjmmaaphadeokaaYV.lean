/- The law of After, Inputs and Inputs2. -/
import Derived.Test.YtjmmaaphadeokaaYU
import Derived.Test.YtjmmaaphadeokaaRK
import Derived.Lib.SmallJoins
namespace Go.Proofs.Ytjmmaaphadeokaa
open Go.RowKit Go.Shelf
set_option linter.unusedVariables false
set_option linter.unusedSimpArgs false
theorem cellBk {w w' : World} {b j : Nat} {v : Value} (h : w.cell? ⟨b, j, none⟩ = some v) (hb : BK w w') : w'.cell? ⟨b, j, none⟩ = some v := (hb.bl.cell (p := ⟨b, j, none⟩) (World.block_lt_of_cell? w _ h)).trans h
theorem RR.get {w : World} {B : Nat} {p : Option Addr} {n c : Nat} {ls : List (List Int)} (h : RR w B (.slice p n c) ls) (k : Nat) (hk : k < ls.length) : ∃ g pu cu, p = some ⟨g, 0, none⟩ ∧ w.cell? ⟨g, k, none⟩ = some (.slice pu ls[k].length cu) ∧ RO w pu cu ls[k] := by
  obtain ⟨vs, h1, h2⟩ := h
  obtain ⟨u, a, b⟩ := h2 k hk
  obtain ⟨g, cap, e⟩ := Go.Joins.ownsRow_form h1 (by omega)
  simp only [Value.slice.injEq] at e
  obtain ⟨rfl, rfl, rfl⟩ := e
  obtain ⟨pu, cu, rfl⟩ := own_shape b
  have hvl : vs.length = ls.length := by have := h1.1; omega
  have hc := World.ownsRow.cellAt h1 k (by omega)
  refine ⟨g, pu, cu, rfl, ?_, RO.own b⟩
  rw [hc]
  exact a
theorem aft_regs {W R : Int} {ins : List I6} {out : List Int} (h : Vd W R ins out) (k : Nat) : aftL 8 ins out k = aftL R.toNat ins out k := by
  unfold aftL
  refine List.map_congr_left fun j _ => ?_
  exact live_regs (h.sub (by simp) (fun i hi => List.mem_of_mem_drop hi))
/-- both Afters -/
theorem after_both (W R : Int) (p q : Option Addr) (pc qc : Nat) (ins : List I6) (out : List Int) (w : World) (hi : RI w p pc ins) (ho : RO w q qc out) (li : ins.length ≤ 300) (lo : out.length ≤ 20) : ∃ A : List (List Int), A.length ≤ 300 ∧ (∀ l ∈ A, l.length ≤ 8) ∧
    (∀ wc, BK w wc → Calls Try.prog 12 #[.agg #[.int .i64 W, .int .i64 R, .slice p ins.length pc, .slice q out.length qc]] wc (AP A wc)) ∧ (∀ wc, BK w wc → Calls Try.prog 13 #[.agg #[.int .i64 W, .int .i64 R, .slice p ins.length pc, .slice q out.length qc]] wc (AP A wc)) := by
  by_cases hc : chkE W R ins out = 0
  · have hv := chk_zero.1 hc
    refine ⟨aftL 8 ins out ins.length, by rw [aftL_len]; exact li, fun l hl => ?_, fun wc hb => after12_ok W R p q pc qc ins out wc (hi.keep hb) (ho.keep hb) lo hv, fun wc hb => by rw [aft_regs hv]; exact after13_ok W R p q pc qc ins out wc (hi.keep hb) (ho.keep hb) lo hv⟩
    unfold aftL at hl
    simp only [List.mem_map] at hl
    obtain ⟨j, _, rfl⟩ := hl
    exact liveL_len 8 _ _
  · exact ⟨[], by simp, fun l hl => by (cases hl), fun wc hb => after12_no W R p q pc qc ins out wc (hi.keep hb) (ho.keep hb) li lo hc, fun wc hb => after13_no W R p q pc qc ins out wc (hi.keep hb) (ho.keep hb) li lo hc⟩
set_option maxRecDepth 100000 in
set_option maxHeartbeats 4000000 in
theorem slaw (W R : Int) (p q : Option Addr) (pc qc : Nat) (ins : List I6) (out : List Int) (W2 R2 : Int) (p2 q2 : Option Addr) (pc2 qc2 : Nat) (ins2 : List I6) (out2 : List Int) (w : World) (hi : RI w p pc ins) (ho : RO w q qc out) (hi2 : RI w p2 pc2 ins2) (ho2 : RO w q2 qc2 out2) (li : ins.length ≤ 300) (lo : out.length ≤ 20) (li2 : ins2.length ≤ 300) (lo2 : out2.length ≤ 20) (s1 : ins.length ≤ 40) (s2 : ins2.length ≤ 40) : Calls Try.prog 3 #[.agg #[.int .i64 W, .int .i64 R, .slice p ins.length pc, .slice q out.length qc], .agg #[.int .i64 W2, .int .i64 R2, .slice p2 ins2.length pc2, .slice q2 out2.length qc2]] w fun e w' => e = .returned (.bool true) ∧ BK w w' := by
  obtain ⟨A, hA, hA8, h12, h13⟩ := after_both W R p q pc qc ins out w hi ho li lo
  have b4 := (b4_new w (.int .i64 W) (.int .i64 R) (.slice p ins.length pc) (.slice q out.length qc) 25).keep (bk_alloc (BK.refl _) (.cells #[.int .i64 W2, .int .i64 R2, .slice p2 ins2.length pc2, .slice q2 out2.length qc2] 25))
  have d4 := b4_new (w.alloc (.cells #[.int .i64 W, .int .i64 R, .slice p ins.length pc, .slice q out.length qc] 25)) (.int .i64 W2) (.int .i64 R2) (.slice p2 ins2.length pc2) (.slice q2 out2.length qc2) 25
  rw [sz1] at d4
  have k0 := bk_alloc (bk_alloc (BK.refl w) (.cells #[.int .i64 W, .int .i64 R, .slice p ins.length pc, .slice q out.length qc] 25)) (.cells #[.int .i64 W2, .int .i64 R2, .slice p2 ins2.length pc2, .slice q2 out2.length qc2] 25)
  have L1 := Lib.hid (fun wc => by have := light10 W R p q pc qc ins.length out.length wc; rw [light_yes li lo] at this; exact this)
  have L2 := Lib.hid (fun wc => by have := light10 W2 R2 p2 q2 pc2 qc2 ins2.length out2.length wc; rw [light_yes li2 lo2] at this; exact this)
  have H12 := Lib.hid h12
  have H13 := Lib.hid h13
  have HA8 := Lib.hid hA8
  have H15 := Lib.hid (fun (wc : World) (hb : BK w wc) => inputs15 W R p q pc qc ins out wc (hi.keep hb) (ho.keep hb) li lo)
  have D15 := Lib.hid (fun (wc : World) (hb : BK w wc) => inputs15 W2 R2 p2 q2 pc2 qc2 ins2 out2 wc (hi2.keep hb) (ho2.keep hb) li2 lo2)
  have H16 := Lib.hid (fun (wc : World) (hb : BK w wc) => inputs16 W R p q pc qc ins out wc (hi.keep hb) (ho.keep hb) li lo)
  have H17 := Lib.hid (fun (wc : World) (hb : BK w wc) => inputs17 W R p q pc qc ins out W2 R2 p2 q2 pc2 qc2 ins2 out2 wc (hi.keep hb) (ho.keep hb) (hi2.keep hb) (ho2.keep hb) li lo li2 lo2)
  have hX := (inp_reg8 W R ins out).len
  have hY := (inp_reg8 W2 R2 ins2 out2).len
  have t1 : ¬ (40 : Int) < (ins.length : Int) := by omega
  have t2 : ¬ (40 : Int) < (ins2.length : Int) := by omega
  clear hi ho hi2 ho2 h12 h13 hA8
  generalize inpL W R ins out = X at H15 H16 H17 hX
  generalize inpL W2 R2 ins2 out2 = Y at D15 H17 hY
  have hZ := bothL_len X Y 8
  have HXY := Lib.hid (show bothL X Y 8 = bothL X Y 8 from rfl)
  go_enter Try.func3, Try.ntmps3
  go_upto_region 1 with (fail)
  generalize (w.alloc (.cells #[.int .i64 W, .int .i64 R, .slice p ins.length pc, .slice q out.length qc] 25)).alloc (.cells #[.int .i64 W2, .int .i64 R2, .slice p2 ins2.length pc2, .slice q2 out2.length qc2] 25) = w0 at b4 d4 k0 ⊢
  have HB := Lib.hid b4
  have HD := Lib.hid d4
  have K0 := Lib.hid k0
  obtain ⟨c0, c1, c2, c3⟩ := b4
  obtain ⟨d0, d1, d2, d3⟩ := d4
  clear k0
  go_wp2_with fail
  refine (L1.out w0).mono ?_
  rintro e w1 ⟨rfl, hb1⟩
  have J1 := Lib.hid hb1
  clear hb1 c0 c1 c2 c3 d0 d1 d2 d3
  obtain ⟨c0, c1, c2, c3⟩ := HB.out.keep J1.out
  obtain ⟨d0, d1, d2, d3⟩ := HD.out.keep J1.out
  go_wp2_with fail
  refine (L2.out w1).mono ?_
  rintro e w2 ⟨rfl, hb2⟩
  have J2 := Lib.hid (bk_tr J1.out hb2)
  have K2 := Lib.hid (bk_tr K0.out J2.out)
  clear hb2 c0 c1 c2 c3 d0 d1 d2 d3
  go_upto_region 3 with (fail)
  refine wp_region_held_drew (S := fun w' => B4 w' w.heap.size (.int .i64 W) (.int .i64 R) (.slice p ins.length pc) (.slice q out.length qc) ∧ B4 w' (w.heap.size + 1) (.int .i64 W2) (.int .i64 R2) (.slice p2 ins2.length pc2) (.slice q2 out2.length qc2)) (by kernel_rfl) (⟨HB.out.keep (bk_drew J2.out), HD.out.keep (bk_drew J2.out)⟩) (fun hHeld => ?_)
  have hkI := bk_drew (BK.refl w2)
  generalize w2.drew = wI at hHeld hkI ⊢
  refine wpAnyH_take (i := 0) (v := .agg #[.int .i64 W, .int .i64 R, .slice p ins.length pc, .slice q out.length qc]) rfl (by kernel_rfl) (by kernel_rfl) (by kernel_rfl) (fun _ _ _ h => h) (Or.inl ⟨by kernel_rfl, fun w hSw => by (have q0 := hSw.1.1; have q1 := hSw.1.2.1; have q2 := hSw.1.2.2.1; have q3 := hSw.1.2.2.2; go_simp)⟩) hHeld ?_
  try simp only [Act.put, List.setIfInBounds_toArray, List.set_cons_zero, List.set_cons_succ]
  refine wpAnyH_take (i := 2) (v := .agg #[.int .i64 W, .int .i64 R, .slice p ins.length pc, .slice q out.length qc]) rfl (by kernel_rfl) (by kernel_rfl) (by kernel_rfl) (fun _ _ _ h => h) (Or.inl ⟨by kernel_rfl, fun w hSw => by (have q0 := hSw.1.1; have q1 := hSw.1.2.1; have q2 := hSw.1.2.2.1; have q3 := hSw.1.2.2.2; go_simp)⟩) hHeld ?_
  try simp only [Act.put, List.setIfInBounds_toArray, List.set_cons_zero, List.set_cons_succ]
  refine wpAnyH_ready (rs := [1]) (by kernel_rfl) (by simp) ?_
  refine AllReadyH.cons (o := _) rfl (fun K9 hK9 => ?_) AllReadyH.nil
  go_simp
  go_at_call 12
  refine (H12.out wI (bk_tr K2.out hkI)).mono ?_
  rintro e w5 ⟨v5, rfl, ho5, hb5⟩
  obtain ⟨p5, c5, rfl⟩ := ho5.len
  have k5 := bk_tr hkI hb5
  refine hK9.out _ _ (⟨hHeld.1.keep hb5, hHeld.2.keep hb5⟩) (fun hHeld => ?_)
  clear hK9 K9
  try simp only [Act.put, List.setIfInBounds_toArray, List.set_cons_zero, List.set_cons_succ]
  refine wpAnyH_ready (rs := [3]) (by kernel_rfl) (by simp) ?_
  refine AllReadyH.cons (o := _) rfl (fun K9 hK9 => ?_) AllReadyH.nil
  go_simp
  go_at_call 13
  refine (H13.out w5 (bk_tr K2.out k5)).mono ?_
  rintro e w6 ⟨v6, rfl, ho6, hb6⟩
  obtain ⟨p6, c6, rfl⟩ := ho6.len
  have k6 := bk_tr k5 hb6
  refine hK9.out _ _ (⟨hHeld.1.keep hb6, hHeld.2.keep hb6⟩) (fun hHeld => ?_)
  clear hK9 K9
  try simp only [Act.put, List.setIfInBounds_toArray, List.set_cons_zero, List.set_cons_succ]
  refine wpAnyH_ready (rs := [4]) (by kernel_rfl) (by simp) ?_
  refine AllReadyH.cons (o := _) rfl (fun K9 hK9 => ?_) AllReadyH.nil
  go_simp
  refine hK9.out _ _ (hHeld) (fun hHeld => ?_)
  clear hK9 K9
  try simp only [Act.put, List.setIfInBounds_toArray, List.set_cons_zero, List.set_cons_succ]
  refine wpAnyH_ready (rs := [5]) (by kernel_rfl) (by simp) ?_
  refine AllReadyH.cons (o := _) rfl (fun K9 hK9 => ?_) AllReadyH.nil
  go_simp
  refine hK9.out _ _ (hHeld) (fun hHeld => ?_)
  clear hK9 K9
  try simp only [Act.put, List.setIfInBounds_toArray, List.set_cons_zero, List.set_cons_succ]
  refine wpAnyH_done (by kernel_rfl) ?_ _
  have R5 := Lib.hid (ho5.keep hb6)
  have R6 := Lib.hid ho6
  have J6 := Lib.hid (bk_tr J2.out k6)
  have K6 := Lib.hid (bk_tr K0.out J6.out)
  clear hHeld hkI k5 k6 hb5 hb6 ho5 ho6
  go_wp2_with fail
  go_loopw [42] (fun i wr => ∃ k : Nat, k ≤ A.length ∧ i = .int .i64 k ∧ BK w6 wr) (fun i _ => A.length - (intOf i).toNat)
  case atStart => exact ⟨0, Nat.zero_le _, rfl, BK.refl _⟩
  case round =>
    obtain ⟨k, hk, rfl, hkw⟩ := hrel
    have HK := Lib.hid hkw
    by_cases hlt : k < A.length
    · have hk8 : (k : Int) < A.length := by omega
      obtain ⟨g5, pu, cu, e5, hu5⟩ := (R5.out.keep hkw).get k hlt
      obtain ⟨g6, pv, cv, e6, hu6⟩ := (R6.out.keep hkw).get k hlt
      subst e5 e6
      have hl8 := HA8.out _ (List.getElem_mem hlt)
      have C14 := Lib.hid (fun (wc : World) (hb : BK wr wc) => by have := same14 A[k] A[k] pu pv cu cv wc (hu5.2.keep hb) (hu6.2.keep hb) (by omega) (by omega); rw [eqL_self] at this; exact this)
      clear hkw
      generalize A[k].length = ul at C14 hu5 hu6
      go_upto_region 9 with (fail)
      refine wp_region_held_drew (S := fun w' => w'.cell? ⟨g5, k, none⟩ = some (.slice pu ul cu) ∧ w'.cell? ⟨g6, k, none⟩ = some (.slice pv ul cv)) (by kernel_rfl) (⟨cellBk hu5.1 (bk_drew (BK.refl _)), cellBk hu6.1 (bk_drew (BK.refl _))⟩) (fun hHeld => ?_)
      have hkI := bk_drew (BK.refl wr)
      generalize wr.drew = wI at hHeld hkI ⊢
      refine wpAnyH_take (i := 0) (v := .slice (some ⟨g5, 0, none⟩) A.length c5) rfl (by kernel_rfl) (by kernel_rfl) (by kernel_rfl) (fun _ _ _ h => h) (Or.inl ⟨by kernel_rfl, fun w hSw => by (go_simp)⟩) hHeld ?_
      try simp only [Act.put, List.setIfInBounds_toArray, List.set_cons_zero, List.set_cons_succ]
      refine wpAnyH_take (i := 1) (v := .int .i64 (k : Int)) rfl (by kernel_rfl) (by kernel_rfl) (by kernel_rfl) (fun _ _ _ h => h) (Or.inl ⟨by kernel_rfl, fun w hSw => by (go_simp)⟩) hHeld ?_
      try simp only [Act.put, List.setIfInBounds_toArray, List.set_cons_zero, List.set_cons_succ]
      refine wpAnyH_take (i := 2) (v := .pointer (some ⟨g5, k, none⟩)) rfl (by kernel_rfl) (by kernel_rfl) (by kernel_rfl) (fun _ _ _ h => h) (Or.inl ⟨by kernel_rfl, fun w hSw => by (go_simp)⟩) hHeld ?_
      try simp only [Act.put, List.setIfInBounds_toArray, List.set_cons_zero, List.set_cons_succ]
      refine wpAnyH_take (i := 3) (v := .slice pu ul cu) rfl (by kernel_rfl) (by kernel_rfl) (by kernel_rfl) (fun _ _ _ h => h) (Or.inl ⟨by kernel_rfl, fun w hSw => by (have q0 := hSw.1; go_simp)⟩) hHeld ?_
      try simp only [Act.put, List.setIfInBounds_toArray, List.set_cons_zero, List.set_cons_succ]
      refine wpAnyH_take (i := 4) (v := .slice (some ⟨g6, 0, none⟩) A.length c6) rfl (by kernel_rfl) (by kernel_rfl) (by kernel_rfl) (fun _ _ _ h => h) (Or.inl ⟨by kernel_rfl, fun w hSw => by (go_simp)⟩) hHeld ?_
      try simp only [Act.put, List.setIfInBounds_toArray, List.set_cons_zero, List.set_cons_succ]
      refine wpAnyH_take (i := 5) (v := .int .i64 (k : Int)) rfl (by kernel_rfl) (by kernel_rfl) (by kernel_rfl) (fun _ _ _ h => h) (Or.inl ⟨by kernel_rfl, fun w hSw => by (go_simp)⟩) hHeld ?_
      try simp only [Act.put, List.setIfInBounds_toArray, List.set_cons_zero, List.set_cons_succ]
      refine wpAnyH_take (i := 6) (v := .pointer (some ⟨g6, k, none⟩)) rfl (by kernel_rfl) (by kernel_rfl) (by kernel_rfl) (fun _ _ _ h => h) (Or.inl ⟨by kernel_rfl, fun w hSw => by (go_simp)⟩) hHeld ?_
      try simp only [Act.put, List.setIfInBounds_toArray, List.set_cons_zero, List.set_cons_succ]
      refine wpAnyH_take (i := 7) (v := .slice pv ul cv) rfl (by kernel_rfl) (by kernel_rfl) (by kernel_rfl) (fun _ _ _ h => h) (Or.inl ⟨by kernel_rfl, fun w hSw => by (have q0 := hSw.2; go_simp)⟩) hHeld ?_
      try simp only [Act.put, List.setIfInBounds_toArray, List.set_cons_zero, List.set_cons_succ]
      refine wpAnyH_ready (rs := [8]) (by kernel_rfl) (by simp) ?_
      refine AllReadyH.cons (o := _) rfl (fun K9 hK9 => ?_) AllReadyH.nil
      go_simp
      go_at_call 14
      refine (C14.out wI hkI).mono ?_
      rintro e w9 ⟨rfl, hb9⟩
      have k9 := bk_tr hkI hb9
      refine hK9.out _ _ (⟨cellBk hHeld.1 hb9, cellBk hHeld.2 hb9⟩) (fun hHeld => ?_)
      clear hK9 K9
      try simp only [Act.put, List.setIfInBounds_toArray, List.set_cons_zero, List.set_cons_succ]
      refine wpAnyH_ready (rs := [9]) (by kernel_rfl) (by simp) ?_
      refine AllReadyH.cons (o := _) rfl (fun K9 hK9 => ?_) AllReadyH.nil
      go_simp
      refine hK9.out _ _ (hHeld) (fun hHeld => ?_)
      clear hK9 K9
      try simp only [Act.put, List.setIfInBounds_toArray, List.set_cons_zero, List.set_cons_succ]
      refine wpAnyH_done (by kernel_rfl) ?_ _
      have KF := Lib.hid (bk_tr HK.out k9)
      clear hHeld hkI k9 hb9 hu5 hu6
      go_wp2_with fail
      go_roundw
      case rel => exact ⟨k + 1, by omega, by go_num, KF.out⟩
      case measure => first | (simp [intOf]; done) | (simp [intOf]; omega)
    · obtain rfl : k = A.length := by omega
      have JR := Lib.hid (bk_tr J6.out HK.out)
      have KR := Lib.hid (bk_tr K0.out JR.out)
      clear hkw
      go_upto_region 12 with (fail)
      refine wp_region_held_drew (S := fun w' => B4 w' w.heap.size (.int .i64 W) (.int .i64 R) (.slice p ins.length pc) (.slice q out.length qc) ∧ B4 w' (w.heap.size + 1) (.int .i64 W2) (.int .i64 R2) (.slice p2 ins2.length pc2) (.slice q2 out2.length qc2)) (by kernel_rfl) (⟨HB.out.keep (bk_drew JR.out), HD.out.keep (bk_drew JR.out)⟩) (fun hHeld => ?_)
      have hkI := bk_drew (BK.refl wr)
      generalize wr.drew = wI at hHeld hkI ⊢
      refine wpAnyH_take (i := 0) (v := .agg #[.int .i64 W, .int .i64 R, .slice p ins.length pc, .slice q out.length qc]) rfl (by kernel_rfl) (by kernel_rfl) (by kernel_rfl) (fun _ _ _ h => h) (Or.inl ⟨by kernel_rfl, fun w hSw => by (have q0 := hSw.1.1; have q1 := hSw.1.2.1; have q2 := hSw.1.2.2.1; have q3 := hSw.1.2.2.2; go_simp)⟩) hHeld ?_
      try simp only [Act.put, List.setIfInBounds_toArray, List.set_cons_zero, List.set_cons_succ]
      refine wpAnyH_take (i := 2) (v := .agg #[.int .i64 W2, .int .i64 R2, .slice p2 ins2.length pc2, .slice q2 out2.length qc2]) rfl (by kernel_rfl) (by kernel_rfl) (by kernel_rfl) (fun _ _ _ h => h) (Or.inl ⟨by kernel_rfl, fun w hSw => by (have q0 := hSw.2.1; have q1 := hSw.2.2.1; have q2 := hSw.2.2.2.1; have q3 := hSw.2.2.2.2; go_simp)⟩) hHeld ?_
      try simp only [Act.put, List.setIfInBounds_toArray, List.set_cons_zero, List.set_cons_succ]
      refine wpAnyH_ready (rs := [1]) (by kernel_rfl) (by simp) ?_
      refine AllReadyH.cons (o := _) rfl (fun K9 hK9 => ?_) AllReadyH.nil
      go_simp
      go_at_call 15
      refine (H15.out wI (bk_tr KR.out hkI)).mono ?_
      rintro e w7 ⟨v7, rfl, ho7, hb7⟩
      obtain ⟨p7, c7, rfl⟩ := own_shape ho7
      have k7 := bk_tr hkI hb7
      refine hK9.out _ _ (⟨hHeld.1.keep hb7, hHeld.2.keep hb7⟩) (fun hHeld => ?_)
      clear hK9 K9
      try simp only [Act.put, List.setIfInBounds_toArray, List.set_cons_zero, List.set_cons_succ]
      refine wpAnyH_ready (rs := [3]) (by kernel_rfl) (by simp) ?_
      refine AllReadyH.cons (o := _) rfl (fun K9 hK9 => ?_) AllReadyH.nil
      go_simp
      go_at_call 15
      refine (D15.out w7 (bk_tr KR.out k7)).mono ?_
      rintro e w8 ⟨v8, rfl, ho8, hb8⟩
      obtain ⟨p8, c8, rfl⟩ := own_shape ho8
      have k8 := bk_tr k7 hb8
      refine hK9.out _ _ (⟨hHeld.1.keep hb8, hHeld.2.keep hb8⟩) (fun hHeld => ?_)
      clear hK9 K9
      try simp only [Act.put, List.setIfInBounds_toArray, List.set_cons_zero, List.set_cons_succ]
      refine wpAnyH_ready (rs := [4]) (by kernel_rfl) (by simp) ?_
      refine AllReadyH.cons (o := _) rfl (fun K9 hK9 => ?_) AllReadyH.nil
      go_simp
      refine hK9.out _ _ (hHeld) (fun hHeld => ?_)
      clear hK9 K9
      try simp only [Act.put, List.setIfInBounds_toArray, List.set_cons_zero, List.set_cons_succ]
      refine wpAnyH_ready (rs := [5]) (by kernel_rfl) (by simp) ?_
      refine AllReadyH.cons (o := _) rfl (fun K9 hK9 => ?_) AllReadyH.nil
      go_simp
      refine hK9.out _ _ (hHeld) (fun hHeld => ?_)
      clear hK9 K9
      try simp only [Act.put, List.setIfInBounds_toArray, List.set_cons_zero, List.set_cons_succ]
      refine wpAnyH_done (by kernel_rfl) ?_ _
      have O7 := Lib.hid (RO.own (own_below ho7 hb8))
      have O8 := Lib.hid (RO.own ho8)
      have J8 := Lib.hid (bk_tr JR.out k8)
      have K8 := Lib.hid (bk_tr K0.out J8.out)
      clear hHeld hkI k7 k8 hb7 hb8 ho7 ho8
      obtain ⟨c0, c1, c2, c3⟩ := HB.out.keep J8.out
      go_wp2_with fail
      refine (H16.out w8 K8.out).mono ?_
      rintro e w9 ⟨v9, rfl, ho9, hb9⟩
      obtain ⟨p9, c9, rfl⟩ := own_shape ho9
      have C14 := Lib.hid (by have := same14 X X p9 p7 c9 c7 w9 (RO.own ho9) (O7.out.keep hb9) (by omega) (by omega); rw [eqL_self] at this; exact this)
      have J9 := Lib.hid (bk_tr J8.out hb9)
      have B9 := Lib.hid hb9
      clear hb9 ho9 c0 c1 c2 c3
      go_wp2_with fail
      refine C14.out.mono ?_
      rintro e w10 ⟨rfl, hb10⟩
      have B10 := Lib.hid (bk_tr B9.out hb10)
      have J10 := Lib.hid (bk_tr J9.out hb10)
      clear hb10
      obtain ⟨c0, c1, c2, c3⟩ := HB.out.keep J10.out
      obtain ⟨d0, d1, d2, d3⟩ := HD.out.keep J10.out
      go_wp2_with fail
      refine (H17.out w10 (bk_tr K0.out J10.out)).mono ?_
      rintro e w11 ⟨v11, rfl, ho11, hb11⟩
      obtain ⟨p11, c11, rfl⟩ := own_shape ho11
      have B11 := Lib.hid (bk_tr B10.out hb11)
      have J11 := Lib.hid (bk_tr J10.out hb11)
      have O11 := Lib.hid (RO.own ho11)
      have C18 := Lib.hid (both18 X Y p7 p8 c7 c8 w11 (O7.out.keep B11.out) (O8.out.keep B11.out) (by omega) (by omega))
      clear hb11 ho11 c0 c1 c2 c3 d0 d1 d2 d3
      go_wp2_with fail
      refine C18.out.mono ?_
      rintro e w12 ⟨v12, rfl, ho12, hb12⟩
      obtain ⟨p12, c12, rfl⟩ := own_shape ho12
      have D14 := Lib.hid (by have := same14 (bothL X Y 8) (bothL X Y 8) p11 p12 c11 c12 w12 (O11.out.keep hb12) (RO.own ho12) (by omega) (by omega); rw [eqL_self] at this; exact this)
      have J12 := Lib.hid (bk_tr J11.out hb12)
      clear hb12 ho12
      go_wp2_with fail
      refine D14.out.mono ?_
      rintro e w13 ⟨rfl, hb13⟩
      have J13 := Lib.hid (bk_tr J12.out hb13)
      clear hb13
      go_wp2_with fail
      refine (lives11 w13).mono ?_
      rintro e w14 ⟨rfl, hb14⟩
      have J14 := Lib.hid (bk_tr J13.out hb14)
      clear hb14
      go_wp2_with fail
      go_ret
      exact ⟨rfl, bk_tr K0.out J14.out⟩
end Go.Proofs.Ytjmmaaphadeokaa
