/- Dead of the reference. -/
import Derived.Test.YtjmmaaphadeokaaRD
import Derived.Test.YtjmmaaphadeokaaRC
import Derived.Test.YtjmmaaphadeokaaUC
namespace Go.Proofs.Ytjmmaaphadeokaa
open Go.RowKit Go.Shelf
set_option linter.unusedVariables false
set_option linter.unusedSimpArgs false
theorem hasB_live {n : Nat} {t : List I6} {out : List Int} {r : Int} (h0 : 0 ≤ r) (h1 : r < n) : hasB (liveL n t out) r = usedB t out r := by
  obtain ⟨k, rfl⟩ : ∃ k : Nat, r = k := ⟨r.toNat, by omega⟩
  cases hu : usedB t out (k : Int)
  · refine Bool.eq_false_iff.2 fun h => ?_
    have := hasB_mem.1 h
    unfold liveL at this
    simp only [List.mem_map, List.mem_filter, List.mem_range] at this
    obtain ⟨a, ⟨_, h2⟩, h3⟩ := this
    obtain rfl : a = k := by omega
    rw [hu] at h2; cases h2
  · refine hasB_mem.2 ?_
    unfold liveL
    simp only [List.mem_map, List.mem_filter, List.mem_range]
    exact ⟨k, ⟨by omega, hu⟩, rfl⟩
set_option maxRecDepth 100000 in
set_option maxHeartbeats 1000000 in
theorem dead22_no (W R : Int) (p q : Option Addr) (pc qc : Nat) (ins : List I6) (out : List Int) (w : World) (hi : RI w p pc ins) (ho : RO w q qc out) (li : ins.length ≤ 1000) (lo : out.length ≤ 1000) (x : Int) (hc : chkE W R ins out ≠ 0) : Calls Try.prog 22 #[.agg #[.int .i64 W, .int .i64 R, .slice p ins.length pc, .slice q out.length qc], .int .i64 x] w fun e w' => e = .returned (.bool false) ∧ BK w w' := by
  have b4 := b4_new w (.int .i64 W) (.int .i64 R) (.slice p ins.length pc) (.slice q out.length qc) 25
  have k0 := bk_alloc (BK.refl w) (.cells #[.int .i64 W, .int .i64 R, .slice p ins.length pc, .slice q out.length qc] 25)
  have C30 := Lib.hid (fun (wc : World) (hb : BK w wc) => rchk28 W R p q pc qc ins out wc (hi.keep hb) (ho.keep hb) li lo)
  have hn : (chkE W R ins out != 0) = true := by simpa using hc
  clear hi ho hc
  generalize chkE W R ins out = y at C30 hn
  go_enter Try.func22, Try.ntmps22
  go_upto_region 1 with (fail)
  generalize w.alloc (.cells #[.int .i64 W, .int .i64 R, .slice p ins.length pc, .slice q out.length qc] 25) = w0 at b4 k0 ⊢
  obtain ⟨c0, c1, c2, c3⟩ := b4
  have K0 := Lib.hid k0
  clear k0
  go_wp2_with fail
  refine (C30.out w0 K0.out).mono ?_
  rintro e w1 ⟨rfl, hb1⟩
  have K1 := Lib.hid (bk_tr K0.out hb1)
  clear hb1 c0 c1 c2 c3
  go_wp2_with fail
  go_ret
  exact ⟨rfl, K1.out⟩
set_option maxRecDepth 100000 in
set_option maxHeartbeats 1000000 in
theorem dead22_out (W R : Int) (p q : Option Addr) (pc qc : Nat) (ins : List I6) (out : List Int) (w : World) (hi : RI w p pc ins) (ho : RO w q qc out) (li : ins.length ≤ 1000) (lo : out.length ≤ 1000) (x : Int) (hc : chkE W R ins out = 0) (hx : x < 0 ∨ (0 ≤ x ∧ (ins.length : Int) ≤ x)) : Calls Try.prog 22 #[.agg #[.int .i64 W, .int .i64 R, .slice p ins.length pc, .slice q out.length qc], .int .i64 x] w fun e w' => e = .returned (.bool false) ∧ BK w w' := by
  have b4 := b4_new w (.int .i64 W) (.int .i64 R) (.slice p ins.length pc) (.slice q out.length qc) 25
  have k0 := bk_alloc (BK.refl w) (.cells #[.int .i64 W, .int .i64 R, .slice p ins.length pc, .slice q out.length qc] 25)
  have HB := Lib.hid b4
  have C30 := Lib.hid (fun (wc : World) (hb : BK w wc) => rchk28 W R p q pc qc ins out wc (hi.keep hb) (ho.keep hb) li lo)
  rw [hc] at C30
  clear hi ho hc
  go_enter Try.func22, Try.ntmps22
  go_upto_region 1 with (fail)
  generalize w.alloc (.cells #[.int .i64 W, .int .i64 R, .slice p ins.length pc, .slice q out.length qc] 25) = w0 at b4 k0 HB ⊢
  obtain ⟨c0, c1, c2, c3⟩ := b4
  have K0 := Lib.hid k0
  clear k0
  go_wp2_with fail
  refine (C30.out w0 K0.out).mono ?_
  rintro e w1 ⟨rfl, hb1⟩
  have K1 := Lib.hid (bk_tr K0.out hb1)
  have H1 := Lib.hid (HB.out.keep hb1)
  clear hb1 c0 c1 c2 c3
  obtain ⟨c0, c1, c2, c3⟩ := H1.out
  rcases hx with hx | ⟨hx0, hx⟩
  · go_wp2_with fail
    go_ret
    exact ⟨rfl, K1.out⟩
  · go_wp2_with fail
    go_ret
    exact ⟨rfl, K1.out⟩
set_option maxRecDepth 100000 in
set_option maxHeartbeats 2000000 in
theorem dead22_ok (W R : Int) (p q : Option Addr) (pc qc : Nat) (ins : List I6) (out : List Int) (w : World) (hi : RI w p pc ins) (ho : RO w q qc out) (hv : Vd W R ins out) (lo : out.length ≤ 20) (k : Nat) (hk : k < ins.length) : Calls Try.prog 22 #[.agg #[.int .i64 W, .int .i64 R, .slice p ins.length pc, .slice q out.length qc], .int .i64 (k : Int)] w fun e w' => e = .returned (.bool (deadB ins[k] (ins.drop (k + 1)) out)) ∧ BK w w' := by
  have li := hv.len
  have hr1 := hv.r1
  have hr2 := hv.r2
  have hri := hv.fe _ (List.getElem_mem hk)
  have hop := insE_opB hri
  have hrg := insE_regB hri
  obtain ⟨b, o, rfl, hc⟩ := hi.get k hk
  have C30 := Lib.hid (fun (wc : World) (hb : BK w wc) => (rchk28 W R (some ⟨b, o, none⟩) q pc qc ins out wc (hi.keep hb) (ho.keep hb) (by omega) (by omega)).mono (R' := fun e w' => e = .returned (.int .i64 0) ∧ BK wc w') fun e w' ⟨a, b⟩ => ⟨by rw [a, chk_zero.2 hv], b⟩)
  have C33 := Lib.hid (fun (wc : World) (hb : BK w wc) => before33 W R (some ⟨b, o, none⟩) q pc qc ins out wc (hi.keep hb) (ho.keep hb) (by omega) (by omega) (k + 1) (by omega) hr1 hr2)
  have hL : (liveL R.toNat (ins.drop (k + 1)) out).length ≤ 100000 := by have := liveL_len R.toNat (ins.drop (k + 1)) out; omega
  have hD : deadB ins[k] (ins.drop (k + 1)) out = (decide (ins[k].op = 0) || !(hasB (liveL R.toNat (ins.drop (k + 1)) out) ins[k].dst)) := by
    unfold deadB
    have ho2 : 0 ≤ ins[k].op ∧ ins[k].op ≤ 19 := by simpa [opB] using hop
    by_cases h0 : ins[k].op = 0
    · simp [h0, dfB]
    · have hd : dfB ins[k].op = true := by simp [dfB]; omega
      obtain ⟨d0, d1⟩ := dst_in hrg hd
      rw [hasB_live d0 (by omega)]
      simp [h0, hd]
  rw [hD]
  have b4 := b4_new w (.int .i64 W) (.int .i64 R) (.slice (some ⟨b, o, none⟩) ins.length pc) (.slice q out.length qc) 25
  have k0 := bk_alloc (BK.refl w) (.cells #[.int .i64 W, .int .i64 R, .slice (some ⟨b, o, none⟩) ins.length pc, .slice q out.length qc] 25)
  have AC := Lib.hid hc
  have hi1 : (k : Int) < ins.length := by omega
  clear hi ho hc hri hv hD hop hrg
  generalize ins[k] = i at AC ⊢
  generalize liveL R.toNat (ins.drop (k + 1)) out = L at C33 hL ⊢
  generalize hDD : (decide (i.op = 0) || !(hasB L i.dst)) = D
  have HDD := Lib.hid hDD
  clear hDD
  have AC := Lib.hid (fun (wc : World) (hb : BK w wc) => AC.out.keep hb)
  go_enter Try.func22, Try.ntmps22
  go_upto_region 1 with (fail)
  generalize w.alloc (.cells #[.int .i64 W, .int .i64 R, .slice (some ⟨b, o, none⟩) ins.length pc, .slice q out.length qc] 25) = w0 at b4 k0 ⊢
  obtain ⟨c0, c1, c2, c3⟩ := b4
  have B0 := Lib.hid (show B4 w0 w.heap.size (.int .i64 W) (.int .i64 R) (.slice (some ⟨b, o, none⟩) ins.length pc) (.slice q out.length qc) from ⟨c0, c1, c2, c3⟩)
  have K0 := Lib.hid k0
  clear k0
  go_wp2_with fail
  refine (C30.out w0 K0.out).mono ?_
  rintro e w2 ⟨rfl, hb1⟩
  have K2 := Lib.hid (bk_tr K0.out hb1)
  have B6 := Lib.hid (B0.out.keep (bk_drew hb1))
  have A6' := Lib.hid (AC.out _ (bk_drew K2.out))
  have C33 := Lib.hid (fun (wc : World) (hb : BK w2 wc) => C33.out wc (bk_tr K2.out hb))
  clear c0 c1 c2 c3
  obtain ⟨c0, c1, c2, c3⟩ := B0.out.keep hb1
  have ei : IntKind.i64.wrap ((k : Int) + 1) = (k : Int) + 1 := IntWalk.i64_in _ (by omega)
  have e0 : (0 : Int) ≤ (k : Int) + 1 := by omega
  have e1 : ((k : Int) + 1).toNat = k + 1 := by omega
  clear hb1
  go_upto_region 3 with (fail)
  clear c0 c1 c2 c3
  by_cases h0 : i.op = 0
  · have h1 : (i.op == 0) = true := by simpa using h0
    refine wp_region_held_drew (S := fun w' => B4 w' w.heap.size (.int .i64 W) (.int .i64 R) (.slice (some ⟨b, o, none⟩) ins.length pc) (.slice q out.length qc) ∧ A6 w' b (o + k * 6) i) (by kernel_rfl) (⟨B6.out, A6'.out⟩) (fun hHeld => ?_)
    have hkI := bk_drew (BK.refl w2)
    generalize w2.drew = wI at hHeld hkI ⊢
    refine wpAnyH_take (i := 0) (v := .pointer (some ⟨w.heap.size, 2, none⟩)) rfl (by kernel_rfl) (by kernel_rfl) (by kernel_rfl) (fun _ _ _ h => h) (Or.inl ⟨by kernel_rfl, fun w hSw => by (go_simp)⟩) hHeld ?_
    try simp only [Act.put, List.setIfInBounds_toArray, List.set_cons_zero, List.set_cons_succ]
    refine wpAnyH_take (i := 1) (v := .slice (some ⟨b, o, none⟩) ins.length pc) rfl (by kernel_rfl) (by kernel_rfl) (by kernel_rfl) (fun _ _ _ h => h) (Or.inl ⟨by kernel_rfl, fun w hSw => by (obtain ⟨⟨q0, q1, q2, q3⟩, q4⟩ := hSw; go_simp)⟩) hHeld ?_
    try simp only [Act.put, List.setIfInBounds_toArray, List.set_cons_zero, List.set_cons_succ]
    refine wpAnyH_take (i := 2) (v := .int .i64 (k : Int)) rfl (by kernel_rfl) (by kernel_rfl) (by kernel_rfl) (fun _ _ _ h => h) (Or.inl ⟨by kernel_rfl, fun w hSw => by (go_simp)⟩) hHeld ?_
    try simp only [Act.put, List.setIfInBounds_toArray, List.set_cons_zero, List.set_cons_succ]
    refine wpAnyH_take (i := 3) (v := .pointer (some ⟨b, o + k * 6, none⟩)) rfl (by kernel_rfl) (by kernel_rfl) (by kernel_rfl) (fun _ _ _ h => h) (Or.inl ⟨by kernel_rfl, fun w hSw => by (go_simp)⟩) hHeld ?_
    try simp only [Act.put, List.setIfInBounds_toArray, List.set_cons_zero, List.set_cons_succ]
    refine wpAnyH_take (i := 4) (v := .pointer (some ⟨b, o + k * 6, none⟩)) rfl (by kernel_rfl) (by kernel_rfl) (by kernel_rfl) (fun _ _ _ h => h) (Or.inl ⟨by kernel_rfl, fun w hSw => by (go_simp)⟩) hHeld ?_
    try simp only [Act.put, List.setIfInBounds_toArray, List.set_cons_zero, List.set_cons_succ]
    refine wpAnyH_take (i := 5) (v := .int .i64 i.op) rfl (by kernel_rfl) (by kernel_rfl) (by kernel_rfl) (fun _ _ _ h => h) (Or.inl ⟨by kernel_rfl, fun w hSw => by (obtain ⟨q0, q1, q2, q3, q4, q5⟩ := hSw.2; go_simp)⟩) hHeld ?_
    try simp only [Act.put, List.setIfInBounds_toArray, List.set_cons_zero, List.set_cons_succ]
    refine wpAnyH_take (i := 6) (v := .bool true) rfl (by kernel_rfl) (by kernel_rfl) (by kernel_rfl) (fun _ _ _ h => h) (Or.inl ⟨by kernel_rfl, fun w hSw => by (go_simp)⟩) hHeld ?_
    try simp only [Act.put, List.setIfInBounds_toArray, List.set_cons_zero, List.set_cons_succ]
    refine wpAnyH_take (i := 7) (v := .bool true) rfl (by kernel_rfl) (by kernel_rfl) (by kernel_rfl) (fun _ _ _ h => h) (Or.inl ⟨by kernel_rfl, fun w hSw => by (go_simp)⟩) hHeld ?_
    try simp only [Act.put, List.setIfInBounds_toArray, List.set_cons_zero, List.set_cons_succ]
    refine wpAnyH_take (i := 8) (v := undef) rfl (by kernel_rfl) (by kernel_rfl) (by kernel_rfl) (fun _ _ _ h => h) (Or.inr ⟨by kernel_rfl, rfl⟩) hHeld ?_
    try simp only [Act.put, List.setIfInBounds_toArray, List.set_cons_zero, List.set_cons_succ]
    refine wpAnyH_take (i := 9) (v := undef) rfl (by kernel_rfl) (by kernel_rfl) (by kernel_rfl) (fun _ _ _ h => h) (Or.inr ⟨by kernel_rfl, rfl⟩) hHeld ?_
    try simp only [Act.put, List.setIfInBounds_toArray, List.set_cons_zero, List.set_cons_succ]
    refine wpAnyH_take (i := 10) (v := undef) rfl (by kernel_rfl) (by kernel_rfl) (by kernel_rfl) (fun _ _ _ h => h) (Or.inr ⟨by kernel_rfl, rfl⟩) hHeld ?_
    try simp only [Act.put, List.setIfInBounds_toArray, List.set_cons_zero, List.set_cons_succ]
    refine wpAnyH_take (i := 11) (v := undef) rfl (by kernel_rfl) (by kernel_rfl) (by kernel_rfl) (fun _ _ _ h => h) (Or.inr ⟨by kernel_rfl, rfl⟩) hHeld ?_
    try simp only [Act.put, List.setIfInBounds_toArray, List.set_cons_zero, List.set_cons_succ]
    refine wpAnyH_take (i := 12) (v := undef) rfl (by kernel_rfl) (by kernel_rfl) (by kernel_rfl) (fun _ _ _ h => h) (Or.inr ⟨by kernel_rfl, rfl⟩) hHeld ?_
    try simp only [Act.put, List.setIfInBounds_toArray, List.set_cons_zero, List.set_cons_succ]
    refine wpAnyH_take (i := 13) (v := undef) rfl (by kernel_rfl) (by kernel_rfl) (by kernel_rfl) (fun _ _ _ h => h) (Or.inr ⟨by kernel_rfl, rfl⟩) hHeld ?_
    try simp only [Act.put, List.setIfInBounds_toArray, List.set_cons_zero, List.set_cons_succ]
    refine wpAnyH_take (i := 14) (v := undef) rfl (by kernel_rfl) (by kernel_rfl) (by kernel_rfl) (fun _ _ _ h => h) (Or.inr ⟨by kernel_rfl, rfl⟩) hHeld ?_
    try simp only [Act.put, List.setIfInBounds_toArray, List.set_cons_zero, List.set_cons_succ]
    refine wpAnyH_take (i := 15) (v := undef) rfl (by kernel_rfl) (by kernel_rfl) (by kernel_rfl) (fun _ _ _ h => h) (Or.inr ⟨by kernel_rfl, rfl⟩) hHeld ?_
    try simp only [Act.put, List.setIfInBounds_toArray, List.set_cons_zero, List.set_cons_succ]
    refine wpAnyH_take (i := 16) (v := undef) rfl (by kernel_rfl) (by kernel_rfl) (by kernel_rfl) (fun _ _ _ h => h) (Or.inr ⟨by kernel_rfl, rfl⟩) hHeld ?_
    try simp only [Act.put, List.setIfInBounds_toArray, List.set_cons_zero, List.set_cons_succ]
    refine wpAnyH_take (i := 17) (v := undef) rfl (by kernel_rfl) (by kernel_rfl) (by kernel_rfl) (fun _ _ _ h => h) (Or.inr ⟨by kernel_rfl, rfl⟩) hHeld ?_
    try simp only [Act.put, List.setIfInBounds_toArray, List.set_cons_zero, List.set_cons_succ]
    refine wpAnyH_take (i := 18) (v := undef) rfl (by kernel_rfl) (by kernel_rfl) (by kernel_rfl) (fun _ _ _ h => h) (Or.inr ⟨by kernel_rfl, rfl⟩) hHeld ?_
    try simp only [Act.put, List.setIfInBounds_toArray, List.set_cons_zero, List.set_cons_succ]
    refine wpAnyH_take (i := 19) (v := undef) rfl (by kernel_rfl) (by kernel_rfl) (by kernel_rfl) (fun _ _ _ h => h) (Or.inr ⟨by kernel_rfl, rfl⟩) hHeld ?_
    try simp only [Act.put, List.setIfInBounds_toArray, List.set_cons_zero, List.set_cons_succ]
    refine wpAnyH_ready (rs := [20]) (by kernel_rfl) (by simp) ?_
    refine AllReadyH.cons (o := _) rfl (fun K9 hK9 => ?_) AllReadyH.nil
    go_simp
    refine hK9.out _ _ (hHeld) (fun hHeld => ?_)
    clear hK9 K9
    try simp only [Act.put, List.setIfInBounds_toArray, List.set_cons_zero, List.set_cons_succ]
    refine wpAnyH_ready (rs := [21]) (by kernel_rfl) (by simp) ?_
    refine AllReadyH.cons (o := _) rfl (fun K9 hK9 => ?_) AllReadyH.nil
    go_simp
    refine hK9.out _ _ (hHeld) (fun hHeld => ?_)
    clear hK9 K9
    try simp only [Act.put, List.setIfInBounds_toArray, List.set_cons_zero, List.set_cons_succ]
    refine wpAnyH_done (by kernel_rfl) ?_ _
    have KF := Lib.hid (bk_tr K2.out hkI)
    clear hkI hHeld ei e0 e1
    go_wp2_with fail
    go_ret
    exact ⟨by rw [← HDD.out]; simp [h0], KF.out⟩
  · have h1 : (i.op == 0) = false := by simpa using h0
    refine wp_region_held_drew (S := fun w' => B4 w' w.heap.size (.int .i64 W) (.int .i64 R) (.slice (some ⟨b, o, none⟩) ins.length pc) (.slice q out.length qc) ∧ A6 w' b (o + k * 6) i) (by kernel_rfl) (⟨B6.out, A6'.out⟩) (fun hHeld => ?_)
    have hkI := bk_drew (BK.refl w2)
    generalize w2.drew = wI at hHeld hkI ⊢
    refine wpAnyH_take (i := 0) (v := .pointer (some ⟨w.heap.size, 2, none⟩)) rfl (by kernel_rfl) (by kernel_rfl) (by kernel_rfl) (fun _ _ _ h => h) (Or.inl ⟨by kernel_rfl, fun w hSw => by (go_simp)⟩) hHeld ?_
    try simp only [Act.put, List.setIfInBounds_toArray, List.set_cons_zero, List.set_cons_succ]
    refine wpAnyH_take (i := 1) (v := .slice (some ⟨b, o, none⟩) ins.length pc) rfl (by kernel_rfl) (by kernel_rfl) (by kernel_rfl) (fun _ _ _ h => h) (Or.inl ⟨by kernel_rfl, fun w hSw => by (obtain ⟨⟨q0, q1, q2, q3⟩, q4⟩ := hSw; go_simp)⟩) hHeld ?_
    try simp only [Act.put, List.setIfInBounds_toArray, List.set_cons_zero, List.set_cons_succ]
    refine wpAnyH_take (i := 2) (v := .int .i64 (k : Int)) rfl (by kernel_rfl) (by kernel_rfl) (by kernel_rfl) (fun _ _ _ h => h) (Or.inl ⟨by kernel_rfl, fun w hSw => by (go_simp)⟩) hHeld ?_
    try simp only [Act.put, List.setIfInBounds_toArray, List.set_cons_zero, List.set_cons_succ]
    refine wpAnyH_take (i := 3) (v := .pointer (some ⟨b, o + k * 6, none⟩)) rfl (by kernel_rfl) (by kernel_rfl) (by kernel_rfl) (fun _ _ _ h => h) (Or.inl ⟨by kernel_rfl, fun w hSw => by (go_simp)⟩) hHeld ?_
    try simp only [Act.put, List.setIfInBounds_toArray, List.set_cons_zero, List.set_cons_succ]
    refine wpAnyH_take (i := 4) (v := .pointer (some ⟨b, o + k * 6, none⟩)) rfl (by kernel_rfl) (by kernel_rfl) (by kernel_rfl) (fun _ _ _ h => h) (Or.inl ⟨by kernel_rfl, fun w hSw => by (go_simp)⟩) hHeld ?_
    try simp only [Act.put, List.setIfInBounds_toArray, List.set_cons_zero, List.set_cons_succ]
    refine wpAnyH_take (i := 5) (v := .int .i64 i.op) rfl (by kernel_rfl) (by kernel_rfl) (by kernel_rfl) (fun _ _ _ h => h) (Or.inl ⟨by kernel_rfl, fun w hSw => by (obtain ⟨q0, q1, q2, q3, q4, q5⟩ := hSw.2; go_simp)⟩) hHeld ?_
    try simp only [Act.put, List.setIfInBounds_toArray, List.set_cons_zero, List.set_cons_succ]
    refine wpAnyH_take (i := 6) (v := .bool false) rfl (by kernel_rfl) (by kernel_rfl) (by kernel_rfl) (fun _ _ _ h => h) (Or.inl ⟨by kernel_rfl, fun w hSw => by (go_simp)⟩) hHeld ?_
    try simp only [Act.put, List.setIfInBounds_toArray, List.set_cons_zero, List.set_cons_succ]
    refine wpAnyH_take (i := 7) (v := .bool false) rfl (by kernel_rfl) (by kernel_rfl) (by kernel_rfl) (fun _ _ _ h => h) (Or.inl ⟨by kernel_rfl, fun w hSw => by (go_simp)⟩) hHeld ?_
    try simp only [Act.put, List.setIfInBounds_toArray, List.set_cons_zero, List.set_cons_succ]
    refine wpAnyH_take (i := 8) (v := .agg #[.int .i64 W, .int .i64 R, .slice (some ⟨b, o, none⟩) ins.length pc, .slice q out.length qc]) rfl (by kernel_rfl) (by kernel_rfl) (by kernel_rfl) (fun _ _ _ h => h) (Or.inl ⟨by kernel_rfl, fun w hSw => by (obtain ⟨⟨q0, q1, q2, q3⟩, q4⟩ := hSw; go_simp)⟩) hHeld ?_
    try simp only [Act.put, List.setIfInBounds_toArray, List.set_cons_zero, List.set_cons_succ]
    refine wpAnyH_take (i := 9) (v := .int .i64 (k : Int)) rfl (by kernel_rfl) (by kernel_rfl) (by kernel_rfl) (fun _ _ _ h => h) (Or.inl ⟨by kernel_rfl, fun w hSw => by (go_simp)⟩) hHeld ?_
    try simp only [Act.put, List.setIfInBounds_toArray, List.set_cons_zero, List.set_cons_succ]
    refine wpAnyH_take (i := 10) (v := .int .i64 ((k : Int) + 1)) rfl (by kernel_rfl) (by kernel_rfl) (by kernel_rfl) (fun _ _ _ h => h) (Or.inl ⟨by kernel_rfl, fun w hSw => by (go_simp)⟩) hHeld ?_
    try simp only [Act.put, List.setIfInBounds_toArray, List.set_cons_zero, List.set_cons_succ]
    refine wpAnyH_take (i := 12) (v := .pointer (some ⟨w.heap.size, 2, none⟩)) rfl (by kernel_rfl) (by kernel_rfl) (by kernel_rfl) (fun _ _ _ h => h) (Or.inl ⟨by kernel_rfl, fun w hSw => by (go_simp)⟩) hHeld ?_
    try simp only [Act.put, List.setIfInBounds_toArray, List.set_cons_zero, List.set_cons_succ]
    refine wpAnyH_take (i := 13) (v := .slice (some ⟨b, o, none⟩) ins.length pc) rfl (by kernel_rfl) (by kernel_rfl) (by kernel_rfl) (fun _ _ _ h => h) (Or.inl ⟨by kernel_rfl, fun w hSw => by (obtain ⟨⟨q0, q1, q2, q3⟩, q4⟩ := hSw; go_simp)⟩) hHeld ?_
    try simp only [Act.put, List.setIfInBounds_toArray, List.set_cons_zero, List.set_cons_succ]
    refine wpAnyH_take (i := 14) (v := .int .i64 (k : Int)) rfl (by kernel_rfl) (by kernel_rfl) (by kernel_rfl) (fun _ _ _ h => h) (Or.inl ⟨by kernel_rfl, fun w hSw => by (go_simp)⟩) hHeld ?_
    try simp only [Act.put, List.setIfInBounds_toArray, List.set_cons_zero, List.set_cons_succ]
    refine wpAnyH_take (i := 15) (v := .pointer (some ⟨b, o + k * 6, none⟩)) rfl (by kernel_rfl) (by kernel_rfl) (by kernel_rfl) (fun _ _ _ h => h) (Or.inl ⟨by kernel_rfl, fun w hSw => by (go_simp)⟩) hHeld ?_
    try simp only [Act.put, List.setIfInBounds_toArray, List.set_cons_zero, List.set_cons_succ]
    refine wpAnyH_take (i := 16) (v := .pointer (some ⟨b, o + k * 6 + 1, none⟩)) rfl (by kernel_rfl) (by kernel_rfl) (by kernel_rfl) (fun _ _ _ h => h) (Or.inl ⟨by kernel_rfl, fun w hSw => by (go_simp)⟩) hHeld ?_
    try simp only [Act.put, List.setIfInBounds_toArray, List.set_cons_zero, List.set_cons_succ]
    refine wpAnyH_take (i := 17) (v := .int .i64 i.dst) rfl (by kernel_rfl) (by kernel_rfl) (by kernel_rfl) (fun _ _ _ h => h) (Or.inl ⟨by kernel_rfl, fun w hSw => by (have q1 := hSw.2.2.1; go_simp)⟩) hHeld ?_
    try simp only [Act.put, List.setIfInBounds_toArray, List.set_cons_zero, List.set_cons_succ]
    refine wpAnyH_ready (rs := [11]) (by kernel_rfl) (by simp) ?_
    refine AllReadyH.cons (o := _) rfl (fun K9 hK9 => ?_) AllReadyH.nil
    go_simp
    go_at_call 33
    refine (C33.out wI hkI).mono ?_
    rintro e w7 ⟨v7, rfl, ho7, hb7⟩
    obtain ⟨p', c', rfl⟩ := own_shape ho7
    have k7 := bk_tr hkI hb7
    have C35 := Lib.hid (has35 L i.dst p' c' w7 (RO.own ho7) hL)
    refine hK9.out _ _ (⟨hHeld.1.keep hb7, hHeld.2.keep hb7⟩) (fun hHeld => ?_)
    clear hK9 K9
    try simp only [Act.put, List.setIfInBounds_toArray, List.set_cons_zero, List.set_cons_succ]
    refine wpAnyH_ready (rs := [18]) (by kernel_rfl) (by simp) ?_
    refine AllReadyH.cons (o := _) rfl (fun K9 hK9 => ?_) AllReadyH.nil
    go_simp
    go_at_call 35
    refine C35.out.mono ?_
    rintro e w8 ⟨rfl, rfl⟩
    refine hK9.out _ _ (hHeld) (fun hHeld => ?_)
    clear hK9 K9
    try simp only [Act.put, List.setIfInBounds_toArray, List.set_cons_zero, List.set_cons_succ]
    refine wpAnyH_ready (rs := [19]) (by kernel_rfl) (by simp) ?_
    refine AllReadyH.cons (o := _) rfl (fun K9 hK9 => ?_) AllReadyH.nil
    go_simp
    refine hK9.out _ _ (hHeld) (fun hHeld => ?_)
    clear hK9 K9
    try simp only [Act.put, List.setIfInBounds_toArray, List.set_cons_zero, List.set_cons_succ]
    refine wpAnyH_ready (rs := [20]) (by kernel_rfl) (by simp) ?_
    refine AllReadyH.cons (o := _) rfl (fun K9 hK9 => ?_) AllReadyH.nil
    go_simp
    refine hK9.out _ _ (hHeld) (fun hHeld => ?_)
    clear hK9 K9
    try simp only [Act.put, List.setIfInBounds_toArray, List.set_cons_zero, List.set_cons_succ]
    refine wpAnyH_ready (rs := [21]) (by kernel_rfl) (by simp) ?_
    refine AllReadyH.cons (o := _) rfl (fun K9 hK9 => ?_) AllReadyH.nil
    go_simp
    refine hK9.out _ _ (hHeld) (fun hHeld => ?_)
    clear hK9 K9
    try simp only [Act.put, List.setIfInBounds_toArray, List.set_cons_zero, List.set_cons_succ]
    refine wpAnyH_done (by kernel_rfl) ?_ _
    have KF := Lib.hid (bk_tr K2.out k7)
    clear k7 hkI hHeld ei e0 e1
    go_wp2_with fail
    go_ret
    exact ⟨by rw [← HDD.out]; simp [h0], KF.out⟩
theorem dead22 (W R : Int) (p q : Option Addr) (pc qc : Nat) (ins : List I6) (out : List Int) (w : World) (hi : RI w p pc ins) (ho : RO w q qc out) (li : ins.length ≤ 300) (lo : out.length ≤ 20) (x : Int) : Calls Try.prog 22 #[.agg #[.int .i64 W, .int .i64 R, .slice p ins.length pc, .slice q out.length qc], .int .i64 x] w fun e w' => e = .returned (.bool (deadAt W R ins out x)) ∧ BK w w' := by
  by_cases hc : chkE W R ins out = 0
  · by_cases h0 : x < 0 ∨ (0 ≤ x ∧ (ins.length : Int) ≤ x)
    · rw [show deadAt W R ins out x = false from dif_neg (by omega)]; exact dead22_out W R p q pc qc ins out w hi ho (by omega) (by omega) x hc h0
    · obtain ⟨k, rfl⟩ : ∃ k : Nat, x = k := ⟨x.toNat, by omega⟩
      rw [show deadAt W R ins out (k : Int) = deadB (ins[k]'(by omega)) (ins.drop (k + 1)) out from dif_pos ⟨hc, by omega, by omega⟩]
      exact dead22_ok W R p q pc qc ins out w hi ho (chk_zero.1 hc) lo k (by omega)
  · rw [show deadAt W R ins out x = false from dif_neg (by rintro ⟨h, _⟩; exact hc h)]; exact dead22_no W R p q pc qc ins out w hi ho (by omega) (by omega) x hc
end Go.Proofs.Ytjmmaaphadeokaa
