/- Dead and Inputs. -/
import Derived.Test.YtjmmaaphadeokaaUB
namespace Go.Proofs.Ytjmmaaphadeokaa
open Go.RowKit Go.Shelf
set_option linter.unusedVariables false
set_option linter.unusedSimpArgs false
set_option maxRecDepth 100000 in
set_option maxHeartbeats 1000000 in
theorem dead21_lo (W R : Int) (p q : Option Addr) (pc qc n m : Nat) (x : Int) (w : World) (hx : x < 0) : Calls Try.prog 21 #[.agg #[.int .i64 W, .int .i64 R, .slice p n pc, .slice q m qc], .int .i64 x] w fun e w' => e = .returned (.bool false) ∧ BK w w' := by
  have HK := Lib.hid (bk_alloc (BK.refl w) (.cells #[.int .i64 W, .int .i64 R, .slice p n pc, .slice q m qc] 25))
  go_enter Try.func21, Try.ntmps21
  go_wp2_with fail
  go_ret
  exact ⟨rfl, HK.out⟩
set_option maxRecDepth 100000 in
set_option maxHeartbeats 1000000 in
theorem dead21_hi (W R : Int) (p q : Option Addr) (pc qc n m : Nat) (x : Int) (w : World) (h0 : 0 ≤ x) (hx : (n : Int) ≤ x) : Calls Try.prog 21 #[.agg #[.int .i64 W, .int .i64 R, .slice p n pc, .slice q m qc], .int .i64 x] w fun e w' => e = .returned (.bool false) ∧ BK w w' := by
  have HK := Lib.hid (bk_alloc (BK.refl w) (.cells #[.int .i64 W, .int .i64 R, .slice p n pc, .slice q m qc] 25))
  go_enter Try.func21, Try.ntmps21
  go_wp2_with fail
  go_ret
  exact ⟨rfl, HK.out⟩
set_option maxRecDepth 100000 in
set_option maxHeartbeats 1000000 in
theorem dead21_no (W R : Int) (p q : Option Addr) (pc qc : Nat) (ins : List I6) (out : List Int) (w : World) (hi : RI w p pc ins) (ho : RO w q qc out) (li : ins.length ≤ 1000) (lo : out.length ≤ 1000) (x : Int) (h0 : 0 ≤ x) (hx : x < ins.length) (hc : chkE W R ins out ≠ 0) : Calls Try.prog 21 #[.agg #[.int .i64 W, .int .i64 R, .slice p ins.length pc, .slice q out.length qc], .int .i64 x] w fun e w' => e = .returned (.bool false) ∧ BK w w' := by
  have b4 := b4_new w (.int .i64 W) (.int .i64 R) (.slice p ins.length pc) (.slice q out.length qc) 25
  have k0 := bk_alloc (BK.refl w) (.cells #[.int .i64 W, .int .i64 R, .slice p ins.length pc, .slice q out.length qc] 25)
  have C30 := Lib.hid (fun (wc : World) (hb : BK w wc) => chk30 W R p q pc qc ins out wc (hi.keep hb) (ho.keep hb) li lo)
  have hn : (chkE W R ins out != 0) = true := by simpa using hc
  clear hi ho hc
  generalize chkE W R ins out = y at C30 hn
  go_enter Try.func21, Try.ntmps21
  go_upto_region 1 with (fail)
  generalize w.alloc (.cells #[.int .i64 W, .int .i64 R, .slice p ins.length pc, .slice q out.length qc] 25) = w0 at b4 k0 ⊢
  obtain ⟨c0, c1, c2, c3⟩ := b4
  have K0 := Lib.hid k0
  clear k0
  go_wp2_with fail
  refine (C30.out w0 K0.out).mono ?_
  rintro e w1 ⟨rfl, hb1⟩
  have K1 := Lib.hid (bk_tr K0.out hb1)
  clear hb1 c0 c1 c2 c3
  go_wp2_with fail
  go_ret
  exact ⟨rfl, K1.out⟩
set_option maxRecDepth 100000 in
set_option maxHeartbeats 2000000 in
theorem dead21_ok (W R : Int) (p q : Option Addr) (pc qc : Nat) (ins : List I6) (out : List Int) (w : World) (hi : RI w p pc ins) (ho : RO w q qc out) (hv : Vd W R ins out) (lo : out.length ≤ 20) (k : Nat) (hk : k < ins.length) : Calls Try.prog 21 #[.agg #[.int .i64 W, .int .i64 R, .slice p ins.length pc, .slice q out.length qc], .int .i64 (k : Int)] w fun e w' => e = .returned (.bool (deadB ins[k] (ins.drop (k + 1)) out)) ∧ BK w w' := by
  obtain ⟨hreg, hin⟩ := valid_reg hv
  have li := hv.len
  have hri := hreg _ (List.getElem_mem hk)
  have C38 := Lib.hid (fun wc => by have := dead38 ins[k] (lvL (ins.drop (k + 1)) out) wc (lvL_len _ _) hri; rw [deadS_lv _ _ _ hri] at this; exact this)
  obtain ⟨b, o, rfl, hc⟩ := hi.get k hk
  have C31 := Lib.hid (fun (wc : World) (hb : BK w wc) => between31 W R (some ⟨b, o, none⟩) q pc qc ins out wc (hi.keep hb) (ho.keep hb) li (by omega) hin hreg)
  have C30 := Lib.hid (fun (wc : World) (hb : BK w wc) => (chk30 W R (some ⟨b, o, none⟩) q pc qc ins out wc (hi.keep hb) (ho.keep hb) (by omega) (by omega)).mono (R' := fun e w' => e = .returned (.int .i64 0) ∧ BK wc w') fun e w' ⟨a, b⟩ => ⟨by rw [a, chk_zero.2 hv], b⟩)
  have b4 := b4_new w (.int .i64 W) (.int .i64 R) (.slice (some ⟨b, o, none⟩) ins.length pc) (.slice q out.length qc) 25
  have k0 := bk_alloc (BK.refl w) (.cells #[.int .i64 W, .int .i64 R, .slice (some ⟨b, o, none⟩) ins.length pc, .slice q out.length qc] 25)
  have AC := Lib.hid hc
  have hi0 : (0 : Int) ≤ k := by omega
  have hi1 : (k : Int) < ins.length := by omega
  clear hi ho hc hreg hin hri hv
  generalize ins[k] = i at C38 AC ⊢
  generalize deadB i (ins.drop (k + 1)) out = D at C38 ⊢
  go_enter Try.func21, Try.ntmps21
  go_upto_region 1 with (fail)
  generalize w.alloc (.cells #[.int .i64 W, .int .i64 R, .slice (some ⟨b, o, none⟩) ins.length pc, .slice q out.length qc] 25) = w0 at b4 k0 ⊢
  obtain ⟨c0, c1, c2, c3⟩ := b4
  have B0 := Lib.hid (show B4 w0 w.heap.size (.int .i64 W) (.int .i64 R) (.slice (some ⟨b, o, none⟩) ins.length pc) (.slice q out.length qc) from ⟨c0, c1, c2, c3⟩)
  have K0 := Lib.hid k0
  clear k0
  go_wp2_with fail
  refine (C30.out w0 K0.out).mono ?_
  rintro e w2 ⟨rfl, hb1⟩
  have K2 := Lib.hid (bk_tr K0.out hb1)
  have B6 := Lib.hid (B0.out.keep (bk_drew hb1))
  have A6' := Lib.hid (AC.out.keep (bk_drew K2.out))
  have C31 := Lib.hid (fun (wc : World) (hb : BK w2 wc) => C31.out wc (bk_tr K2.out hb))
  have C38 := Lib.hid (fun wc => show Calls Try.prog 38 #[.agg #[.int .i64 i.op, .int .i64 i.dst, .int .i64 i.a, .int .i64 i.b, .int .i64 i.c, .int .u64 i.imm], .agg (bs (lvL (ins.drop (k + 1)) out)).toArray] wc (fun e w' => e = .returned (.bool D) ∧ BK wc w') from C38.out wc)
  have hi2 : (k : Int) < (ins.length : Int) + 1 := by omega
  have ei : IntKind.i64.wrap ((k : Int) + 1) = (k : Int) + 1 := IntWalk.i64_in _ (by omega)
  have e0 : (0 : Int) ≤ (k : Int) + 1 := by omega
  have e1 : ((k : Int) + 1).toNat = k + 1 := by omega
  clear hb1 c0 c1 c2 c3
  go_upto_region 3 with (fail)
  refine wp_region_held_drew (S := fun w' => B4 w' w.heap.size (.int .i64 W) (.int .i64 R) (.slice (some ⟨b, o, none⟩) ins.length pc) (.slice q out.length qc) ∧ A6 w' b (o + k * 6) i) (by kernel_rfl) (⟨B6.out, A6'.out⟩) (fun hHeld => ?_)
  have hkI := bk_drew (BK.refl w2)
  generalize w2.drew = wI at hHeld hkI ⊢
  refine wpAnyH_take (i := 0) (v := .pointer (some ⟨w.heap.size, 2, none⟩)) rfl (by kernel_rfl) (by kernel_rfl) (by kernel_rfl) (fun _ _ _ h => h) (Or.inl ⟨by kernel_rfl, fun w hSw => by (go_simp)⟩) hHeld ?_
  try simp only [Act.put, List.setIfInBounds_toArray, List.set_cons_zero, List.set_cons_succ]
  refine wpAnyH_take (i := 1) (v := .slice (some ⟨b, o, none⟩) ins.length pc) rfl (by kernel_rfl) (by kernel_rfl) (by kernel_rfl) (fun _ _ _ h => h) (Or.inl ⟨by kernel_rfl, fun w hSw => by (obtain ⟨⟨q0, q1, q2, q3⟩, q4⟩ := hSw; go_simp)⟩) hHeld ?_
  try simp only [Act.put, List.setIfInBounds_toArray, List.set_cons_zero, List.set_cons_succ]
  refine wpAnyH_take (i := 2) (v := .int .i64 (k : Int)) rfl (by kernel_rfl) (by kernel_rfl) (by kernel_rfl) (fun _ _ _ h => h) (Or.inl ⟨by kernel_rfl, fun w hSw => by (go_simp)⟩) hHeld ?_
  try simp only [Act.put, List.setIfInBounds_toArray, List.set_cons_zero, List.set_cons_succ]
  refine wpAnyH_take (i := 3) (v := .pointer (some ⟨b, o + k * 6, none⟩)) rfl (by kernel_rfl) (by kernel_rfl) (by kernel_rfl) (fun _ _ _ h => h) (Or.inl ⟨by kernel_rfl, fun w hSw => by (go_simp)⟩) hHeld ?_
  try simp only [Act.put, List.setIfInBounds_toArray, List.set_cons_zero, List.set_cons_succ]
  refine wpAnyH_take (i := 4) (v := .agg #[.int .i64 i.op, .int .i64 i.dst, .int .i64 i.a, .int .i64 i.b, .int .i64 i.c, .int .u64 i.imm]) rfl (by kernel_rfl) (by kernel_rfl) (by kernel_rfl) (fun _ _ _ h => h) (Or.inl ⟨by kernel_rfl, fun w hSw => by (obtain ⟨q0, q1, q2, q3, q4, q5⟩ := hSw.2; go_simp)⟩) hHeld ?_
  try simp only [Act.put, List.setIfInBounds_toArray, List.set_cons_zero, List.set_cons_succ]
  refine wpAnyH_take (i := 5) (v := .agg #[.int .i64 W, .int .i64 R, .slice (some ⟨b, o, none⟩) ins.length pc, .slice q out.length qc]) rfl (by kernel_rfl) (by kernel_rfl) (by kernel_rfl) (fun _ _ _ h => h) (Or.inl ⟨by kernel_rfl, fun w hSw => by (obtain ⟨⟨q0, q1, q2, q3⟩, q4⟩ := hSw; go_simp)⟩) hHeld ?_
  try simp only [Act.put, List.setIfInBounds_toArray, List.set_cons_zero, List.set_cons_succ]
  refine wpAnyH_take (i := 7) (v := .int .i64 (k : Int)) rfl (by kernel_rfl) (by kernel_rfl) (by kernel_rfl) (fun _ _ _ h => h) (Or.inl ⟨by kernel_rfl, fun w hSw => by (go_simp)⟩) hHeld ?_
  try simp only [Act.put, List.setIfInBounds_toArray, List.set_cons_zero, List.set_cons_succ]
  refine wpAnyH_take (i := 8) (v := .int .i64 ((k : Int) + 1)) rfl (by kernel_rfl) (by kernel_rfl) (by kernel_rfl) (fun _ _ _ h => h) (Or.inl ⟨by kernel_rfl, fun w hSw => by (go_simp)⟩) hHeld ?_
  try simp only [Act.put, List.setIfInBounds_toArray, List.set_cons_zero, List.set_cons_succ]
  refine wpAnyH_ready (rs := [6]) (by kernel_rfl) (by simp) ?_
  refine AllReadyH.cons (o := _) rfl (fun K9 hK9 => ?_) AllReadyH.nil
  go_simp
  go_at_call 31
  refine (C31.out wI hkI).mono ?_
  rintro e w7 ⟨g, rfl, hg, hrs, hb7⟩
  have k7 := bk_tr hkI hb7
  have HRS := Lib.hid (hrs.at_ (k + 1) (by omega) (by omega))
  refine hK9.out _ _ (⟨hHeld.1.keep hb7, hHeld.2.keep hb7⟩) (fun hHeld => ?_)
  clear hK9 K9
  try simp only [Act.put, List.setIfInBounds_toArray, List.set_cons_zero, List.set_cons_succ]
  refine wpAnyH_take (i := 9) (v := .pointer (some ⟨g, (k + 1) * 8, none⟩)) rfl (by kernel_rfl) (by kernel_rfl) (by kernel_rfl) (fun _ _ _ h => h) (Or.inl ⟨by kernel_rfl, fun w hSw => by (go_simp)⟩) hHeld ?_
  try simp only [Act.put, List.setIfInBounds_toArray, List.set_cons_zero, List.set_cons_succ]
  refine wpAnyH_ready (rs := [10]) (by kernel_rfl) (by simp) ?_
  refine AllReadyH.cons (o := _) rfl (fun K9 hK9 => ?_) AllReadyH.nil
  refine wp_load_mid 58 (.tmp 28) rfl g ((k + 1) * 8) (by simp [Act.eval]) (bs (lvL (ins.drop (k + 1)) out)) _ HRS.out Try.underlying58 rfl (hi58 _ (lvL_len _ _)) ?_
  refine hK9.out _ _ (hHeld) (fun hHeld => ?_)
  clear hK9 K9
  try simp only [Act.put, List.setIfInBounds_toArray, List.set_cons_zero, List.set_cons_succ]
  refine wpAnyH_ready (rs := [11]) (by kernel_rfl) (by simp) ?_
  refine AllReadyH.cons (o := _) rfl (fun K9 hK9 => ?_) AllReadyH.nil
  go_simp
  go_at_call 38
  refine (C38.out w7).mono ?_
  rintro e w8 ⟨rfl, hb8⟩
  have k8 := bk_tr k7 hb8
  refine hK9.out _ _ (⟨hHeld.1.keep hb8, hHeld.2.keep hb8⟩) (fun hHeld => ?_)
  clear hK9 K9
  try simp only [Act.put, List.setIfInBounds_toArray, List.set_cons_zero, List.set_cons_succ]
  refine wpAnyH_ready (rs := [12]) (by kernel_rfl) (by simp) ?_
  refine AllReadyH.cons (o := _) rfl (fun K9 hK9 => ?_) AllReadyH.nil
  go_simp
  refine hK9.out _ _ (hHeld) (fun hHeld => ?_)
  clear hK9 K9
  try simp only [Act.put, List.setIfInBounds_toArray, List.set_cons_zero, List.set_cons_succ]
  refine wpAnyH_done (by kernel_rfl) ?_ _
  have KF := Lib.hid (bk_tr K2.out k8)
  clear k8 k7 hkI hHeld ei e0 e1
  go_wp2_with fail
  go_ret
  exact ⟨rfl, KF.out⟩
theorem dead21 (W R : Int) (p q : Option Addr) (pc qc : Nat) (ins : List I6) (out : List Int) (w : World) (hi : RI w p pc ins) (ho : RO w q qc out) (li : ins.length ≤ 300) (lo : out.length ≤ 20) (x : Int) : Calls Try.prog 21 #[.agg #[.int .i64 W, .int .i64 R, .slice p ins.length pc, .slice q out.length qc], .int .i64 x] w fun e w' => e = .returned (.bool (deadAt W R ins out x)) ∧ BK w w' := by
  by_cases h0 : x < 0
  · rw [show deadAt W R ins out x = false from dif_neg (by omega)]; exact dead21_lo W R p q pc qc _ _ x w h0
  · by_cases h1 : (ins.length : Int) ≤ x
    · rw [show deadAt W R ins out x = false from dif_neg (by omega)]; exact dead21_hi W R p q pc qc _ _ x w (by omega) h1
    · by_cases hc : chkE W R ins out = 0
      · obtain ⟨k, rfl⟩ : ∃ k : Nat, x = k := ⟨x.toNat, by omega⟩
        rw [show deadAt W R ins out (k : Int) = deadB (ins[k]'(by omega)) (ins.drop (k + 1)) out from dif_pos ⟨hc, by omega, by omega⟩]
        exact dead21_ok W R p q pc qc ins out w hi ho (chk_zero.1 hc) lo k (by omega)
      · rw [show deadAt W R ins out x = false from dif_neg (by rintro ⟨h, _⟩; exact hc h)]; exact dead21_no W R p q pc qc ins out w hi ho (by omega) (by omega) x (by omega) (by omega) hc
def inpL (W R : Int) (ins : List I6) (out : List Int) : List Int := if chkE W R ins out = 0 then liveL 8 ins out else []
set_option maxRecDepth 100000 in
set_option maxHeartbeats 1000000 in
theorem inputs16_no (W R : Int) (p q : Option Addr) (pc qc : Nat) (ins : List I6) (out : List Int) (w : World) (hi : RI w p pc ins) (ho : RO w q qc out) (li : ins.length ≤ 1000) (lo : out.length ≤ 1000) (hc : chkE W R ins out ≠ 0) : Calls Try.prog 16 #[.agg #[.int .i64 W, .int .i64 R, .slice p ins.length pc, .slice q out.length qc]] w (LP [] w) := by
  have b4 := b4_new w (.int .i64 W) (.int .i64 R) (.slice p ins.length pc) (.slice q out.length qc) 25
  have k0 := bk_alloc (BK.refl w) (.cells #[.int .i64 W, .int .i64 R, .slice p ins.length pc, .slice q out.length qc] 25)
  have C30 := Lib.hid (fun (wc : World) (hb : BK w wc) => chk30 W R p q pc qc ins out wc (hi.keep hb) (ho.keep hb) li lo)
  have hn : (chkE W R ins out != 0) = true := by simpa using hc
  clear hi ho hc
  generalize chkE W R ins out = y at C30 hn
  go_enter Try.func16, Try.ntmps16
  go_upto_region 1 with (fail)
  generalize w.alloc (.cells #[.int .i64 W, .int .i64 R, .slice p ins.length pc, .slice q out.length qc] 25) = w0 at b4 k0 ⊢
  obtain ⟨c0, c1, c2, c3⟩ := b4
  have K0 := Lib.hid k0
  clear k0
  go_wp2_with fail
  refine (C30.out w0 K0.out).mono ?_
  rintro e w1 ⟨rfl, hb1⟩
  have K1 := Lib.hid (bk_tr K0.out hb1)
  clear hb1 c0 c1 c2 c3
  go_wp2_with fail
  go_ret
  exact ⟨_, rfl, World.ownsRow_nil _ _ _ _, K1.out⟩
set_option maxRecDepth 100000 in
set_option maxHeartbeats 1000000 in
theorem inputs16_ok (W R : Int) (p q : Option Addr) (pc qc : Nat) (ins : List I6) (out : List Int) (w : World) (hi : RI w p pc ins) (ho : RO w q qc out) (hv : Vd W R ins out) (lo : out.length ≤ 20) : Calls Try.prog 16 #[.agg #[.int .i64 W, .int .i64 R, .slice p ins.length pc, .slice q out.length qc]] w (LP (liveL 8 ins out) w) := by
  obtain ⟨hreg, hin⟩ := valid_reg hv
  have li := hv.len
  have C31 := Lib.hid (fun (wc : World) (hb : BK w wc) => between31 W R p q pc qc ins out wc (hi.keep hb) (ho.keep hb) li (by omega) hin hreg)
  have C30 := Lib.hid (fun (wc : World) (hb : BK w wc) => (chk30 W R p q pc qc ins out wc (hi.keep hb) (ho.keep hb) (by omega) (by omega)).mono (R' := fun e w' => e = .returned (.int .i64 0) ∧ BK wc w') fun e w' ⟨a, b⟩ => ⟨by rw [a, chk_zero.2 hv], b⟩)
  have C32 := Lib.hid (fun (wc : World) => by have := list32 (lvL ins out) wc (lvL_len _ _); rw [upL_lv] at this; exact (show Calls Try.prog 32 #[.agg (bs (lvL ins out)).toArray] wc (LP (liveL 8 ins out) wc) from this))
  have b4 := b4_new w (.int .i64 W) (.int .i64 R) (.slice p ins.length pc) (.slice q out.length qc) 25
  have k0 := bk_alloc (BK.refl w) (.cells #[.int .i64 W, .int .i64 R, .slice p ins.length pc, .slice q out.length qc] 25)
  clear hi ho hreg hin hv
  generalize liveL 8 ins out = LL at C32 ⊢
  go_enter Try.func16, Try.ntmps16
  go_upto_region 1 with (fail)
  generalize w.alloc (.cells #[.int .i64 W, .int .i64 R, .slice p ins.length pc, .slice q out.length qc] 25) = w0 at b4 k0 ⊢
  obtain ⟨c0, c1, c2, c3⟩ := b4
  have B0 := Lib.hid (show B4 w0 w.heap.size (.int .i64 W) (.int .i64 R) (.slice p ins.length pc) (.slice q out.length qc) from ⟨c0, c1, c2, c3⟩)
  have K0 := Lib.hid k0
  clear k0
  go_wp2_with fail
  refine (C30.out w0 K0.out).mono ?_
  rintro e w2 ⟨rfl, hb1⟩
  have K2 := Lib.hid (bk_tr K0.out hb1)
  obtain ⟨d0, d1, d2, d3⟩ := B0.out.keep hb1
  clear hb1 c0 c1 c2 c3
  go_upto_region 3 with (fail)
  go_wp2_with fail
  refine (C31.out w2 K2.out).mono ?_
  rintro e w3 ⟨g, rfl, hg, hrs, hb3⟩
  have K3 := Lib.hid (bk_tr K2.out hb3)
  have hr := hrs.at_ 0 (by omega) (by omega)
  rw [Nat.zero_mul, List.drop_zero] at hr
  have HR := Lib.hid hr
  clear hb3 hrs hr d0 d1 d2 d3
  go_wp2_with (refine wpList_load_mid rfl 58 _ rfl g 0 rfl (bs (lvL ins out)) _ HR.out Try.underlying58 rfl (hi58 _ (lvL_len _ _)) ?_)
  refine (C32.out w3).mono ?_
  rintro e w4 ⟨v, rfl, ho4, hb4⟩
  have HO4 := Lib.hid (own_mono ho4 (bk_size K3.out))
  have K4 := Lib.hid (bk_tr K3.out hb4)
  clear ho4 hb4
  go_wp2_with fail
  go_ret
  exact ⟨_, rfl, HO4.out, K4.out⟩
theorem inputs16 (W R : Int) (p q : Option Addr) (pc qc : Nat) (ins : List I6) (out : List Int) (w : World) (hi : RI w p pc ins) (ho : RO w q qc out) (li : ins.length ≤ 300) (lo : out.length ≤ 20) : Calls Try.prog 16 #[.agg #[.int .i64 W, .int .i64 R, .slice p ins.length pc, .slice q out.length qc]] w (LP (inpL W R ins out) w) := by
  unfold inpL
  split
  · exact inputs16_ok W R p q pc qc ins out w hi ho (chk_zero.1 ‹_›) lo
  · exact inputs16_no W R p q pc qc ins out w hi ho (by omega) (by omega) ‹_›
end Go.Proofs.Ytjmmaaphadeokaa
