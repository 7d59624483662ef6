/- Replace hands out rows of its own. -/
import Derived.Test.YtjmmaaphadeokaaRG
namespace Go.Proofs.Ytjmmaaphadeokaa
open Go.RowKit Go.Shelf
set_option linter.unusedVariables false
set_option linter.unusedSimpArgs false
def RP2 (w : World) (W R : Int) (L : List I6) (out : List Int) (e : Ending) (w' : World) : Prop :=
  ∃ p' pc' q' qc', e = .returned (.tuple #[.agg #[.int .i64 W, .int .i64 R, .slice p' L.length pc', .slice q' out.length qc'], .int .i64 0]) ∧ w'.ownsRow w.heap.size 54 6 (.slice p' L.length pc') L.length (flat6 L) ∧ w'.ownsRow w.heap.size 3 1 (.slice q' out.length qc') out.length (ints out) ∧ BK w w'
set_option maxRecDepth 100000 in
set_option maxHeartbeats 4000000 in
theorem rep26_own (W R : Int) (p q : Option Addr) (pc qc : Nat) (ins : List I6) (out : List Int) (p2 q2 : Option Addr) (pc2 qc2 : Nat) (ins2 : List I6) (out2 : List Int) (f n : Nat) (w : World) (hi : RI w p pc ins) (ho : RO w q qc out) (hi2 : RI w p2 pc2 ins2) (ho2 : RO w q2 qc2 out2) (li : ins.length ≤ 300) (lo : out.length ≤ 20) (li2 : ins2.length ≤ 300) (lo2 : out2.length ≤ 20) (hw0 : winE W R ins out f n = 0) (hc0 : chkE W R ins2 out2 = 0) (hx : (ins.length : Int) - n + ins2.length ≤ 256) :
    Calls Try.prog 26 #[.agg #[.int .i64 W, .int .i64 R, .slice p ins.length pc, .slice q out.length qc], .int .i64 (f : Int), .int .i64 (n : Int), .agg #[.int .i64 W, .int .i64 R, .slice p2 ins2.length pc2, .slice q2 out2.length qc2]] w (RP2 w W R (repL ins ins2 f n) out) := by
  obtain ⟨-, v1, v2, v3⟩ := win_zero hw0
  have hfn : f + n ≤ ins.length := by omega
  have hle := hi.le
  have hpm : pc ≤ pc := Nat.le_refl _
  have hz := W4.new ((w.alloc (.cells #[.int .i64 W, .int .i64 R, .slice p ins.length pc, .slice q out.length qc] 25)).alloc (.cells #[.int .i64 W, .int .i64 R, .slice p2 ins2.length pc2, .slice q2 out2.length qc2] 25)) (.int .i64 0) (.int .i64 0) (.slice none 0 0) (.slice none 0 0)
  rw [sz1, sz1] at hz
  have b4 := (b4_new w (.int .i64 W) (.int .i64 R) (.slice p ins.length pc) (.slice q out.length qc) 25).keep (bk_alloc (bk_alloc (BK.refl _) (.cells #[.int .i64 W, .int .i64 R, .slice p2 ins2.length pc2, .slice q2 out2.length qc2] 25)) (.cells #[.int .i64 0, .int .i64 0, .slice none 0 0, .slice none 0 0] 25))
  have d4 := (b4_new (w.alloc (.cells #[.int .i64 W, .int .i64 R, .slice p ins.length pc, .slice q out.length qc] 25)) (.int .i64 W) (.int .i64 R) (.slice p2 ins2.length pc2) (.slice q2 out2.length qc2) 25).keep (bk_alloc (BK.refl _) (.cells #[.int .i64 0, .int .i64 0, .slice none 0 0, .slice none 0 0] 25))
  rw [sz1] at d4
  have k0 := bk_alloc (bk_alloc (bk_alloc (BK.refl w) (.cells #[.int .i64 W, .int .i64 R, .slice p ins.length pc, .slice q out.length qc] 25)) (.cells #[.int .i64 W, .int .i64 R, .slice p2 ins2.length pc2, .slice q2 out2.length qc2] 25)) (.cells #[.int .i64 0, .int .i64 0, .slice none 0 0, .slice none 0 0] 25)
  have C43 := Lib.hid (fun (wc : World) (hb : BK w wc) => win43 W R p q pc qc ins out wc (hi.keep hb) (ho.keep hb) (by omega) (by omega) f n (by omega) (by omega))
  have C30 := Lib.hid (fun (wc : World) (hb : BK w wc) => chk30 W R p2 q2 pc2 qc2 ins2 out2 wc (hi2.keep hb) (ho2.keep hb) (by omega) (by omega))
  have C43 := Lib.hid (fun (wc : World) (hb : BK w wc) => by have := C43.out wc hb; rw [hw0] at this; exact this)
  have C30 := Lib.hid (fun (wc : World) (hb : BK w wc) => by have := C30.out wc hb; rw [hc0] at this; exact this)
  have hlen : (repL ins ins2 f n).length ≤ 256 := by unfold repL; simp; omega
  have HFL := Lib.hid (repL_flat ins ins2 f n)
  have C3 := Lib.hid (fun (wa : World) => fun (wc : World) (hb : BK wa wc) (ha : BK w wa) => sl_three (f := f) (n := n) (hi.keep (bk_tr ha hb)) (hi2.keep (bk_tr ha hb)) hfn)
  have HO := Lib.hid ho
  clear hi ho hi2 ho2 hw0 hc0
  go_enter Try.func26, Try.ntmps26
  go_upto_region 1 with (fail)
  generalize ((w.alloc (.cells #[.int .i64 W, .int .i64 R, .slice p ins.length pc, .slice q out.length qc] 25)).alloc (.cells #[.int .i64 W, .int .i64 R, .slice p2 ins2.length pc2, .slice q2 out2.length qc2] 25)).alloc (.cells #[.int .i64 0, .int .i64 0, .slice none 0 0, .slice none 0 0] 25) = w0 at b4 d4 hz k0 ⊢
  have HZ := Lib.hid hz
  have HB := Lib.hid b4
  have HD := Lib.hid d4
  have K0 := Lib.hid k0
  obtain ⟨c0, c1, c2, c3⟩ := b4
  clear hz k0 d4
  go_wp2_with fail
  refine (C43.out w0 K0.out).mono ?_
  rintro e w1 ⟨rfl, hb1⟩
  have K1 := Lib.hid (bk_tr K0.out hb1)
  have J1 := Lib.hid hb1
  obtain ⟨d0, d1, d2, d3⟩ := HD.out.keep hb1
  clear hb1 c0 c1 c2 c3
  go_wp2_with fail
  refine (C30.out w1 K1.out).mono ?_
  rintro e w2 ⟨rfl, hb2⟩
  have K2 := Lib.hid (bk_tr K1.out hb2)
  have J2 := Lib.hid (bk_tr J1.out hb2)
  clear hb2 d0 d1 d2 d3
  obtain ⟨c0, c1, c2, c3⟩ := HB.out.keep J2.out
  obtain ⟨d0, d1, d2, d3⟩ := HD.out.keep J2.out
  go_upto_region 11 with (fail)
  have B6 := Lib.hid (HB.out.keep (bk_drew J2.out))
  have D6 := Lib.hid (HD.out.keep (bk_drew J2.out))
  have C3 := Lib.hid (fun (wc : World) (hb : BK w2 wc) => C3.out w2 wc hb K2.out)
  have hs1 := slice_hi p ins.length pc f (by omega)
  have hs2 := slice_lo p ins.length pc (f + n) hfn
  rw [show ((f + n : Nat) : Int) = (f : Int) + (n : Int) by omega] at hs2
  have ei : IntKind.i64.wrap ((f : Int) + (n : Int)) = (f : Int) + (n : Int) := IntWalk.i64_in _ (by omega)
  clear c0 c1 c2 c3 d0 d1 d2 d3
  refine wp_region_held_drew (S := fun w' => B4 w' w.heap.size (.int .i64 W) (.int .i64 R) (.slice p ins.length pc) (.slice q out.length qc) ∧ B4 w' (w.heap.size + 1) (.int .i64 W) (.int .i64 R) (.slice p2 ins2.length pc2) (.slice q2 out2.length qc2)) (by kernel_rfl) (⟨B6.out, D6.out⟩) (fun hHeld => ?_)
  have hkI := bk_drew (BK.refl w2)
  generalize w2.drew = wI at hHeld hkI ⊢
  refine wpAnyH_take (i := 0) (v := .pointer (some ⟨w.heap.size, 2, none⟩)) rfl (by kernel_rfl) (by kernel_rfl) (by kernel_rfl) (fun _ _ _ h => h) (Or.inl ⟨by kernel_rfl, fun w hSw => by (go_simp)⟩) hHeld ?_
  try simp only [Act.put, List.setIfInBounds_toArray, List.set_cons_zero, List.set_cons_succ]
  refine wpAnyH_take (i := 1) (v := .slice p ins.length pc) rfl (by kernel_rfl) (by kernel_rfl) (by kernel_rfl) (fun _ _ _ h => h) (Or.inl ⟨by kernel_rfl, fun w hSw => by (obtain ⟨⟨q0, q1, q2', q3⟩, ⟨r0, r1, r2, r3⟩⟩ := hSw; go_simp)⟩) hHeld ?_
  try simp only [Act.put, List.setIfInBounds_toArray, List.set_cons_zero, List.set_cons_succ]
  refine wpAnyH_take (i := 2) (v := .int .i64 (f : Int)) rfl (by kernel_rfl) (by kernel_rfl) (by kernel_rfl) (fun _ _ _ h => h) (Or.inl ⟨by kernel_rfl, fun w hSw => by (go_simp)⟩) hHeld ?_
  try simp only [Act.put, List.setIfInBounds_toArray, List.set_cons_zero, List.set_cons_succ]
  refine wpAnyH_take (i := 3) (v := .slice p f pc) rfl (by kernel_rfl) (by kernel_rfl) (by kernel_rfl) (fun _ _ _ h => h) (Or.inl ⟨by kernel_rfl, fun w hSw => by (go_simp)⟩) hHeld ?_
  try simp only [Act.put, List.setIfInBounds_toArray, List.set_cons_zero, List.set_cons_succ]
  refine wpAnyH_take (i := 4) (v := .pointer (some ⟨w.heap.size + 1, 2, none⟩)) rfl (by kernel_rfl) (by kernel_rfl) (by kernel_rfl) (fun _ _ _ h => h) (Or.inl ⟨by kernel_rfl, fun w hSw => by (go_simp)⟩) hHeld ?_
  try simp only [Act.put, List.setIfInBounds_toArray, List.set_cons_zero, List.set_cons_succ]
  refine wpAnyH_take (i := 5) (v := .slice p2 ins2.length pc2) rfl (by kernel_rfl) (by kernel_rfl) (by kernel_rfl) (fun _ _ _ h => h) (Or.inl ⟨by kernel_rfl, fun w hSw => by (obtain ⟨⟨q0, q1, q2', q3⟩, ⟨r0, r1, r2, r3⟩⟩ := hSw; go_simp)⟩) hHeld ?_
  try simp only [Act.put, List.setIfInBounds_toArray, List.set_cons_zero, List.set_cons_succ]
  refine wpAnyH_take (i := 6) (v := .pointer (some ⟨w.heap.size, 2, none⟩)) rfl (by kernel_rfl) (by kernel_rfl) (by kernel_rfl) (fun _ _ _ h => h) (Or.inl ⟨by kernel_rfl, fun w hSw => by (go_simp)⟩) hHeld ?_
  try simp only [Act.put, List.setIfInBounds_toArray, List.set_cons_zero, List.set_cons_succ]
  refine wpAnyH_take (i := 7) (v := .slice p ins.length pc) rfl (by kernel_rfl) (by kernel_rfl) (by kernel_rfl) (fun _ _ _ h => h) (Or.inl ⟨by kernel_rfl, fun w hSw => by (obtain ⟨⟨q0, q1, q2', q3⟩, ⟨r0, r1, r2, r3⟩⟩ := hSw; go_simp)⟩) hHeld ?_
  try simp only [Act.put, List.setIfInBounds_toArray, List.set_cons_zero, List.set_cons_succ]
  refine wpAnyH_take (i := 8) (v := .int .i64 (f : Int)) rfl (by kernel_rfl) (by kernel_rfl) (by kernel_rfl) (fun _ _ _ h => h) (Or.inl ⟨by kernel_rfl, fun w hSw => by (go_simp)⟩) hHeld ?_
  try simp only [Act.put, List.setIfInBounds_toArray, List.set_cons_zero, List.set_cons_succ]
  refine wpAnyH_take (i := 9) (v := .int .i64 (n : Int)) rfl (by kernel_rfl) (by kernel_rfl) (by kernel_rfl) (fun _ _ _ h => h) (Or.inl ⟨by kernel_rfl, fun w hSw => by (go_simp)⟩) hHeld ?_
  try simp only [Act.put, List.setIfInBounds_toArray, List.set_cons_zero, List.set_cons_succ]
  refine wpAnyH_take (i := 10) (v := .int .i64 ((f : Int) + (n : Int))) rfl (by kernel_rfl) (by kernel_rfl) (by kernel_rfl) (fun _ _ _ h => h) (Or.inl ⟨by kernel_rfl, fun w hSw => by (go_simp)⟩) hHeld ?_
  try simp only [Act.put, List.setIfInBounds_toArray, List.set_cons_zero, List.set_cons_succ]
  refine wpAnyH_take (i := 11) (v := .slice (loP p pc (f + n)) (ins.length - (f + n)) (pc - (f + n))) rfl (by kernel_rfl) (by kernel_rfl) (by kernel_rfl) (fun _ _ _ h => h) (Or.inl ⟨by kernel_rfl, fun w hSw => by (go_simp)⟩) hHeld ?_
  try simp only [Act.put, List.setIfInBounds_toArray, List.set_cons_zero, List.set_cons_succ]
  refine wpAnyH_ready (rs := [12]) (by kernel_rfl) (by simp) ?_
  refine AllReadyH.cons (o := _) rfl (fun K9 hK9 => ?_) AllReadyH.nil
  go_simp
  refine hK9.out _ _ (⟨hHeld.1.keep (bk_alloc (BK.refl _) _), hHeld.2.keep (bk_alloc (BK.refl _) _)⟩) (fun hHeld => ?_)
  clear hK9 K9
  try simp only [Act.put, List.setIfInBounds_toArray, List.set_cons_zero, List.set_cons_succ]
  have ka := bk_alloc hkI (.cells #[.slice p f pc, .slice p2 ins2.length pc2, .slice (loP p pc (f + n)) (ins.length - (f + n)) (pc - (f + n))] 22)
  have hsl := C3.out wI hkI
  generalize wI.alloc (.cells #[.slice p f pc, .slice p2 ins2.length pc2, .slice (loP p pc (f + n)) (ins.length - (f + n)) (pc - (f + n))] 22) = wJ at hHeld ka hsl ⊢
  generalize wI.heap.size = sg at hsl ⊢
  refine wpAnyH_ready (rs := [13]) (by kernel_rfl) (by simp) ?_
  refine AllReadyH.cons (o := _) rfl (fun K9 hK9 => ?_) AllReadyH.nil
  go_simp
  go_at_call 48
  refine (concat48 sg 3 [ins.take f, ins2, ins.drop (f + n)] wJ hsl rfl (by rw [← HFL.out]; omega)).mono ?_
  rintro e w4 ⟨v4, rfl, ho4, hb4⟩
  rw [← HFL.out] at ho4
  obtain ⟨p', pc', rfl⟩ := own_shape ho4
  have k4 := bk_tr ka hb4
  refine hK9.out _ _ (⟨hHeld.1.keep hb4, hHeld.2.keep hb4⟩) (fun hHeld => ?_)
  clear hK9 K9
  try simp only [Act.put, List.setIfInBounds_toArray, List.set_cons_zero, List.set_cons_succ]
  refine wpAnyH_ready (rs := [14]) (by kernel_rfl) (by simp) ?_
  refine AllReadyH.cons (o := _) rfl (fun K9 hK9 => ?_) AllReadyH.nil
  go_simp
  refine hK9.out _ _ (hHeld) (fun hHeld => ?_)
  clear hK9 K9
  try simp only [Act.put, List.setIfInBounds_toArray, List.set_cons_zero, List.set_cons_succ]
  refine wpAnyH_done (by kernel_rfl) ?_ _
  have HO4 := Lib.hid (own_mono ho4 (bk_size ka))
  have NZ := Lib.hid (show w.heap.size + 1 + 1 < w2.heap.size from (HZ.out.keep J2.out).lt)
  have B7 := Lib.hid (HB.out.keep (bk_drew (bk_tr J2.out k4)))
  have HZ7 := Lib.hid (HZ.out.keep (bk_tr J2.out k4))
  have K4 := Lib.hid (bk_tr K2.out k4)
  have C41 := Lib.hid (fun (wc : World) (hb : BK w4 wc) => clone41 out q qc wc (HO.out.keep (bk_tr K4.out hb)) (by omega))
  have HV1 := Lib.hid (fun (q' : Option Addr) (qc' : Nat) => one4 W R (.slice p' (repL ins ins2 f n).length pc') q' out.length qc' rfl)
  clear ho4 hb4 k4 ka hsl hkI hHeld ei hs1 hs2
  go_upto_region 12 with (fail)
  refine wp_region_held_drew (S := fun w' => B4 w' w.heap.size (.int .i64 W) (.int .i64 R) (.slice p ins.length pc) (.slice q out.length qc)) (by kernel_rfl) (B7.out) (fun hHeld => ?_)
  have hkK := bk_drew (BK.refl w4)
  generalize w4.drew = wK at hHeld hkK ⊢
  refine wpAnyH_take (i := 0) (v := .pointer (some ⟨w.heap.size, 0, none⟩)) rfl (by kernel_rfl) (by kernel_rfl) (by kernel_rfl) (fun _ _ _ h => h) (Or.inl ⟨by kernel_rfl, fun w hSw => by (go_simp)⟩) hHeld ?_
  try simp only [Act.put, List.setIfInBounds_toArray, List.set_cons_zero, List.set_cons_succ]
  refine wpAnyH_take (i := 1) (v := .int .i64 W) rfl (by kernel_rfl) (by kernel_rfl) (by kernel_rfl) (fun _ _ _ h => h) (Or.inl ⟨by kernel_rfl, fun w hSw => by (obtain ⟨q0, q1, q2', q3⟩ := hSw; go_simp)⟩) hHeld ?_
  try simp only [Act.put, List.setIfInBounds_toArray, List.set_cons_zero, List.set_cons_succ]
  refine wpAnyH_take (i := 2) (v := .pointer (some ⟨w.heap.size, 1, none⟩)) rfl (by kernel_rfl) (by kernel_rfl) (by kernel_rfl) (fun _ _ _ h => h) (Or.inl ⟨by kernel_rfl, fun w hSw => by (go_simp)⟩) hHeld ?_
  try simp only [Act.put, List.setIfInBounds_toArray, List.set_cons_zero, List.set_cons_succ]
  refine wpAnyH_take (i := 3) (v := .int .i64 R) rfl (by kernel_rfl) (by kernel_rfl) (by kernel_rfl) (fun _ _ _ h => h) (Or.inl ⟨by kernel_rfl, fun w hSw => by (obtain ⟨q0, q1, q2', q3⟩ := hSw; go_simp)⟩) hHeld ?_
  try simp only [Act.put, List.setIfInBounds_toArray, List.set_cons_zero, List.set_cons_succ]
  refine wpAnyH_take (i := 4) (v := .slice p' (repL ins ins2 f n).length pc') rfl (by kernel_rfl) (by kernel_rfl) (by kernel_rfl) (fun _ _ _ h => h) (Or.inl ⟨by kernel_rfl, fun w hSw => by (go_simp)⟩) hHeld ?_
  try simp only [Act.put, List.setIfInBounds_toArray, List.set_cons_zero, List.set_cons_succ]
  refine wpAnyH_take (i := 5) (v := .pointer (some ⟨w.heap.size, 3, none⟩)) rfl (by kernel_rfl) (by kernel_rfl) (by kernel_rfl) (fun _ _ _ h => h) (Or.inl ⟨by kernel_rfl, fun w hSw => by (go_simp)⟩) hHeld ?_
  try simp only [Act.put, List.setIfInBounds_toArray, List.set_cons_zero, List.set_cons_succ]
  refine wpAnyH_take (i := 6) (v := .slice q out.length qc) rfl (by kernel_rfl) (by kernel_rfl) (by kernel_rfl) (fun _ _ _ h => h) (Or.inl ⟨by kernel_rfl, fun w hSw => by (obtain ⟨q0, q1, q2', q3⟩ := hSw; go_simp)⟩) hHeld ?_
  try simp only [Act.put, List.setIfInBounds_toArray, List.set_cons_zero, List.set_cons_succ]
  refine wpAnyH_ready (rs := [7]) (by kernel_rfl) (by simp) ?_
  refine AllReadyH.cons (o := _) rfl (fun K9 hK9 => ?_) AllReadyH.nil
  go_simp
  go_at_call 41
  refine (C41.out wK hkK).mono ?_
  rintro e w7 ⟨v7, rfl, ho7, hb7⟩
  obtain ⟨q', qc', rfl⟩ := own_shape ho7
  have k7 := bk_tr hkK hb7
  have SZK := Lib.hid (bk_size (bk_tr K4.out hkK))
  refine hK9.out _ _ (hHeld.keep hb7) (fun hHeld => ?_)
  clear hK9 K9
  try simp only [Act.put, List.setIfInBounds_toArray, List.set_cons_zero, List.set_cons_succ]
  refine wpAnyH_take (i := 8) (v := .agg #[.int .i64 W, .int .i64 R, .slice p' (repL ins ins2 f n).length pc', .slice q' out.length qc']) rfl (by kernel_rfl) (by kernel_rfl) (by kernel_rfl) (fun _ _ _ h => h) (Or.inl ⟨by kernel_rfl, fun w hSw => by (go_simp)⟩) hHeld ?_
  try simp only [Act.put, List.setIfInBounds_toArray, List.set_cons_zero, List.set_cons_succ]
  have hz7 := (HZ7.out.keep k7)
  refine wpAnyH_ready (rs := [9]) (by kernel_rfl) (by simp) ?_
  refine AllReadyH.cons (o := _) rfl (fun K9 hK9 => ?_) AllReadyH.nil
  refine wp_store_mid 25 _ _ rfl (w.heap.size + 1 + 1) 0 #[.int .i64 W, .int .i64 R, .slice p' (repL ins ins2 f n).length pc', .slice q' out.length qc'] rfl rfl hz7.range (by kernel_rfl) (HV1.out _ _) ?_
  refine hK9.out _ _ (hHeld.cells _ _ _ (by omega)) (fun hHeld => ?_)
  clear hK9 K9
  try simp only [Act.put, List.setIfInBounds_toArray, List.set_cons_zero, List.set_cons_succ]
  refine wpAnyH_ready (rs := [10]) (by kernel_rfl) (by simp) ?_
  refine AllReadyH.cons (o := _) rfl (fun K9 hK9 => ?_) AllReadyH.nil
  go_simp
  refine hK9.out _ _ (hHeld) (fun hHeld => ?_)
  clear hK9 K9
  try simp only [Act.put, List.setIfInBounds_toArray, List.set_cons_zero, List.set_cons_succ]
  refine wpAnyH_done (by kernel_rfl) ?_ _
  have eF := World.rangeAt_setCells_same w7 (w.heap.size + 1 + 1) 0 [.int .i64 W, .int .i64 R, .slice p' (repL ins ins2 f n).length pc', .slice q' out.length qc'] hz7.range
  have HBF := Lib.hid (show BK w (w7.setCells (w.heap.size + 1 + 1) 0 [.int .i64 W, .int .i64 R, .slice p' (repL ins ins2 f n).length pc', .slice q' out.length qc']) from bk_setCells _ (by omega) _ _ _ (bk_tr K4.out k7))
  have hnI : ∀ k, (Value.slice p' (repL ins ins2 f n).length pc').ownBlock = some k → (w7.setCells (w.heap.size + 1 + 1) 0 [.int .i64 W, .int .i64 R, .slice p' (repL ins ins2 f n).length pc', .slice q' out.length qc']).heap[k]? = w7.heap[k]? := fun k hk => World.heap_setCells_other w7 _ 0 _ ((own_below HO4.out k7).lt k hk).2 (by have := (HO4.out.lt k hk).1; have := NZ.out; omega)
  have oI := Lib.hid (own_at (own_below HO4.out k7) hnI)
  have hnO : ∀ k, (Value.slice q' out.length qc').ownBlock = some k → (w7.setCells (w.heap.size + 1 + 1) 0 [.int .i64 W, .int .i64 R, .slice p' (repL ins ins2 f n).length pc', .slice q' out.length qc']).heap[k]? = w7.heap[k]? := fun k hk => World.heap_setCells_other w7 _ 0 _ (ho7.lt k hk).2 (by have h1 := (ho7.lt k hk).1; have h2 := hkK.bl.size; have := (HZ7.out.lt); omega)
  have oO := Lib.hid (own_at ho7 hnO)
  have EF := Lib.hid eF
  clear eF hnI hnO ho7 hb7 k7 hHeld hkK hz7
  generalize hSC : w7.setCells (w.heap.size + 1 + 1) 0 #[.int .i64 W, .int .i64 R, .slice p' (repL ins ins2 f n).length pc', .slice q' out.length qc'].toList = w8
  have hSC' : w7.setCells (w.heap.size + 1 + 1) 0 [.int .i64 W, .int .i64 R, .slice p' (repL ins ins2 f n).length pc', .slice q' out.length qc'] = w8 := hSC
  rw [hSC'] at HBF oI oO EF
  clear hSC hSC'
  go_wp2_with fail
  have r0 := EF.out 0 _ rfl
  have r1 := EF.out 1 _ rfl
  have r2 := EF.out 2 _ rfl
  have r3 := EF.out 3 _ rfl
  rw [Nat.zero_add] at r0 r1 r2 r3
  exact bodyPost_ret (v := .tuple #[.agg #[.int .i64 W, .int .i64 R, .slice p' (repL ins ins2 f n).length pc', .slice q' out.length qc'], .int .i64 0]) (by simp [results, Try.results26, go_sem, r0, r1, r2, r3]) rfl ⟨p', pc', q', qc', rfl, own_mono oI.out (bk_size K2.out), own_mono oO.out SZK.out, HBF.out⟩
end Go.Proofs.Ytjmmaaphadeokaa
