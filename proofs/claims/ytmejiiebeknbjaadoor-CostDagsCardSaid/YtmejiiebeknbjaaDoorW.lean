/- The reference's equality of terms. -/
import Derived.Test.YtmejiiebeknbjaaDoorU
import Derived.Deep.MidRow
namespace Go.Proofs.YtmejiiebeknbjaaDoor
open Go.RowKit
set_option linter.unusedVariables false
set_option linter.unusedSimpArgs false
theorem str_inj {a b : ByteArray} (h : a.toList = b.toList) : a = b := by
  rw [ByteArray.toList_eq, ByteArray.toList_eq] at h
  exact ByteArray.ext (Array.toList_inj.1 h)
theorem four5 {w' : World} {a b c o d p : Nat} {x0 x1 x2 x3 x4 y0 y1 y2 y3 y4 z0 z1 z2 z3 z4 u0 u1 u2 u3 u4 : Value} (h : B5 w' a x0 x1 x2 x3 x4) (k : B5 w' b y0 y1 y2 y3 y4) (l : C5 w' c o z0 z1 z2 z3 z4) (m : C5 w' d p u0 u1 u2 u3 u4) :
    w'.cell? ⟨a, 0, none⟩ = some x0 ∧ w'.cell? ⟨a, 1, none⟩ = some x1 ∧ w'.cell? ⟨a, 2, none⟩ = some x2 ∧ w'.cell? ⟨a, 3, none⟩ = some x3 ∧ w'.cell? ⟨a, 4, none⟩ = some x4 ∧ w'.cell? ⟨b, 0, none⟩ = some y0 ∧ w'.cell? ⟨b, 1, none⟩ = some y1 ∧ w'.cell? ⟨b, 2, none⟩ = some y2 ∧ w'.cell? ⟨b, 3, none⟩ = some y3 ∧ w'.cell? ⟨b, 4, none⟩ = some y4 ∧ w'.cell? ⟨c, o, none⟩ = some z0 ∧ w'.cell? ⟨c, o + 1, none⟩ = some z1 ∧ w'.cell? ⟨c, o + 2, none⟩ = some z2 ∧ w'.cell? ⟨c, o + 3, none⟩ = some z3 ∧ w'.cell? ⟨c, o + 4, none⟩ = some z4 ∧ w'.cell? ⟨d, p, none⟩ = some u0 ∧ w'.cell? ⟨d, p + 1, none⟩ = some u1 ∧ w'.cell? ⟨d, p + 2, none⟩ = some u2 ∧ w'.cell? ⟨d, p + 3, none⟩ = some u3 ∧ w'.cell? ⟨d, p + 4, none⟩ = some u4 :=
  ⟨h.1, h.2.1, h.2.2.1, h.2.2.2.1, h.2.2.2.2, k.1, k.2.1, k.2.2.1, k.2.2.2.1, k.2.2.2.2, l.1, l.2.1, l.2.2.1, l.2.2.2.1, l.2.2.2.2, m⟩
def P28 (t : T) : Prop := ∀ op1 wd1 vl1 nm1 ts1, t = .mk op1 wd1 vl1 nm1 ts1 → ∀ (op2 wd2 : Int) (vl2 : Nat) (nm2 : ByteArray) (ts2 : List T) (w : World) (p1 p2 : Option Addr) (c1 c2 : Nat), Row w p1 c1 ts1 → Row w p2 c2 ts2 →
  Calls Tryd.prog 28 #[.agg #[.int .i64 op1, .int .i64 wd1, .int .u64 vl1, .string nm1, .slice p1 ts1.length c1], .agg #[.int .i64 op2, .int .i64 wd2, .int .u64 vl2, .string nm2, .slice p2 ts2.length c2]] w fun e w' => e = .returned (.bool (decide (t = .mk op2 wd2 vl2 nm2 ts2))) ∧ BK w w'
theorem take_snoc_eq {ts us : List T} {k : Nat} (h1 : k < ts.length) (h2 : k < us.length) (ht : ts.take k = us.take k) (he : ts[k] = us[k]) : ts.take (k + 1) = us.take (k + 1) := by
  rw [List.take_succ_eq_append_getElem h1, List.take_succ_eq_append_getElem h2, ht, he]
set_option maxRecDepth 100000 in
set_option maxHeartbeats 8000000 in
theorem same28 (t : T) : P28 t := by
  induction t using T.ind with
  | h op1 wd1 vl1 nm1 ts1 ih =>
    intro op' wd' vl' nm' ts' ht op2 wd2 vl2 nm2 ts2 w p1 p2 c1 c2 hr1 hr2
    obtain ⟨rfl, rfl, rfl, rfl, rfl⟩ := T.mk.inj ht
    clear ht
    have hlen := hr1.len
    unfold maxLen at hlen
    have s1 : (w.alloc (.cells #[.int .i64 op1, .int .i64 wd1, .int .u64 vl1, .string nm1, .slice p1 ts1.length c1] 34)).heap.size = w.heap.size + 1 := by simp
    have hx := (b5_new w (.int .i64 op1) (.int .i64 wd1) (.int .u64 vl1) (.string nm1) (.slice p1 ts1.length c1) 34).keep (bk_alloc (BK.refl _) (.cells #[.int .i64 op2, .int .i64 wd2, .int .u64 vl2, .string nm2, .slice p2 ts2.length c2] 34)) (box_lt _ _ _)
    have hy := b5_new (w.alloc (.cells #[.int .i64 op1, .int .i64 wd1, .int .u64 vl1, .string nm1, .slice p1 ts1.length c1] 34)) (.int .i64 op2) (.int .i64 wd2) (.int .u64 vl2) (.string nm2) (.slice p2 ts2.length c2) 34
    have hly := box_lt (w.alloc (.cells #[.int .i64 op1, .int .i64 wd1, .int .u64 vl1, .string nm1, .slice p1 ts1.length c1] 34)) #[.int .i64 op2, .int .i64 wd2, .int .u64 vl2, .string nm2, .slice p2 ts2.length c2] 34
    rw [s1] at hy hly
    have hk0 := bk_alloc (bk_alloc (BK.refl w) (.cells #[.int .i64 op1, .int .i64 wd1, .int .u64 vl1, .string nm1, .slice p1 ts1.length c1] 34)) (.cells #[.int .i64 op2, .int .i64 wd2, .int .u64 vl2, .string nm2, .slice p2 ts2.length c2] 34)
    have hR1 := hr1.keep hk0
    have hR2 := hr2.keep hk0
    clear hr1 hr2 s1
    have HEQ := Lib.hid (show (T.mk op1 wd1 vl1 nm1 ts1 = T.mk op2 wd2 vl2 nm2 ts2) ↔ (op1 = op2 ∧ wd1 = wd2 ∧ vl1 = vl2 ∧ nm1 = nm2 ∧ ts1 = ts2) by rw [T.mk.injEq])
    have IH := Lib.hid ih
    clear ih
    have hst : nm1 = nm2 ↔ nm1.toList = nm2.toList := ⟨fun h => by rw [h], fun h => str_inj h⟩
    have HST := Lib.hid hst
    clear hst
    by_cases hE : op1 = op2 ∧ wd1 = wd2 ∧ vl1 = vl2 ∧ nm1 = nm2 ∧ ts1.length = ts2.length
    case neg =>
      have hne : decide (T.mk op1 wd1 vl1 nm1 ts1 = T.mk op2 wd2 vl2 nm2 ts2) = false := by
        rw [decide_eq_false_iff_not, HEQ.out]
        exact fun h => hE ⟨h.1, h.2.1, h.2.2.1, h.2.2.2.1, by rw [h.2.2.2.2]⟩
      have HNE := Lib.hid hne
      have HE := Lib.hid hE
      generalize hdd : decide (T.mk op1 wd1 vl1 nm1 ts1 = T.mk op2 wd2 vl2 nm2 ts2) = dd at HNE
      have HDD := Lib.hid hdd
      clear hne hE HEQ hdd
      have HK0 := Lib.hid hk0
      obtain ⟨x0, x1, x2, x3, x4⟩ := hx
      obtain ⟨y0, y1, y2, y3, y4⟩ := hy
      by_cases e1 : op1 = op2
      case neg => 
        go_enter Tryd.func28, Tryd.ntmps28
        go_wp2_with fail
        go_ret
        exact ⟨ret_bool HNE.out.symm, HK0.out⟩
      subst e1
      by_cases e2 : wd1 = wd2
      case neg => 
        go_enter Tryd.func28, Tryd.ntmps28
        go_wp2_with fail
        go_ret
        exact ⟨ret_bool HNE.out.symm, HK0.out⟩
      subst e2
      by_cases e3 : vl1 = vl2
      case neg => 
        go_enter Tryd.func28, Tryd.ntmps28
        go_wp2_with fail
        go_ret
        exact ⟨ret_bool HNE.out.symm, HK0.out⟩
      subst e3
      by_cases e4 : nm1.toList = nm2.toList
      case neg => 
        go_enter Tryd.func28, Tryd.ntmps28
        go_wp2_with fail
        go_ret
        exact ⟨ret_bool HNE.out.symm, HK0.out⟩
      obtain rfl := HST.out.2 e4
      by_cases e5 : ts1.length = ts2.length
      case neg => 
        go_enter Tryd.func28, Tryd.ntmps28
        go_wp2_with fail
        go_ret
        exact ⟨ret_bool HNE.out.symm, HK0.out⟩
      exact absurd ⟨rfl, rfl, rfl, rfl, e5⟩ HE.out
    obtain ⟨h1, h2, h3, h4, hE⟩ := hE
    subst h1 h2 h3 h4
    have HE := Lib.hid hE
    have hiff : (T.mk op1 wd1 vl1 nm1 ts1 = T.mk op1 wd1 vl1 nm1 ts2) ↔ ts1 = ts2 := by rw [T.mk.injEq]; simp
    have hdec : decide (T.mk op1 wd1 vl1 nm1 ts1 = T.mk op1 wd1 vl1 nm1 ts2) = decide (ts1 = ts2) := decide_eq_decide.2 hiff
    rw [hdec]
    generalize hdd : decide (ts1 = ts2) = dd
    have HDD := Lib.hid hdd
    clear hdec hiff hdd HEQ HST
    have hE' : ts2.length = ts1.length := hE.symm
    rw [hE'] at hx hy hly hk0 hR1 hR2 ⊢
    clear hE hE'
    obtain ⟨x0, x1, x2, x3, x4⟩ := id hx
    obtain ⟨y0, y1, y2, y3, y4⟩ := id hy
    go_enter Tryd.func28, Tryd.ntmps28
    go_wp2_with fail
    generalize (w.alloc (.cells #[.int .i64 op1, .int .i64 wd1, .int .u64 vl1, .string nm1, .slice p1 ts1.length c1] 34)).alloc (.cells #[.int .i64 op1, .int .i64 wd1, .int .u64 vl1, .string nm1, .slice p2 ts1.length c2] 34) = w0 at hx hy hly hk0 hR1 hR2 ⊢
    have HX := Lib.hid (fun wc (hb : BK w0 wc) => hx.keep hb (by omega))
    have HY := Lib.hid (fun wc (hb : BK w0 wc) => hy.keep hb hly)
    have HR1 := Lib.hid (fun wc (hb : BK w0 wc) => hR1.keep hb)
    have HR2 := Lib.hid (fun wc (hb : BK w0 wc) => hR2.keep hb)
    have HK0 := Lib.hid hk0
    clear hx hy hly hk0 hR1 hR2
    clear x0 x1 x2 x3 x4 y0 y1 y2 y3 y4
    go_loopw [44] (fun x wr => ∃ (k : Nat), k ≤ ts1.length ∧ x = .int .i64 k ∧ ts1.take k = ts2.take k ∧ BK w0 wr) (fun x _ => ts1.length - (intOf x).toNat)
    case atStart => exact ⟨0, Nat.zero_le _, rfl, by simp, BK.refl _⟩
    case round =>
      obtain ⟨k, hk, rfl, htake, hkw⟩ := hrel
      have HK := Lib.hid hkw
      have HTK := Lib.hid htake
      by_cases hlt : k < ts1.length
      · have hltu : k < ts2.length := by rw [← HE.out]; exact hlt
        obtain ⟨b3, o3, op3, wd3, vl3, nm3, us3, q3, d3, rfl, htk3, hc3, -, hr3⟩ := (HR1.out _ hkw).get hlt
        obtain ⟨b4, o4, op4, wd4, vl4, nm4, us4, q4, d4, rfl, htk4, hc4, -, hr4⟩ := (HR2.out _ hkw).get hltu
        have hcc := IH.out _ (List.getElem_mem hlt) op3 wd3 vl3 nm3 us3 htk3 op4 wd4 vl4 nm4 us4
        rw [← htk4] at hcc
        have HC3 := Lib.hid (fun wc (hb : BK wr wc) => hc3.keep hb)
        have HC4 := Lib.hid (fun wc (hb : BK wr wc) => hc4.keep hb)
        have CC := Lib.hid (fun wc (hb : BK wr wc) => hcc wc q3 q4 d3 d4 (hr3.keep hb) (hr4.keep hb))
        generalize hbb : decide (ts1[k] = ts2[k]) = bb at CC
        have HBB := Lib.hid hbb
        have HLU := Lib.hid hltu
        clear hkw htk3 htk4 hc3 hc4 hr3 hr4 hcc hbb htake
        go_wp2_with fail
        have hkI := bk_drew HK.out
        have hjI := bk_drew (BK.refl wr)
        refine wp_region_held_drew (S := fun w' => w'.cell? ⟨w.heap.size, 0, none⟩ = some (.int .i64 op1) ∧ w'.cell? ⟨w.heap.size, 1, none⟩ = some (.int .i64 wd1) ∧ w'.cell? ⟨w.heap.size, 2, none⟩ = some (.int .u64 vl1) ∧ w'.cell? ⟨w.heap.size, 3, none⟩ = some (.string nm1) ∧ w'.cell? ⟨w.heap.size, 4, none⟩ = some (.slice (some ⟨b3, o3, none⟩) ts1.length c1) ∧ w'.cell? ⟨w.heap.size + 1, 0, none⟩ = some (.int .i64 op1) ∧ w'.cell? ⟨w.heap.size + 1, 1, none⟩ = some (.int .i64 wd1) ∧ w'.cell? ⟨w.heap.size + 1, 2, none⟩ = some (.int .u64 vl1) ∧ w'.cell? ⟨w.heap.size + 1, 3, none⟩ = some (.string nm1) ∧ w'.cell? ⟨w.heap.size + 1, 4, none⟩ = some (.slice (some ⟨b4, o4, none⟩) ts1.length c2) ∧ w'.cell? ⟨b3, o3 + k * 5, none⟩ = some (.int .i64 op3) ∧ w'.cell? ⟨b3, o3 + k * 5 + 1, none⟩ = some (.int .i64 wd3) ∧ w'.cell? ⟨b3, o3 + k * 5 + 2, none⟩ = some (.int .u64 vl3) ∧ w'.cell? ⟨b3, o3 + k * 5 + 3, none⟩ = some (.string nm3) ∧ w'.cell? ⟨b3, o3 + k * 5 + 4, none⟩ = some (.slice q3 us3.length d3) ∧ w'.cell? ⟨b4, o4 + k * 5, none⟩ = some (.int .i64 op4) ∧ w'.cell? ⟨b4, o4 + k * 5 + 1, none⟩ = some (.int .i64 wd4) ∧ w'.cell? ⟨b4, o4 + k * 5 + 2, none⟩ = some (.int .u64 vl4) ∧ w'.cell? ⟨b4, o4 + k * 5 + 3, none⟩ = some (.string nm4) ∧ w'.cell? ⟨b4, o4 + k * 5 + 4, none⟩ = some (.slice q4 us4.length d4)) (by kernel_rfl) (four5 (HX.out _ (bk_drew HK.out)) (HY.out _ (bk_drew HK.out)) (HC3.out _ (bk_drew (BK.refl wr))) (HC4.out _ (bk_drew (BK.refl wr)))) (fun hHeld => ?_)
        generalize wr.drew = wI at hHeld hkI hjI ⊢
        refine wpAnyH_take (i := 0) (v := .pointer (some ⟨w.heap.size, 4, none⟩)) rfl (by kernel_rfl) (by kernel_rfl) (by kernel_rfl) (fun _ _ _ h => h) (Or.inl ⟨by rfl, fun w hSw => by (go_simp)⟩) hHeld ?_
        try simp only [Act.put, List.setIfInBounds_toArray, List.set_cons_zero, List.set_cons_succ]
        refine wpAnyH_take (i := 1) (v := .slice (some ⟨b3, o3, none⟩) ts1.length c1) rfl (by kernel_rfl) (by kernel_rfl) (by kernel_rfl) (fun _ _ _ h => h) (Or.inl ⟨by rfl, fun w hSw => by (obtain ⟨hS0, hS1, hS2, hS3, hS4, hS5, hS6, hS7, hS8, hS9, hS10, hS11, hS12, hS13, hS14, hS15, hS16, hS17, hS18, hS19⟩ := hSw; go_simp)⟩) hHeld ?_
        try simp only [Act.put, List.setIfInBounds_toArray, List.set_cons_zero, List.set_cons_succ]
        refine wpAnyH_take (i := 2) (v := .int .i64 k) rfl (by kernel_rfl) (by kernel_rfl) (by kernel_rfl) (fun _ _ _ h => h) (Or.inl ⟨by rfl, fun w hSw => by (go_simp)⟩) hHeld ?_
        try simp only [Act.put, List.setIfInBounds_toArray, List.set_cons_zero, List.set_cons_succ]
        refine wpAnyH_take (i := 3) (v := .pointer (some ⟨b3, o3 + k * 5, none⟩)) rfl (by kernel_rfl) (by kernel_rfl) (by kernel_rfl) (fun _ _ _ h => h) (Or.inl ⟨by rfl, fun w hSw => by (have hlt' := hlt; go_simp)⟩) hHeld ?_
        try simp only [Act.put, List.setIfInBounds_toArray, List.set_cons_zero, List.set_cons_succ]
        refine wpAnyH_take (i := 4) (v := .agg #[.int .i64 op3, .int .i64 wd3, .int .u64 vl3, .string nm3, .slice q3 us3.length d3]) rfl (by kernel_rfl) (by kernel_rfl) (by kernel_rfl) (fun _ _ _ h => h) (Or.inl ⟨by rfl, fun w hSw => by (obtain ⟨hS0, hS1, hS2, hS3, hS4, hS5, hS6, hS7, hS8, hS9, hS10, hS11, hS12, hS13, hS14, hS15, hS16, hS17, hS18, hS19⟩ := hSw; go_simp)⟩) hHeld ?_
        try simp only [Act.put, List.setIfInBounds_toArray, List.set_cons_zero, List.set_cons_succ]
        refine wpAnyH_take (i := 5) (v := .pointer (some ⟨w.heap.size + 1, 4, none⟩)) rfl (by kernel_rfl) (by kernel_rfl) (by kernel_rfl) (fun _ _ _ h => h) (Or.inl ⟨by rfl, fun w hSw => by (go_simp)⟩) hHeld ?_
        try simp only [Act.put, List.setIfInBounds_toArray, List.set_cons_zero, List.set_cons_succ]
        refine wpAnyH_take (i := 6) (v := .slice (some ⟨b4, o4, none⟩) ts1.length c2) rfl (by kernel_rfl) (by kernel_rfl) (by kernel_rfl) (fun _ _ _ h => h) (Or.inl ⟨by rfl, fun w hSw => by (obtain ⟨hS0, hS1, hS2, hS3, hS4, hS5, hS6, hS7, hS8, hS9, hS10, hS11, hS12, hS13, hS14, hS15, hS16, hS17, hS18, hS19⟩ := hSw; go_simp)⟩) hHeld ?_
        try simp only [Act.put, List.setIfInBounds_toArray, List.set_cons_zero, List.set_cons_succ]
        refine wpAnyH_take (i := 7) (v := .int .i64 k) rfl (by kernel_rfl) (by kernel_rfl) (by kernel_rfl) (fun _ _ _ h => h) (Or.inl ⟨by rfl, fun w hSw => by (go_simp)⟩) hHeld ?_
        try simp only [Act.put, List.setIfInBounds_toArray, List.set_cons_zero, List.set_cons_succ]
        have hltu := HLU.out
        refine wpAnyH_take (i := 8) (v := .pointer (some ⟨b4, o4 + k * 5, none⟩)) rfl (by kernel_rfl) (by kernel_rfl) (by kernel_rfl) (fun _ _ _ h => h) (Or.inl ⟨by rfl, fun w hSw => by (have hlt' := hlt; go_simp)⟩) hHeld ?_
        try simp only [Act.put, List.setIfInBounds_toArray, List.set_cons_zero, List.set_cons_succ]
        refine wpAnyH_take (i := 9) (v := .agg #[.int .i64 op4, .int .i64 wd4, .int .u64 vl4, .string nm4, .slice q4 us4.length d4]) rfl (by kernel_rfl) (by kernel_rfl) (by kernel_rfl) (fun _ _ _ h => h) (Or.inl ⟨by rfl, fun w hSw => by (obtain ⟨hS0, hS1, hS2, hS3, hS4, hS5, hS6, hS7, hS8, hS9, hS10, hS11, hS12, hS13, hS14, hS15, hS16, hS17, hS18, hS19⟩ := hSw; go_simp)⟩) hHeld ?_
        try simp only [Act.put, List.setIfInBounds_toArray, List.set_cons_zero, List.set_cons_succ]
        refine wpAnyH_ready (rs := [10]) (by kernel_rfl) (by simp) ?_
        refine AllReadyH.cons (o := _) rfl (fun K hK => ?_) AllReadyH.nil
        go_simp
        go_at_call 28; refine (CC.out _ hjI).mono ?_; rintro e w6 ⟨rfl, hq⟩; have hkA := bk_tr hkI hq; have hjA := bk_tr hjI hq
        refine hK.out _ _ (four5 (HX.out _ (hkA)) (HY.out _ (hkA)) (HC3.out _ (hjA)) (HC4.out _ (hjA))) (fun hHeld => ?_)
        clear hK K
        try simp only [Act.put, List.setIfInBounds_toArray, List.set_cons_zero, List.set_cons_succ]
        refine wpAnyH_ready (rs := [11]) (by kernel_rfl) (by simp) ?_
        refine AllReadyH.cons (o := _) rfl (fun K hK => ?_) AllReadyH.nil
        go_simp
        refine hK.out _ _ (four5 (HX.out _ (hkA)) (HY.out _ (hkA)) (HC3.out _ (hjA)) (HC4.out _ (hjA))) (fun hHeld => ?_)
        clear hK K
        try simp only [Act.put, List.setIfInBounds_toArray, List.set_cons_zero, List.set_cons_succ]
        refine wpAnyH_done (by kernel_rfl) ?_ _
        have HA := Lib.hid hkA
        clear hkI hjI hkA hjA
        cases bb with
        | false =>
          go_wp2_with fail
          go_ret
          refine ⟨ret_bool ?_, bk_tr HK0.out HA.out⟩
          rw [← HDD.out, eq_comm, decide_eq_false_iff_not]
          intro he
          have := of_decide_eq_false HBB.out
          exact this (by simp only [he])
        | true =>
          go_wp2_with fail
          go_roundw
          case rel => exact ⟨k + 1, by omega, by go_num, take_snoc_eq hlt HLU.out HTK.out (of_decide_eq_true HBB.out), HA.out⟩
          case measure => simp [intOf]; omega
      · obtain rfl : k = ts1.length := by omega
        clear hkw htake
        go_wp2_with fail
        go_ret
        refine ⟨ret_bool ?_, bk_tr HK0.out HK.out⟩
        rw [← HDD.out, eq_comm, decide_eq_true_iff]
        have := HTK.out
        rw [List.take_length, HE.out, List.take_length] at this
        exact this
end Go.Proofs.YtmejiiebeknbjaaDoor
