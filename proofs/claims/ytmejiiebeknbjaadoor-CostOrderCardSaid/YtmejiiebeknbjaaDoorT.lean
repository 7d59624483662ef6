/- The law of the order of terms, walked. -/
import Derived.Test.YtmejiiebeknbjaaDoorS
namespace Go.Proofs.YtmejiiebeknbjaaDoor
open Go.RowKit Go.Maps
set_option linter.unusedVariables false
set_option linter.unusedSimpArgs false
theorem row1n {w : World} {n : Nat} {op1 wd1 : Int} {vl1 : Nat} {nm1 : ByteArray} {ts1 : List T} {p1 : Option Addr} {c1 : Nat} (hn : w.heap.size = n) (h1 : Row w p1 c1 ts1) (f1 : Wf op1 wd1 vl1 nm1) :
    Row (w.alloc (.cells #[.int .i64 op1, .int .i64 wd1, .int .u64 vl1, .string nm1, .slice p1 ts1.length c1] 34)) (some ⟨n, 0, none⟩) 1 [T.mk op1 wd1 vl1 nm1 ts1] := hn ▸ row1 h1 f1
theorem eleven {w' : World} {a b d : Nat} {L : List Value} {x0 x1 x2 x3 x4 y0 y1 y2 y3 y4 : Value} (hr : w'.rangeAt a 0 L) (h : B5 w' b x0 x1 x2 x3 x4) (k : B5 w' d y0 y1 y2 y3 y4) : w'.rangeAt a 0 L ∧ w'.cell? ⟨b, 0, none⟩ = some x0 ∧ w'.cell? ⟨b, 1, none⟩ = some x1 ∧ w'.cell? ⟨b, 2, none⟩ = some x2 ∧ w'.cell? ⟨b, 3, none⟩ = some x3 ∧ w'.cell? ⟨b, 4, none⟩ = some x4 ∧ w'.cell? ⟨d, 0, none⟩ = some y0 ∧ w'.cell? ⟨d, 1, none⟩ = some y1 ∧ w'.cell? ⟨d, 2, none⟩ = some y2 ∧ w'.cell? ⟨d, 3, none⟩ = some y3 ∧ w'.cell? ⟨d, 4, none⟩ = some y4 :=
  ⟨hr, h.1, h.2.1, h.2.2.1, h.2.2.2.1, h.2.2.2.2, k⟩
set_option maxRecDepth 100000 in
set_option maxHeartbeats 4000000 in
theorem order_law (cs : List Int) (hcs : cs.length = 32) (op1 wd1 : Int) (vl1 : Nat) (nm1 : ByteArray) (ts1 : List T) (p1 : Option Addr) (c1 : Nat) (op2 wd2 : Int) (vl2 : Nat) (nm2 : ByteArray) (ts2 : List T) (p2 : Option Addr) (c2 : Nat) (w : World) (hr1 : Row w p1 c1 ts1) (hr2 : Row w p2 c2 ts2) (hf1 : Wf op1 wd1 vl1 nm1) (hf2 : Wf op2 wd2 vl2 nm2) (htb : Tb w) :
    Calls Tryd.prog 7 #[.agg (ca cs), .agg #[.int .i64 op1, .int .i64 wd1, .int .u64 vl1, .string nm1, .slice p1 ts1.length c1], .agg #[.int .i64 op2, .int .i64 wd2, .int .u64 vl2, .string nm2, .slice p2 ts2.length c2]] w fun e w' => e = .returned (.bool true) ∧ BK w w' := by
  have s1 : (w.alloc (.cells (ca cs) 23)).heap.size = w.heap.size + 1 := by simp
  have s2 : ((w.alloc (.cells (ca cs) 23)).alloc (.cells #[.int .i64 op1, .int .i64 wd1, .int .u64 vl1, .string nm1, .slice p1 ts1.length c1] 34)).heap.size = w.heap.size + 1 + 1 := by simp
  have hx := (b5_new (w.alloc (.cells (ca cs) 23)) (.int .i64 op1) (.int .i64 wd1) (.int .u64 vl1) (.string nm1) (.slice p1 ts1.length c1) 34).keep (bk_alloc (BK.refl _) (.cells #[.int .i64 op2, .int .i64 wd2, .int .u64 vl2, .string nm2, .slice p2 ts2.length c2] 34)) (box_lt _ _ _)
  have hy := b5_new ((w.alloc (.cells (ca cs) 23)).alloc (.cells #[.int .i64 op1, .int .i64 wd1, .int .u64 vl1, .string nm1, .slice p1 ts1.length c1] 34)) (.int .i64 op2) (.int .i64 wd2) (.int .u64 vl2) (.string nm2) (.slice p2 ts2.length c2) 34
  have hly := box_lt ((w.alloc (.cells (ca cs) 23)).alloc (.cells #[.int .i64 op1, .int .i64 wd1, .int .u64 vl1, .string nm1, .slice p1 ts1.length c1] 34)) #[.int .i64 op2, .int .i64 wd2, .int .u64 vl2, .string nm2, .slice p2 ts2.length c2] 34
  rw [s1] at hx
  rw [s2] at hy hly
  have hk0 := bk_alloc (bk_alloc (bk_alloc (BK.refl w) (.cells (ca cs) 23)) (.cells #[.int .i64 op1, .int .i64 wd1, .int .u64 vl1, .string nm1, .slice p1 ts1.length c1] 34)) (.cells #[.int .i64 op2, .int .i64 wd2, .int .u64 vl2, .string nm2, .slice p2 ts2.length c2] 34)
  have hrow : (((w.alloc (.cells (ca cs) 23)).alloc (.cells #[.int .i64 op1, .int .i64 wd1, .int .u64 vl1, .string nm1, .slice p1 ts1.length c1] 34)).alloc (.cells #[.int .i64 op2, .int .i64 wd2, .int .u64 vl2, .string nm2, .slice p2 ts2.length c2] 34)).heap[w.heap.size]? = some (.cells (ca cs) 23 (0, 0)) := by
    rw [heap_alloc_old _ _ (by rw [s2]; omega), heap_alloc_old _ _ (by rw [s1]; omega)]; exact heap_alloc_new w _
  have hR1 := hr1.keep hk0
  have hR2 := hr2.keep hk0
  have HT := Lib.hid (htb.keep hk0)
  have HF := Lib.hid (And.intro hf1 hf2)
  clear hr1 hr2 htb hf1 hf2 s1 s2
  go_enter Tryd.func7, Tryd.ntmps7
  go_wp2_with fail
  generalize ((w.alloc (.cells (ca cs) 23)).alloc (.cells #[.int .i64 op1, .int .i64 wd1, .int .u64 vl1, .string nm1, .slice p1 ts1.length c1] 34)).alloc (.cells #[.int .i64 op2, .int .i64 wd2, .int .u64 vl2, .string nm2, .slice p2 ts2.length c2] 34) = w0 at hx hy hly hk0 hrow hR1 hR2 HT ⊢
  have HX := Lib.hid (fun wc (hb : BK w0 wc) => hx.keep hb (by omega))
  have HY := Lib.hid (fun wc (hb : BK w0 wc) => hy.keep hb hly)
  have HR1 := Lib.hid (fun wc (hb : BK w0 wc) => hR1.keep hb)
  have HR2 := Lib.hid (fun wc (hb : BK w0 wc) => hR2.keep hb)
  have hl0 : w.heap.size < w0.heap.size := by omega
  have HBL := Lib.hid (fun wc (hb : BK w0 wc) => ((show Below w0.heap.size w0 wc from hb).block w.heap.size hl0).trans hrow)
  have HROW := Lib.hid (fun wc (hb : BK w0 wc) => range_ca (cs := cs) (HBL.out wc hb))
  have HK0 := Lib.hid hk0
  have HTB := Lib.hid (fun wc (hb : BK w0 wc) => HT.out.keep hb)
  have HT14 := Lib.hid (fun wc (hb : BK w0 wc) => lives14 wc (HT.out.keep hb))
  obtain ⟨x0, x1, x2, x3, x4⟩ := hx
  obtain ⟨y0, y1, y2, y3, y4⟩ := hy
  clear hly hk0 hrow hR1 hR2 hl0
  obtain ⟨b1, hb1⟩ : ∃ b, smallB (T.mk op1 wd1 vl1 nm1 ts1) 40 = b := ⟨_, rfl⟩
  obtain ⟨b2, hb2⟩ : ∃ b, smallB (T.mk op2 wd2 vl2 nm2 ts2) 40 = b := ⟨_, rfl⟩
  have hS1 := fun wc (hb : BK w0 wc) => small15 op1 wd1 vl1 nm1 ts1 40 wc p1 c1 (HR1.out _ hb) (by omega) (by omega)
  have hS2 := fun wc (hb : BK w0 wc) => small15 op2 wd2 vl2 nm2 ts2 40 wc p2 c2 (HR2.out _ hb) (by omega) (by omega)
  rw [hb1] at hS1
  rw [hb2] at hS2
  have HS1 := Lib.hid hS1
  have HS2 := Lib.hid hS2
  have HB1 := Lib.hid hb1
  have HB2 := Lib.hid hb2
  clear hS1 hS2 hb1 hb2
  refine (HS1.out _ (BK.refl _)).mono ?_
  rintro e w1 ⟨rfl, hb⟩
  have K1 := Lib.hid hb
  clear hb x0 x1 x2 x3 x4 y0 y1 y2 y3 y4
  cases b1 with
  | false =>
    go_wp2_with fail
    refine (HT14.out _ K1.out).mono ?_
    rintro e w9 ⟨rfl, hb9⟩
    have H9 := Lib.hid (bk_tr K1.out hb9)
    clear hb9
    go_wp2_with fail
    go_ret
    exact ⟨rfl, bk_tr HK0.out H9.out⟩
  | true =>
    obtain ⟨y0, y1, y2, y3, y4⟩ := HY.out _ K1.out
    go_wp2_with fail
    refine (HS2.out _ K1.out).mono ?_
    rintro e w2 ⟨rfl, hb⟩
    have K2 := Lib.hid (bk_tr K1.out hb)
    clear hb y0 y1 y2 y3 y4
    cases b2 with
    | false =>
      go_wp2_with fail
      refine (HT14.out _ K2.out).mono ?_
      rintro e w9 ⟨rfl, hb9⟩
      have H9 := Lib.hid (bk_tr K2.out hb9)
      clear hb9
      go_wp2_with fail
      go_ret
      exact ⟨rfl, bk_tr HK0.out H9.out⟩
    | true =>
      obtain ⟨s, a, b, r, hd12, hd21, hd121, hd1, hd2, hadd, has, hsr⟩ := order_calls cs hcs (T.mk op1 wd1 vl1 nm1 ts1) (T.mk op2 wd2 vl2 nm2 ts2) HB1.out HB2.out
      clear HS1 HS2 HB1 HB2
      have D12 := Lib.hid hd12
      have D21 := Lib.hid hd21
      have D121 := Lib.hid hd121
      have D1 := Lib.hid hd1
      have D2 := Lib.hid hd2
      have ADD := Lib.hid hadd
      clear hd12 hd21 hd121 hd1 hd2 hadd
      obtain ⟨x0, x1, x2, x3, x4⟩ := HX.out _ K2.out
      obtain ⟨y0, y1, y2, y3, y4⟩ := HY.out _ K2.out
      have hrow := HBL.out _ K2.out
      go_wp2_with (with_reducible refine wpList_load_row rfl 23 _ rfl w.heap.size rfl 23 (ca cs) (0, 0) _ hrow Tryd.underlying23 rfl (by rw [ca_size, hcs]; kernel_rfl) ?_)
      refine (D12.out _ _ _ (row2 (HR1.out _ K2.out) HF.out.1 (HR2.out _ K2.out) HF.out.2) (HTB.out _ (bk_alloc K2.out _))).mono ?_
      rintro e w3 ⟨rfl, hb⟩
      have K3 := Lib.hid (bk_tr (bk_alloc K2.out _) hb)
      clear hb hrow x0 x1 x2 x3 x4 y0 y1 y2 y3 y4
      go_wp2_with fail
      have hkI := bk_drew K3.out
      have hu23 := Tryd.underlying23
      have hi23 : (Tryd.prog.info? 23).map (·.size) = some (cs.map (Value.int .i64)).length := by rw [List.length_map, hcs]; kernel_rfl
      unfold DagC ca at D12 D21 D121 D1 D2
      refine wp_region_held_drew (S := fun w' => w'.rangeAt w.heap.size 0 (cs.map (Value.int .i64)) ∧ w'.cell? ⟨w.heap.size + 1, 0, none⟩ = some (.int .i64 op1) ∧ w'.cell? ⟨w.heap.size + 1, 1, none⟩ = some (.int .i64 wd1) ∧ w'.cell? ⟨w.heap.size + 1, 2, none⟩ = some (.int .u64 vl1) ∧ w'.cell? ⟨w.heap.size + 1, 3, none⟩ = some (.string nm1) ∧ w'.cell? ⟨w.heap.size + 1, 4, none⟩ = some (.slice p1 ts1.length c1) ∧ w'.cell? ⟨w.heap.size + 1 + 1, 0, none⟩ = some (.int .i64 op2) ∧ w'.cell? ⟨w.heap.size + 1 + 1, 1, none⟩ = some (.int .i64 wd2) ∧ w'.cell? ⟨w.heap.size + 1 + 1, 2, none⟩ = some (.int .u64 vl2) ∧ w'.cell? ⟨w.heap.size + 1 + 1, 3, none⟩ = some (.string nm2) ∧ w'.cell? ⟨w.heap.size + 1 + 1, 4, none⟩ = some (.slice p2 ts2.length c2)) (by kernel_rfl) (eleven (HROW.out _ (hkI)) (HX.out _ (hkI)) (HY.out _ (hkI))) (fun hHeld => ?_)
      generalize w3.drew = wI at hHeld hkI ⊢
      refine' wpAnyH_take (i := 0) (v := _) rfl (by kernel_rfl) (by kernel_rfl) (by kernel_rfl) (fun _ _ _ h => h) (yieldsIf_load_mid (by rfl) _ _ rfl _ _ rfl _ _ (fun w hSw => hSw.1) hu23 rfl hi23) hHeld ?_
      try simp only [Act.put, List.setIfInBounds_toArray, List.set_cons_zero, List.set_cons_succ]
      refine wpAnyH_take (i := 1) (v := .agg #[.int .i64 op2, .int .i64 wd2, .int .u64 vl2, .string nm2, .slice p2 ts2.length c2]) rfl (by kernel_rfl) (by kernel_rfl) (by kernel_rfl) (fun _ _ _ h => h) (Or.inl ⟨by rfl, fun w hSw => by (obtain ⟨hS0, hS1, hS2, hS3, hS4, hS5, hT1, hT2, hT3, hT4, hT5⟩ := hSw; go_simp)⟩) hHeld ?_
      try simp only [Act.put, List.setIfInBounds_toArray, List.set_cons_zero, List.set_cons_succ]
      refine wpAnyH_take (i := 2) (v := .agg #[.int .i64 op1, .int .i64 wd1, .int .u64 vl1, .string nm1, .slice p1 ts1.length c1]) rfl (by kernel_rfl) (by kernel_rfl) (by kernel_rfl) (fun _ _ _ h => h) (Or.inl ⟨by rfl, fun w hSw => by (obtain ⟨hS0, hS1, hS2, hS3, hS4, hS5, hT1, hT2, hT3, hT4, hT5⟩ := hSw; go_simp)⟩) hHeld ?_
      try simp only [Act.put, List.setIfInBounds_toArray, List.set_cons_zero, List.set_cons_succ]
      refine wpAnyH_take (i := 5) (v := .int .i64 s) rfl (by kernel_rfl) (by kernel_rfl) (by kernel_rfl) (fun _ _ _ h => h) (Or.inl ⟨by rfl, fun w hSw => by (go_simp)⟩) hHeld ?_
      try simp only [Act.put, List.setIfInBounds_toArray, List.set_cons_zero, List.set_cons_succ]
      refine wpAnyH_ready (rs := [3]) (by kernel_rfl) (by simp) ?_
      refine AllReadyH.cons (o := _) rfl (fun K hK => ?_) AllReadyH.nil
      go_simp
      refine hK.out _ _ (eleven (HROW.out _ (bk_alloc hkI _)) (HX.out _ (bk_alloc hkI _)) (HY.out _ (bk_alloc hkI _))) (fun hHeld => ?_)
      clear hK K
      try simp only [Act.put, List.setIfInBounds_toArray, List.set_cons_zero, List.set_cons_succ]
      refine wpAnyH_ready (rs := [4]) (by kernel_rfl) (by simp) ?_
      refine AllReadyH.cons (o := _) rfl (fun K hK => ?_) AllReadyH.nil
      go_simp
      go_at_call 18; with_reducible refine (D21.out _ _ _ (row2 (p1 := p2) (p2 := p1) (HR2.out _ hkI) HF.out.2 (HR1.out _ hkI) HF.out.1) (HTB.out _ (bk_alloc hkI _))).mono ?_; rintro e w6 ⟨rfl, hq⟩; have hkA := bk_tr (bk_alloc hkI _) hq
      refine hK.out _ _ (eleven (HROW.out _ (hkA)) (HX.out _ (hkA)) (HY.out _ (hkA))) (fun hHeld => ?_)
      clear hK K
      try simp only [Act.put, List.setIfInBounds_toArray, List.set_cons_zero, List.set_cons_succ]
      refine wpAnyH_take (i := 6) (v := .bool true) rfl (by kernel_rfl) (by kernel_rfl) (by kernel_rfl) (fun _ _ _ h => h) (Or.inl ⟨by rfl, fun w hSw => by (go_simp)⟩) hHeld ?_
      try simp only [Act.put, List.setIfInBounds_toArray, List.set_cons_zero, List.set_cons_succ]
      refine wpAnyH_take (i := 7) (v := .bool true) rfl (by kernel_rfl) (by kernel_rfl) (by kernel_rfl) (fun _ _ _ h => h) (Or.inl ⟨by rfl, fun w hSw => by (go_simp)⟩) hHeld ?_
      try simp only [Act.put, List.setIfInBounds_toArray, List.set_cons_zero, List.set_cons_succ]
      refine' wpAnyH_take (i := 8) (v := _) rfl (by kernel_rfl) (by kernel_rfl) (by kernel_rfl) (fun _ _ _ h => h) (yieldsIf_load_mid (by rfl) _ _ rfl _ _ rfl _ _ (fun w hSw => hSw.1) hu23 rfl hi23) hHeld ?_
      try simp only [Act.put, List.setIfInBounds_toArray, List.set_cons_zero, List.set_cons_succ]
      refine wpAnyH_take (i := 9) (v := .agg #[.int .i64 op1, .int .i64 wd1, .int .u64 vl1, .string nm1, .slice p1 ts1.length c1]) rfl (by kernel_rfl) (by kernel_rfl) (by kernel_rfl) (fun _ _ _ h => h) (Or.inl ⟨by rfl, fun w hSw => by (obtain ⟨hS0, hS1, hS2, hS3, hS4, hS5, hT1, hT2, hT3, hT4, hT5⟩ := hSw; go_simp)⟩) hHeld ?_
      try simp only [Act.put, List.setIfInBounds_toArray, List.set_cons_zero, List.set_cons_succ]
      refine wpAnyH_take (i := 10) (v := .agg #[.int .i64 op2, .int .i64 wd2, .int .u64 vl2, .string nm2, .slice p2 ts2.length c2]) rfl (by kernel_rfl) (by kernel_rfl) (by kernel_rfl) (fun _ _ _ h => h) (Or.inl ⟨by rfl, fun w hSw => by (obtain ⟨hS0, hS1, hS2, hS3, hS4, hS5, hT1, hT2, hT3, hT4, hT5⟩ := hSw; go_simp)⟩) hHeld ?_
      try simp only [Act.put, List.setIfInBounds_toArray, List.set_cons_zero, List.set_cons_succ]
      refine wpAnyH_take (i := 11) (v := .agg #[.int .i64 op1, .int .i64 wd1, .int .u64 vl1, .string nm1, .slice p1 ts1.length c1]) rfl (by kernel_rfl) (by kernel_rfl) (by kernel_rfl) (fun _ _ _ h => h) (Or.inl ⟨by rfl, fun w hSw => by (obtain ⟨hS0, hS1, hS2, hS3, hS4, hS5, hT1, hT2, hT3, hT4, hT5⟩ := hSw; go_simp)⟩) hHeld ?_
      try simp only [Act.put, List.setIfInBounds_toArray, List.set_cons_zero, List.set_cons_succ]
      refine wpAnyH_take (i := 14) (v := .int .i64 s) rfl (by kernel_rfl) (by kernel_rfl) (by kernel_rfl) (fun _ _ _ h => h) (Or.inl ⟨by rfl, fun w hSw => by (go_simp)⟩) hHeld ?_
      try simp only [Act.put, List.setIfInBounds_toArray, List.set_cons_zero, List.set_cons_succ]
      refine wpAnyH_ready (rs := [12]) (by kernel_rfl) (by simp) ?_
      refine AllReadyH.cons (o := _) rfl (fun K hK => ?_) AllReadyH.nil
      go_simp
      refine hK.out _ _ (eleven (HROW.out _ (bk_alloc hkA _)) (HX.out _ (bk_alloc hkA _)) (HY.out _ (bk_alloc hkA _))) (fun hHeld => ?_)
      clear hK K
      try simp only [Act.put, List.setIfInBounds_toArray, List.set_cons_zero, List.set_cons_succ]
      refine wpAnyH_ready (rs := [13]) (by kernel_rfl) (by simp) ?_
      refine AllReadyH.cons (o := _) rfl (fun K hK => ?_) AllReadyH.nil
      go_simp
      go_at_call 18; with_reducible refine (D121.out _ _ _ (row3 (HR1.out _ hkA) HF.out.1 (HR2.out _ hkA) HF.out.2) (HTB.out _ (bk_alloc hkA _))).mono ?_; rintro e w6 ⟨rfl, hq⟩; have hkB := bk_tr (bk_alloc hkA _) hq
      refine hK.out _ _ (eleven (HROW.out _ (hkB)) (HX.out _ (hkB)) (HY.out _ (hkB))) (fun hHeld => ?_)
      clear hK K
      try simp only [Act.put, List.setIfInBounds_toArray, List.set_cons_zero, List.set_cons_succ]
      refine wpAnyH_take (i := 15) (v := .bool true) rfl (by kernel_rfl) (by kernel_rfl) (by kernel_rfl) (fun _ _ _ h => h) (Or.inl ⟨by rfl, fun w hSw => by (go_simp)⟩) hHeld ?_
      try simp only [Act.put, List.setIfInBounds_toArray, List.set_cons_zero, List.set_cons_succ]
      refine wpAnyH_take (i := 16) (v := .bool true) rfl (by kernel_rfl) (by kernel_rfl) (by kernel_rfl) (fun _ _ _ h => h) (Or.inl ⟨by rfl, fun w hSw => by (go_simp)⟩) hHeld ?_
      try simp only [Act.put, List.setIfInBounds_toArray, List.set_cons_zero, List.set_cons_succ]
      refine wpAnyH_take (i := 17) (v := .bool true) rfl (by kernel_rfl) (by kernel_rfl) (by kernel_rfl) (fun _ _ _ h => h) (Or.inl ⟨by rfl, fun w hSw => by (go_simp)⟩) hHeld ?_
      try simp only [Act.put, List.setIfInBounds_toArray, List.set_cons_zero, List.set_cons_succ]
      refine' wpAnyH_take (i := 18) (v := _) rfl (by kernel_rfl) (by kernel_rfl) (by kernel_rfl) (fun _ _ _ h => h) (yieldsIf_load_mid (by rfl) _ _ rfl _ _ rfl _ _ (fun w hSw => hSw.1) hu23 rfl hi23) hHeld ?_
      try simp only [Act.put, List.setIfInBounds_toArray, List.set_cons_zero, List.set_cons_succ]
      refine wpAnyH_take (i := 19) (v := .agg #[.int .i64 op1, .int .i64 wd1, .int .u64 vl1, .string nm1, .slice p1 ts1.length c1]) rfl (by kernel_rfl) (by kernel_rfl) (by kernel_rfl) (fun _ _ _ h => h) (Or.inl ⟨by rfl, fun w hSw => by (obtain ⟨hS0, hS1, hS2, hS3, hS4, hS5, hT1, hT2, hT3, hT4, hT5⟩ := hSw; go_simp)⟩) hHeld ?_
      try simp only [Act.put, List.setIfInBounds_toArray, List.set_cons_zero, List.set_cons_succ]
      refine wpAnyH_take (i := 22) (v := .int .i64 s) rfl (by kernel_rfl) (by kernel_rfl) (by kernel_rfl) (fun _ _ _ h => h) (Or.inl ⟨by rfl, fun w hSw => by (go_simp)⟩) hHeld ?_
      try simp only [Act.put, List.setIfInBounds_toArray, List.set_cons_zero, List.set_cons_succ]
      refine wpAnyH_ready (rs := [20]) (by kernel_rfl) (by simp) ?_
      refine AllReadyH.cons (o := _) rfl (fun K hK => ?_) AllReadyH.nil
      go_simp
      refine hK.out _ _ (eleven (HROW.out _ (bk_alloc hkB _)) (HX.out _ (bk_alloc hkB _)) (HY.out _ (bk_alloc hkB _))) (fun hHeld => ?_)
      clear hK K
      try simp only [Act.put, List.setIfInBounds_toArray, List.set_cons_zero, List.set_cons_succ]
      refine wpAnyH_ready (rs := [21]) (by kernel_rfl) (by simp) ?_
      refine AllReadyH.cons (o := _) rfl (fun K hK => ?_) AllReadyH.nil
      go_simp
      go_at_call 18; with_reducible refine (D1.out _ _ _ (row1 (HR1.out _ hkB) HF.out.1) (HTB.out _ (bk_alloc hkB _))).mono ?_; rintro e w6 ⟨rfl, hq⟩; have hkC := bk_tr (bk_alloc hkB _) hq
      refine hK.out _ _ (eleven (HROW.out _ (hkC)) (HX.out _ (hkC)) (HY.out _ (hkC))) (fun hHeld => ?_)
      clear hK K
      try simp only [Act.put, List.setIfInBounds_toArray, List.set_cons_zero, List.set_cons_succ]
      have hdec : decide (a ≤ s) = true := decide_eq_true has
      have hdec2 : decide (s ≤ r) = true := decide_eq_true hsr
      refine wpAnyH_take (i := 23) (v := .bool true) rfl (by kernel_rfl) (by kernel_rfl) (by kernel_rfl) (fun _ _ _ h => h) (Or.inl ⟨by rfl, fun w hSw => by (go_simp; try (first | exact hdec | exact hdec2 | simp [has, hsr]))⟩) hHeld ?_
      try simp only [Act.put, List.setIfInBounds_toArray, List.set_cons_zero, List.set_cons_succ]
      refine wpAnyH_take (i := 24) (v := .bool true) rfl (by kernel_rfl) (by kernel_rfl) (by kernel_rfl) (fun _ _ _ h => h) (Or.inl ⟨by rfl, fun w hSw => by (go_simp)⟩) hHeld ?_
      try simp only [Act.put, List.setIfInBounds_toArray, List.set_cons_zero, List.set_cons_succ]
      refine wpAnyH_take (i := 25) (v := .bool true) rfl (by kernel_rfl) (by kernel_rfl) (by kernel_rfl) (fun _ _ _ h => h) (Or.inl ⟨by rfl, fun w hSw => by (go_simp)⟩) hHeld ?_
      try simp only [Act.put, List.setIfInBounds_toArray, List.set_cons_zero, List.set_cons_succ]
      refine wpAnyH_take (i := 26) (v := .int .i64 s) rfl (by kernel_rfl) (by kernel_rfl) (by kernel_rfl) (fun _ _ _ h => h) (Or.inl ⟨by rfl, fun w hSw => by (go_simp)⟩) hHeld ?_
      try simp only [Act.put, List.setIfInBounds_toArray, List.set_cons_zero, List.set_cons_succ]
      refine' wpAnyH_take (i := 27) (v := _) rfl (by kernel_rfl) (by kernel_rfl) (by kernel_rfl) (fun _ _ _ h => h) (yieldsIf_load_mid (by rfl) _ _ rfl _ _ rfl _ _ (fun w hSw => hSw.1) hu23 rfl hi23) hHeld ?_
      try simp only [Act.put, List.setIfInBounds_toArray, List.set_cons_zero, List.set_cons_succ]
      refine wpAnyH_take (i := 28) (v := .agg #[.int .i64 op1, .int .i64 wd1, .int .u64 vl1, .string nm1, .slice p1 ts1.length c1]) rfl (by kernel_rfl) (by kernel_rfl) (by kernel_rfl) (fun _ _ _ h => h) (Or.inl ⟨by rfl, fun w hSw => by (obtain ⟨hS0, hS1, hS2, hS3, hS4, hS5, hT1, hT2, hT3, hT4, hT5⟩ := hSw; go_simp)⟩) hHeld ?_
      try simp only [Act.put, List.setIfInBounds_toArray, List.set_cons_zero, List.set_cons_succ]
      refine' wpAnyH_take (i := 31) (v := _) rfl (by kernel_rfl) (by kernel_rfl) (by kernel_rfl) (fun _ _ _ h => h) (yieldsIf_load_mid (by rfl) _ _ rfl _ _ rfl _ _ (fun w hSw => hSw.1) hu23 rfl hi23) hHeld ?_
      try simp only [Act.put, List.setIfInBounds_toArray, List.set_cons_zero, List.set_cons_succ]
      refine wpAnyH_take (i := 32) (v := .agg #[.int .i64 op2, .int .i64 wd2, .int .u64 vl2, .string nm2, .slice p2 ts2.length c2]) rfl (by kernel_rfl) (by kernel_rfl) (by kernel_rfl) (fun _ _ _ h => h) (Or.inl ⟨by rfl, fun w hSw => by (obtain ⟨hS0, hS1, hS2, hS3, hS4, hS5, hT1, hT2, hT3, hT4, hT5⟩ := hSw; go_simp)⟩) hHeld ?_
      try simp only [Act.put, List.setIfInBounds_toArray, List.set_cons_zero, List.set_cons_succ]
      refine wpAnyH_ready (rs := [29, 33]) (by kernel_rfl) (by simp) ?_
      refine AllReadyH.cons (o := _) rfl (fun K hK => ?_) (AllReadyH.cons (o := _) rfl (fun K hK => ?_) AllReadyH.nil)
      · go_simp
        refine hK.out _ _ (eleven (HROW.out _ (bk_alloc hkC _)) (HX.out _ (bk_alloc hkC _)) (HY.out _ (bk_alloc hkC _))) (fun hHeld => ?_)
        clear hK K
        try simp only [Act.put, List.setIfInBounds_toArray, List.set_cons_zero, List.set_cons_succ]
        refine wpAnyH_ready (rs := [30, 33]) (by kernel_rfl) (by simp) ?_
        refine AllReadyH.cons (o := _) rfl (fun K hK => ?_) (AllReadyH.cons (o := _) rfl (fun K hK => ?_) AllReadyH.nil)
        · go_simp
          go_at_call 18; with_reducible refine (D1.out _ _ _ (row1 (HR1.out _ hkC) HF.out.1) (HTB.out _ (bk_alloc hkC _))).mono ?_; rintro e w6 ⟨rfl, hq⟩; have hkD := bk_tr (bk_alloc hkC _) hq
          refine hK.out _ _ (eleven (HROW.out _ (hkD)) (HX.out _ (hkD)) (HY.out _ (hkD))) (fun hHeld => ?_)
          clear hK K
          try simp only [Act.put, List.setIfInBounds_toArray, List.set_cons_zero, List.set_cons_succ]
          refine wpAnyH_ready (rs := [33]) (by kernel_rfl) (by simp) ?_
          refine AllReadyH.cons (o := _) rfl (fun K hK => ?_) AllReadyH.nil
          go_simp
          refine hK.out _ _ (eleven (HROW.out _ (bk_alloc hkD _)) (HX.out _ (bk_alloc hkD _)) (HY.out _ (bk_alloc hkD _))) (fun hHeld => ?_)
          clear hK K
          try simp only [Act.put, List.setIfInBounds_toArray, List.set_cons_zero, List.set_cons_succ]
          refine wpAnyH_ready (rs := [34]) (by kernel_rfl) (by simp) ?_
          refine AllReadyH.cons (o := _) rfl (fun K hK => ?_) AllReadyH.nil
          go_simp
          go_at_call 18; with_reducible refine (D2.out _ _ _ (row1 (HR2.out _ hkD) HF.out.2) (HTB.out _ (bk_alloc hkD _))).mono ?_; rintro e w6 ⟨rfl, hq⟩; have hkE := bk_tr (bk_alloc hkD _) hq
          refine hK.out _ _ (eleven (HROW.out _ (hkE)) (HX.out _ (hkE)) (HY.out _ (hkE))) (fun hHeld => ?_)
          clear hK K
          try simp only [Act.put, List.setIfInBounds_toArray, List.set_cons_zero, List.set_cons_succ]
          refine wpAnyH_ready (rs := [35]) (by kernel_rfl) (by simp) ?_
          refine AllReadyH.cons (o := _) rfl (fun K hK => ?_) AllReadyH.nil
          go_simp
          go_at_call 11; with_reducible refine (ADD.out _).mono ?_; rintro e w6 ⟨rfl, rfl⟩
          refine hK.out _ _ (eleven (HROW.out _ (hkE)) (HX.out _ (hkE)) (HY.out _ (hkE))) (fun hHeld => ?_)
          clear hK K
          try simp only [Act.put, List.setIfInBounds_toArray, List.set_cons_zero, List.set_cons_succ]
          refine wpAnyH_take (i := 36) (v := .bool true) rfl (by kernel_rfl) (by kernel_rfl) (by kernel_rfl) (fun _ _ _ h => h) (Or.inl ⟨by rfl, fun w hSw => by (go_simp; try (first | exact hdec | exact hdec2 | simp [has, hsr]))⟩) hHeld ?_
          try simp only [Act.put, List.setIfInBounds_toArray, List.set_cons_zero, List.set_cons_succ]
          refine wpAnyH_take (i := 37) (v := .bool true) rfl (by kernel_rfl) (by kernel_rfl) (by kernel_rfl) (fun _ _ _ h => h) (Or.inl ⟨by rfl, fun w hSw => by (go_simp)⟩) hHeld ?_
          try simp only [Act.put, List.setIfInBounds_toArray, List.set_cons_zero, List.set_cons_succ]
          refine wpAnyH_take (i := 38) (v := .bool true) rfl (by kernel_rfl) (by kernel_rfl) (by kernel_rfl) (fun _ _ _ h => h) (Or.inl ⟨by rfl, fun w hSw => by (go_simp)⟩) hHeld ?_
          try simp only [Act.put, List.setIfInBounds_toArray, List.set_cons_zero, List.set_cons_succ]
          refine wpAnyH_ready (rs := [39]) (by kernel_rfl) (by simp) ?_
          refine AllReadyH.cons (o := _) rfl (fun K hK => ?_) AllReadyH.nil
          go_simp
          go_at_call 14; refine (HT14.out _ hkE).mono ?_; rintro e w6 ⟨rfl, hq⟩; have hkF := bk_tr hkE hq
          refine hK.out _ _ (eleven (HROW.out _ (hkF)) (HX.out _ (hkF)) (HY.out _ (hkF))) (fun hHeld => ?_)
          clear hK K
          try simp only [Act.put, List.setIfInBounds_toArray, List.set_cons_zero, List.set_cons_succ]
          refine wpAnyH_ready (rs := [40]) (by kernel_rfl) (by simp) ?_
          refine AllReadyH.cons (o := _) rfl (fun K hK => ?_) AllReadyH.nil
          go_simp
          refine hK.out _ _ (eleven (HROW.out _ (hkF)) (HX.out _ (hkF)) (HY.out _ (hkF))) (fun hHeld => ?_)
          clear hK K
          try simp only [Act.put, List.setIfInBounds_toArray, List.set_cons_zero, List.set_cons_succ]
          refine wpAnyH_ready (rs := [41]) (by kernel_rfl) (by simp) ?_
          refine AllReadyH.cons (o := _) rfl (fun K hK => ?_) AllReadyH.nil
          go_simp
          refine hK.out _ _ (eleven (HROW.out _ (hkF)) (HX.out _ (hkF)) (HY.out _ (hkF))) (fun hHeld => ?_)
          clear hK K
          try simp only [Act.put, List.setIfInBounds_toArray, List.set_cons_zero, List.set_cons_succ]
          refine wpAnyH_done (by kernel_rfl) ?_ _
          have HE := Lib.hid hkF
          clear hkI hkA hkB hkC hkD hkE hkF
          go_wp2_with fail
          go_ret
          exact ⟨rfl, bk_tr HK0.out HE.out⟩
        · go_simp
          refine hK.out _ _ (eleven (HROW.out _ (bk_alloc (bk_alloc hkC _) _)) (HX.out _ (bk_alloc (bk_alloc hkC _) _)) (HY.out _ (bk_alloc (bk_alloc hkC _) _))) (fun hHeld => ?_)
          clear hK K
          try simp only [Act.put, List.setIfInBounds_toArray, List.set_cons_zero, List.set_cons_succ]
          refine wpAnyH_ready (rs := [30]) (by kernel_rfl) (by simp) ?_
          refine AllReadyH.cons (o := _) rfl (fun K hK => ?_) AllReadyH.nil
          go_simp
          go_at_call 18; with_reducible refine (D1.out _ _ _ ((row1 (HR1.out _ hkC) HF.out.1).keep (bk_alloc (BK.refl _) _)) (HTB.out _ (bk_alloc (bk_alloc hkC _) _))).mono ?_; rintro e w6 ⟨rfl, hq⟩; have hkD := bk_tr (bk_alloc (bk_alloc hkC _) _) hq
          refine hK.out _ _ (eleven (HROW.out _ (hkD)) (HX.out _ (hkD)) (HY.out _ (hkD))) (fun hHeld => ?_)
          clear hK K
          try simp only [Act.put, List.setIfInBounds_toArray, List.set_cons_zero, List.set_cons_succ]
          refine wpAnyH_ready (rs := [34]) (by kernel_rfl) (by simp) ?_
          refine AllReadyH.cons (o := _) rfl (fun K hK => ?_) AllReadyH.nil
          go_simp
          go_at_call 18; with_reducible refine (D2.out _ _ _ ((row1n (by simp) (HR2.out _ (bk_alloc hkC _)) HF.out.2).keep hq) (HTB.out _ hkD)).mono ?_; rintro e w6 ⟨rfl, hq2⟩; have hkE := bk_tr hkD hq2
          refine hK.out _ _ (eleven (HROW.out _ (hkE)) (HX.out _ (hkE)) (HY.out _ (hkE))) (fun hHeld => ?_)
          clear hK K
          try simp only [Act.put, List.setIfInBounds_toArray, List.set_cons_zero, List.set_cons_succ]
          refine wpAnyH_ready (rs := [35]) (by kernel_rfl) (by simp) ?_
          refine AllReadyH.cons (o := _) rfl (fun K hK => ?_) AllReadyH.nil
          go_simp
          go_at_call 11; with_reducible refine (ADD.out _).mono ?_; rintro e w6 ⟨rfl, rfl⟩
          refine hK.out _ _ (eleven (HROW.out _ (hkE)) (HX.out _ (hkE)) (HY.out _ (hkE))) (fun hHeld => ?_)
          clear hK K
          try simp only [Act.put, List.setIfInBounds_toArray, List.set_cons_zero, List.set_cons_succ]
          refine wpAnyH_take (i := 36) (v := .bool true) rfl (by kernel_rfl) (by kernel_rfl) (by kernel_rfl) (fun _ _ _ h => h) (Or.inl ⟨by rfl, fun w hSw => by (go_simp; try (first | exact hdec | exact hdec2 | simp [has, hsr]))⟩) hHeld ?_
          try simp only [Act.put, List.setIfInBounds_toArray, List.set_cons_zero, List.set_cons_succ]
          refine wpAnyH_take (i := 37) (v := .bool true) rfl (by kernel_rfl) (by kernel_rfl) (by kernel_rfl) (fun _ _ _ h => h) (Or.inl ⟨by rfl, fun w hSw => by (go_simp)⟩) hHeld ?_
          try simp only [Act.put, List.setIfInBounds_toArray, List.set_cons_zero, List.set_cons_succ]
          refine wpAnyH_take (i := 38) (v := .bool true) rfl (by kernel_rfl) (by kernel_rfl) (by kernel_rfl) (fun _ _ _ h => h) (Or.inl ⟨by rfl, fun w hSw => by (go_simp)⟩) hHeld ?_
          try simp only [Act.put, List.setIfInBounds_toArray, List.set_cons_zero, List.set_cons_succ]
          refine wpAnyH_ready (rs := [39]) (by kernel_rfl) (by simp) ?_
          refine AllReadyH.cons (o := _) rfl (fun K hK => ?_) AllReadyH.nil
          go_simp
          go_at_call 14; refine (HT14.out _ hkE).mono ?_; rintro e w6 ⟨rfl, hq⟩; have hkF := bk_tr hkE hq
          refine hK.out _ _ (eleven (HROW.out _ (hkF)) (HX.out _ (hkF)) (HY.out _ (hkF))) (fun hHeld => ?_)
          clear hK K
          try simp only [Act.put, List.setIfInBounds_toArray, List.set_cons_zero, List.set_cons_succ]
          refine wpAnyH_ready (rs := [40]) (by kernel_rfl) (by simp) ?_
          refine AllReadyH.cons (o := _) rfl (fun K hK => ?_) AllReadyH.nil
          go_simp
          refine hK.out _ _ (eleven (HROW.out _ (hkF)) (HX.out _ (hkF)) (HY.out _ (hkF))) (fun hHeld => ?_)
          clear hK K
          try simp only [Act.put, List.setIfInBounds_toArray, List.set_cons_zero, List.set_cons_succ]
          refine wpAnyH_ready (rs := [41]) (by kernel_rfl) (by simp) ?_
          refine AllReadyH.cons (o := _) rfl (fun K hK => ?_) AllReadyH.nil
          go_simp
          refine hK.out _ _ (eleven (HROW.out _ (hkF)) (HX.out _ (hkF)) (HY.out _ (hkF))) (fun hHeld => ?_)
          clear hK K
          try simp only [Act.put, List.setIfInBounds_toArray, List.set_cons_zero, List.set_cons_succ]
          refine wpAnyH_done (by kernel_rfl) ?_ _
          have HE := Lib.hid hkF
          clear hkI hkA hkB hkC hkD hkE hkF
          go_wp2_with fail
          go_ret
          exact ⟨rfl, bk_tr HK0.out HE.out⟩
      · go_simp
        refine hK.out _ _ (eleven (HROW.out _ (bk_alloc hkC _)) (HX.out _ (bk_alloc hkC _)) (HY.out _ (bk_alloc hkC _))) (fun hHeld => ?_)
        clear hK K
        try simp only [Act.put, List.setIfInBounds_toArray, List.set_cons_zero, List.set_cons_succ]
        refine wpAnyH_ready (rs := [29]) (by kernel_rfl) (by simp) ?_
        refine AllReadyH.cons (o := _) rfl (fun K hK => ?_) AllReadyH.nil
        go_simp
        refine hK.out _ _ (eleven (HROW.out _ (bk_alloc (bk_alloc hkC _) _)) (HX.out _ (bk_alloc (bk_alloc hkC _) _)) (HY.out _ (bk_alloc (bk_alloc hkC _) _))) (fun hHeld => ?_)
        clear hK K
        try simp only [Act.put, List.setIfInBounds_toArray, List.set_cons_zero, List.set_cons_succ]
        refine wpAnyH_ready (rs := [30]) (by kernel_rfl) (by simp) ?_
        refine AllReadyH.cons (o := _) rfl (fun K hK => ?_) AllReadyH.nil
        go_simp
        go_at_call 18; with_reducible refine (D1.out _ _ _ (row1n (by simp) (HR1.out _ (bk_alloc hkC _)) HF.out.1) (HTB.out _ (bk_alloc (bk_alloc hkC _) _))).mono ?_; rintro e w6 ⟨rfl, hq⟩; have hkD := bk_tr (bk_alloc (bk_alloc hkC _) _) hq
        refine hK.out _ _ (eleven (HROW.out _ (hkD)) (HX.out _ (hkD)) (HY.out _ (hkD))) (fun hHeld => ?_)
        clear hK K
        try simp only [Act.put, List.setIfInBounds_toArray, List.set_cons_zero, List.set_cons_succ]
        refine wpAnyH_ready (rs := [34]) (by kernel_rfl) (by simp) ?_
        refine AllReadyH.cons (o := _) rfl (fun K hK => ?_) AllReadyH.nil
        go_simp
        go_at_call 18; with_reducible refine (D2.out _ _ _ (((row1 (HR2.out _ hkC) HF.out.2).keep (bk_alloc (BK.refl _) _)).keep hq) (HTB.out _ hkD)).mono ?_; rintro e w6 ⟨rfl, hq2⟩; have hkE := bk_tr hkD hq2
        refine hK.out _ _ (eleven (HROW.out _ (hkE)) (HX.out _ (hkE)) (HY.out _ (hkE))) (fun hHeld => ?_)
        clear hK K
        try simp only [Act.put, List.setIfInBounds_toArray, List.set_cons_zero, List.set_cons_succ]
        refine wpAnyH_ready (rs := [35]) (by kernel_rfl) (by simp) ?_
        refine AllReadyH.cons (o := _) rfl (fun K hK => ?_) AllReadyH.nil
        go_simp
        go_at_call 11; with_reducible refine (ADD.out _).mono ?_; rintro e w6 ⟨rfl, rfl⟩
        refine hK.out _ _ (eleven (HROW.out _ (hkE)) (HX.out _ (hkE)) (HY.out _ (hkE))) (fun hHeld => ?_)
        clear hK K
        try simp only [Act.put, List.setIfInBounds_toArray, List.set_cons_zero, List.set_cons_succ]
        refine wpAnyH_take (i := 36) (v := .bool true) rfl (by kernel_rfl) (by kernel_rfl) (by kernel_rfl) (fun _ _ _ h => h) (Or.inl ⟨by rfl, fun w hSw => by (go_simp; try (first | exact hdec | exact hdec2 | simp [has, hsr]))⟩) hHeld ?_
        try simp only [Act.put, List.setIfInBounds_toArray, List.set_cons_zero, List.set_cons_succ]
        refine wpAnyH_take (i := 37) (v := .bool true) rfl (by kernel_rfl) (by kernel_rfl) (by kernel_rfl) (fun _ _ _ h => h) (Or.inl ⟨by rfl, fun w hSw => by (go_simp)⟩) hHeld ?_
        try simp only [Act.put, List.setIfInBounds_toArray, List.set_cons_zero, List.set_cons_succ]
        refine wpAnyH_take (i := 38) (v := .bool true) rfl (by kernel_rfl) (by kernel_rfl) (by kernel_rfl) (fun _ _ _ h => h) (Or.inl ⟨by rfl, fun w hSw => by (go_simp)⟩) hHeld ?_
        try simp only [Act.put, List.setIfInBounds_toArray, List.set_cons_zero, List.set_cons_succ]
        refine wpAnyH_ready (rs := [39]) (by kernel_rfl) (by simp) ?_
        refine AllReadyH.cons (o := _) rfl (fun K hK => ?_) AllReadyH.nil
        go_simp
        go_at_call 14; refine (HT14.out _ hkE).mono ?_; rintro e w6 ⟨rfl, hq⟩; have hkF := bk_tr hkE hq
        refine hK.out _ _ (eleven (HROW.out _ (hkF)) (HX.out _ (hkF)) (HY.out _ (hkF))) (fun hHeld => ?_)
        clear hK K
        try simp only [Act.put, List.setIfInBounds_toArray, List.set_cons_zero, List.set_cons_succ]
        refine wpAnyH_ready (rs := [40]) (by kernel_rfl) (by simp) ?_
        refine AllReadyH.cons (o := _) rfl (fun K hK => ?_) AllReadyH.nil
        go_simp
        refine hK.out _ _ (eleven (HROW.out _ (hkF)) (HX.out _ (hkF)) (HY.out _ (hkF))) (fun hHeld => ?_)
        clear hK K
        try simp only [Act.put, List.setIfInBounds_toArray, List.set_cons_zero, List.set_cons_succ]
        refine wpAnyH_ready (rs := [41]) (by kernel_rfl) (by simp) ?_
        refine AllReadyH.cons (o := _) rfl (fun K hK => ?_) AllReadyH.nil
        go_simp
        refine hK.out _ _ (eleven (HROW.out _ (hkF)) (HX.out _ (hkF)) (HY.out _ (hkF))) (fun hHeld => ?_)
        clear hK K
        try simp only [Act.put, List.setIfInBounds_toArray, List.set_cons_zero, List.set_cons_succ]
        refine wpAnyH_done (by kernel_rfl) ?_ _
        have HE := Lib.hid hkF
        clear hkI hkA hkB hkC hkD hkE hkF
        go_wp2_with fail
        go_ret
        exact ⟨rfl, bk_tr HK0.out HE.out⟩
end Go.Proofs.YtmejiiebeknbjaaDoor
