/- The law of a term and its operands, walked. -/
import Derived.Test.YtmejiiebeknbjaaDoorS
import Derived.Test.YtmejiiebeknbjaaDoorU
namespace Go.Proofs.YtmejiiebeknbjaaDoor
open Go.RowKit Go.Maps
set_option linter.unusedVariables false
set_option linter.unusedSimpArgs false
theorem eleven5 {w' : World} {a b d o : Nat} {L : List Value} {x0 x1 x2 x3 x4 y0 y1 y2 y3 y4 : Value} (hr : w'.rangeAt a 0 L) (h : B5 w' b x0 x1 x2 x3 x4) (k : C5 w' d o y0 y1 y2 y3 y4) : w'.rangeAt a 0 L ∧ w'.cell? ⟨b, 0, none⟩ = some x0 ∧ w'.cell? ⟨b, 1, none⟩ = some x1 ∧ w'.cell? ⟨b, 2, none⟩ = some x2 ∧ w'.cell? ⟨b, 3, none⟩ = some x3 ∧ w'.cell? ⟨b, 4, none⟩ = some x4 ∧ w'.cell? ⟨d, o, none⟩ = some y0 ∧ w'.cell? ⟨d, o + 1, none⟩ = some y1 ∧ w'.cell? ⟨d, o + 2, none⟩ = some y2 ∧ w'.cell? ⟨d, o + 3, none⟩ = some y3 ∧ w'.cell? ⟨d, o + 4, none⟩ = some y4 :=
  ⟨hr, h.1, h.2.1, h.2.2.1, h.2.2.2.1, h.2.2.2.2, k⟩
/-- a call of Tree over a term -/
def TreeC (cs : List Int) (t : T) (r : Int) : Prop := ∀ op wd vl nm ts, t = .mk op wd vl nm ts → ∀ (w : World) (p : Option Addr) (c : Nat), Row w p c ts →
  Calls Tryd.prog 16 #[.agg (ca cs), .agg #[.int .i64 op, .int .i64 wd, .int .u64 vl, .string nm, .slice p ts.length c]] w fun e w' => e = .returned (.int .i64 r) ∧ BK w w'
theorem grows_calls (cs : List Int) (hcs : cs.length = 32) (op wd : Int) (vl : Nat) (nm : ByteArray) (ts : List T) (hs : smallB (.mk op wd vl nm ts) 60 = true) (u : T) (hu : u ∈ ts) :
    ∃ r a b, TreeC cs u (treeC cs u) ∧ DagC cs [u] 1 a ∧ DagC cs [.mk op wd vl nm ts] 1 b ∧ TreeC cs (.mk op wd vl nm ts) r ∧ treeC cs u < r ∧ a < b := by
  have h1 := small_size (by omega) hs
  have h2 := size_mem hu
  have h3 : 1 + sizeL ts ≤ 60 := by rw [size] at h1; omega
  exact ⟨_, _, _, fun op wd vl nm ts h w p c hr => tree16 cs hcs u op wd vl nm ts h w p c hr, dagC cs hcs [u] (by simp only [sizeL]; omega), dagC cs hcs [T.mk op wd vl nm ts] (by simp only [sizeL]; omega), fun op' wd' vl' nm' ts' h w p c hr => tree16 cs hcs _ op' wd' vl' nm' ts' h w p c hr, tree_lt cs op wd vl nm ts u hu (by omega), dag_lt cs op wd vl nm ts u hu (by omega)⟩
set_option maxRecDepth 100000 in
set_option maxHeartbeats 40000000 in
theorem grows_law (cs : List Int) (hcs : cs.length = 32) (op1 wd1 : Int) (vl1 : Nat) (nm1 : ByteArray) (ts1 : List T) (p1 : Option Addr) (c1 : Nat) (w : World) (hr1 : Row w p1 c1 ts1) (hf1 : Wf op1 wd1 vl1 nm1) (htb : Tb w) :
    Calls Tryd.prog 8 #[.agg (ca cs), .agg #[.int .i64 op1, .int .i64 wd1, .int .u64 vl1, .string nm1, .slice p1 ts1.length c1]] w fun e w' => e = .returned (.bool true) ∧ BK w w' := by
  have hlen := hr1.len
  unfold maxLen at hlen
  have s1 : (w.alloc (.cells (ca cs) 23)).heap.size = w.heap.size + 1 := by simp
  have hx := b5_new (w.alloc (.cells (ca cs) 23)) (.int .i64 op1) (.int .i64 wd1) (.int .u64 vl1) (.string nm1) (.slice p1 ts1.length c1) 34
  have hlx := box_lt (w.alloc (.cells (ca cs) 23)) #[.int .i64 op1, .int .i64 wd1, .int .u64 vl1, .string nm1, .slice p1 ts1.length c1] 34
  rw [s1] at hx hlx
  have hk0 := bk_alloc (bk_alloc (BK.refl w) (.cells (ca cs) 23)) (.cells #[.int .i64 op1, .int .i64 wd1, .int .u64 vl1, .string nm1, .slice p1 ts1.length c1] 34)
  have hrow : ((w.alloc (.cells (ca cs) 23)).alloc (.cells #[.int .i64 op1, .int .i64 wd1, .int .u64 vl1, .string nm1, .slice p1 ts1.length c1] 34)).heap[w.heap.size]? = some (.cells (ca cs) 23 (0, 0)) := by
    rw [heap_alloc_old _ _ (by rw [s1]; omega)]; exact heap_alloc_new w _
  have hR1 := hr1.keep hk0
  have HT := Lib.hid (htb.keep hk0)
  have HF := Lib.hid hf1
  clear hr1 htb hf1 s1
  go_enter Tryd.func8, Tryd.ntmps8
  go_wp2_with fail
  generalize (w.alloc (.cells (ca cs) 23)).alloc (.cells #[.int .i64 op1, .int .i64 wd1, .int .u64 vl1, .string nm1, .slice p1 ts1.length c1] 34) = w0 at hx hlx hk0 hrow hR1 HT ⊢
  have HX := Lib.hid (fun wc (hb : BK w0 wc) => hx.keep hb hlx)
  have HR1 := Lib.hid (fun wc (hb : BK w0 wc) => hR1.keep hb)
  have hl0 : w.heap.size < w0.heap.size := by omega
  have HBL := Lib.hid (fun wc (hb : BK w0 wc) => ((show Below w0.heap.size w0 wc from hb).block w.heap.size hl0).trans hrow)
  have HROW := Lib.hid (fun wc (hb : BK w0 wc) => range_ca (cs := cs) (HBL.out wc hb))
  have HK0 := Lib.hid hk0
  have HTB := Lib.hid (fun wc (hb : BK w0 wc) => HT.out.keep hb)
  have HT14 := Lib.hid (fun wc (hb : BK w0 wc) => lives14 wc (HT.out.keep hb))
  obtain ⟨x0, x1, x2, x3, x4⟩ := hx
  clear hlx hk0 hrow hR1 hl0
  obtain ⟨b1, hb1⟩ : ∃ b, smallB (T.mk op1 wd1 vl1 nm1 ts1) 60 = b := ⟨_, rfl⟩
  have hS1 := fun wc (hb : BK w0 wc) => small15 op1 wd1 vl1 nm1 ts1 60 wc p1 c1 (HR1.out _ hb) (by omega) (by omega)
  rw [hb1] at hS1
  have HS1 := Lib.hid hS1
  have HB1 := Lib.hid hb1
  clear hS1 hb1
  refine (HS1.out _ (BK.refl _)).mono ?_
  rintro e w1 ⟨rfl, hb⟩
  have K1 := Lib.hid hb
  clear hb x0 x1 x2 x3 x4
  cases b1 with
  | false =>
    go_wp2_with fail
    refine (HT14.out _ K1.out).mono ?_
    rintro e w9 ⟨rfl, hb9⟩
    have H9 := Lib.hid (bk_tr K1.out hb9)
    clear hb9
    go_wp2_with fail
    go_ret
    exact ⟨rfl, bk_tr HK0.out H9.out⟩
  | true =>
    have HTT := Lib.hid (show TreeC cs (T.mk op1 wd1 vl1 nm1 ts1) (treeC cs (T.mk op1 wd1 vl1 nm1 ts1)) from fun op' wd' vl' nm' ts' h w p c hr => tree16 cs hcs _ op' wd' vl' nm' ts' h w p c hr)
    have HTS := Lib.hid (show treeC cs (T.mk op1 wd1 vl1 nm1 ts1) = treeL cs (nodeC cs op1) ts1 by rw [treeC])
    obtain ⟨x0, x1, x2, x3, x4⟩ := HX.out _ K1.out
    have hrow := HBL.out _ K1.out
    go_wp2_with (with_reducible refine wpList_load_row rfl 23 _ rfl w.heap.size rfl 23 (ca cs) (0, 0) _ hrow Tryd.underlying23 rfl (by rw [ca_size, hcs]; kernel_rfl) ?_)
    clear hrow x0 x1 x2 x3 x4
    refine (node9 cs op1 w1 hcs).mono ?_
    rintro e w2 ⟨rfl, hb⟩
    have K2 := Lib.hid (bk_tr K1.out hb)
    clear hb
    obtain ⟨x0, x1, x2, x3, x4⟩ := HX.out _ K2.out
    obtain ⟨s0, hn0⟩ : ∃ s, nodeC cs op1 = s := ⟨_, rfl⟩
    have hTS := HTS.out
    rw [hn0] at hTS ⊢
    have HN := Lib.hid hTS
    clear hTS HTS hn0
    go_wp2_with fail
    clear x0 x1 x2 x3 x4
    go_loopw [5, 19] (fun y x wr => ∃ (k : Nat) (s : Int), k ≤ ts1.length ∧ x = .int .i64 k ∧ y = .int .i64 s ∧ treeL cs s0 ts1 = treeL cs s (ts1.drop k) ∧ BK w0 wr) (fun _ x _ => ts1.length - (intOf x).toNat)
    case atStart => exact ⟨0, s0, Nat.zero_le _, rfl, rfl, rfl, K2.out⟩
    case round =>
      obtain ⟨k, s, hk, rfl, rfl, hs, hkw⟩ := hrel
      have HK := Lib.hid hkw
      by_cases hlt : k < ts1.length
      · have HS := Lib.hid (hs.trans (treeL_drop cs ts1 k hlt s))
        obtain ⟨b, o, op2, wd2, vl2, nm2, us, q, d, rfl, htk, hc5, hw5, hr5⟩ := (HR1.out _ hkw).get hlt
        have hlb := World.block_lt_of_cell? wr _ hc5.1
        have HC5 := Lib.hid (fun wc (hb : BK wr wc) => hc5.keep hb)
        have HR5 := Lib.hid (fun wc (hb : BK wr wc) => hr5.keep hb)
        have HW5 := Lib.hid hw5
        obtain ⟨r, a, b2, hc16, hd1, hdt, htt, hlt1, hlt2⟩ := grows_calls cs hcs op1 wd1 vl1 nm1 ts1 HB1.out ts1[k] (List.getElem_mem hlt)
        rw [htk] at hd1
        have C16 := Lib.hid (fun wc (hb : BK wr wc) => hc16 op2 wd2 vl2 nm2 us htk wc q d (HR5.out _ hb))
        generalize treeC cs ts1[k] = m2 at C16 HS hlt1
        have D1 := Lib.hid hd1
        have DT := Lib.hid hdt
        have TTT := Lib.hid (fun wc (hb : BK w0 wc) => htt op1 wd1 vl1 nm1 ts1 rfl wc _ c1 (HR1.out _ hb))
        have ADD := Lib.hid (fun wc => add11 s m2 wc)
        clear hkw hc5 hw5 hr5 hs hc16 hd1 hdt htt htk hlb
        have hu23 := Tryd.underlying23
        have hi23 : (Tryd.prog.info? 23).map (·.size) = some (cs.map (Value.int .i64)).length := by rw [List.length_map, hcs]; kernel_rfl
        unfold ca at C16 TTT
        unfold DagC ca at D1 DT
        go_wp2_with fail
        have hkI := bk_drew HK.out
        have hjI := bk_drew (BK.refl wr)
        refine wp_region_held_drew (S := fun w' => w'.rangeAt w.heap.size 0 (cs.map (Value.int .i64)) ∧ w'.cell? ⟨w.heap.size + 1, 0, none⟩ = some (.int .i64 op1) ∧ w'.cell? ⟨w.heap.size + 1, 1, none⟩ = some (.int .i64 wd1) ∧ w'.cell? ⟨w.heap.size + 1, 2, none⟩ = some (.int .u64 vl1) ∧ w'.cell? ⟨w.heap.size + 1, 3, none⟩ = some (.string nm1) ∧ w'.cell? ⟨w.heap.size + 1, 4, none⟩ = some (.slice (some ⟨b, o, none⟩) ts1.length c1) ∧ w'.cell? ⟨b, o + k * 5, none⟩ = some (.int .i64 op2) ∧ w'.cell? ⟨b, o + k * 5 + 1, none⟩ = some (.int .i64 wd2) ∧ w'.cell? ⟨b, o + k * 5 + 2, none⟩ = some (.int .u64 vl2) ∧ w'.cell? ⟨b, o + k * 5 + 3, none⟩ = some (.string nm2) ∧ w'.cell? ⟨b, o + k * 5 + 4, none⟩ = some (.slice q us.length d)) (by kernel_rfl) (eleven5 (HROW.out _ (bk_drew HK.out)) (HX.out _ (bk_drew HK.out)) (HC5.out _ (bk_drew (BK.refl wr)))) (fun hHeld => ?_)
        generalize wr.drew = wI at hHeld hkI hjI ⊢
        refine' wpAnyH_take (i := 0) (v := _) rfl (by kernel_rfl) (by kernel_rfl) (by kernel_rfl) (fun _ _ _ h => h) (yieldsIf_load_mid (by kernel_rfl) _ _ rfl _ _ rfl _ _ (fun w hSw => hSw.1) hu23 rfl hi23) hHeld ?_
        try simp only [Act.put, List.setIfInBounds_toArray, List.set_cons_zero, List.set_cons_succ]
        refine wpAnyH_take (i := 1) (v := .pointer (some ⟨w.heap.size + 1, 4, none⟩)) rfl (by kernel_rfl) (by kernel_rfl) (by kernel_rfl) (fun _ _ _ h => h) (Or.inl ⟨by kernel_rfl, fun w hSw => by (obtain ⟨hS0, hS1, hS2, hS3, hS4, hS5, hT1, hT2, hT3, hT4, hT5⟩ := hSw; go_simp)⟩) hHeld ?_
        try simp only [Act.put, List.setIfInBounds_toArray, List.set_cons_zero, List.set_cons_succ]
        refine wpAnyH_take (i := 2) (v := .slice (some ⟨b, o, none⟩) ts1.length c1) rfl (by kernel_rfl) (by kernel_rfl) (by kernel_rfl) (fun _ _ _ h => h) (Or.inl ⟨by kernel_rfl, fun w hSw => by (obtain ⟨hS0, hS1, hS2, hS3, hS4, hS5, hT1, hT2, hT3, hT4, hT5⟩ := hSw; go_simp)⟩) hHeld ?_
        try simp only [Act.put, List.setIfInBounds_toArray, List.set_cons_zero, List.set_cons_succ]
        refine wpAnyH_take (i := 3) (v := .int .i64 k) rfl (by kernel_rfl) (by kernel_rfl) (by kernel_rfl) (fun _ _ _ h => h) (Or.inl ⟨by kernel_rfl, fun w hSw => by (go_simp)⟩) hHeld ?_
        try simp only [Act.put, List.setIfInBounds_toArray, List.set_cons_zero, List.set_cons_succ]
        refine wpAnyH_take (i := 4) (v := .pointer (some ⟨b, o + k * 5, none⟩)) rfl (by kernel_rfl) (by kernel_rfl) (by kernel_rfl) (fun _ _ _ h => h) (Or.inl ⟨by kernel_rfl, fun w hSw => by (have hlt' := hlt; go_simp; try (go_num))⟩) hHeld ?_
        try simp only [Act.put, List.setIfInBounds_toArray, List.set_cons_zero, List.set_cons_succ]
        refine wpAnyH_take (i := 5) (v := .agg #[.int .i64 op2, .int .i64 wd2, .int .u64 vl2, .string nm2, .slice q us.length d]) rfl (by kernel_rfl) (by kernel_rfl) (by kernel_rfl) (fun _ _ _ h => h) (Or.inl ⟨by kernel_rfl, fun w hSw => by (obtain ⟨hS0, hS1, hS2, hS3, hS4, hS5, hT1, hT2, hT3, hT4, hT5⟩ := hSw; go_simp)⟩) hHeld ?_
        try simp only [Act.put, List.setIfInBounds_toArray, List.set_cons_zero, List.set_cons_succ]
        refine wpAnyH_ready (rs := [6]) (by kernel_rfl) (by simp) ?_
        refine AllReadyH.cons (o := _) rfl (fun K hK => ?_) AllReadyH.nil
        go_simp
        go_at_call 16; with_reducible refine (C16.out _ hjI).mono ?_; rintro e w6 ⟨rfl, hq⟩; have hkA := bk_tr hkI hq; have hjA := bk_tr hjI hq
        refine hK.out _ _ (eleven5 (HROW.out _ (hkA)) (HX.out _ (hkA)) (HC5.out _ (hjA))) (fun hHeld => ?_)
        clear hK K
        try simp only [Act.put, List.setIfInBounds_toArray, List.set_cons_zero, List.set_cons_succ]
        refine wpAnyH_ready (rs := [7]) (by kernel_rfl) (by simp) ?_
        refine AllReadyH.cons (o := _) rfl (fun K hK => ?_) AllReadyH.nil
        go_simp
        refine hK.out _ _ (eleven5 (HROW.out _ (hkA)) (HX.out _ (hkA)) (HC5.out _ (hjA))) (fun hHeld => ?_)
        clear hK K
        try simp only [Act.put, List.setIfInBounds_toArray, List.set_cons_zero, List.set_cons_succ]
        refine wpAnyH_done (by kernel_rfl) ?_ _
        have HC := Lib.hid hkA
        have HC2 := Lib.hid hjA
        clear hkI hjI hkA hjA
        go_wp2_with (go_at_call 11; refine (ADD.out _).mono ?_; rintro e w6 ⟨rfl, rfl⟩)
        generalize addC s m2 = s2 at HS ⊢
        have hkI := bk_drew HC.out
        have hjI := bk_drew HC2.out
        refine wp_region_held_drew (S := fun w' => w'.rangeAt w.heap.size 0 (cs.map (Value.int .i64)) ∧ w'.cell? ⟨w.heap.size + 1, 0, none⟩ = some (.int .i64 op1) ∧ w'.cell? ⟨w.heap.size + 1, 1, none⟩ = some (.int .i64 wd1) ∧ w'.cell? ⟨w.heap.size + 1, 2, none⟩ = some (.int .u64 vl1) ∧ w'.cell? ⟨w.heap.size + 1, 3, none⟩ = some (.string nm1) ∧ w'.cell? ⟨w.heap.size + 1, 4, none⟩ = some (.slice (some ⟨b, o, none⟩) ts1.length c1) ∧ w'.cell? ⟨b, o + k * 5, none⟩ = some (.int .i64 op2) ∧ w'.cell? ⟨b, o + k * 5 + 1, none⟩ = some (.int .i64 wd2) ∧ w'.cell? ⟨b, o + k * 5 + 2, none⟩ = some (.int .u64 vl2) ∧ w'.cell? ⟨b, o + k * 5 + 3, none⟩ = some (.string nm2) ∧ w'.cell? ⟨b, o + k * 5 + 4, none⟩ = some (.slice q us.length d)) (by kernel_rfl) (eleven5 (HROW.out _ (hkI)) (HX.out _ (hkI)) (HC5.out _ (hjI))) (fun hHeld => ?_)
        generalize w6.drew = wJ at hHeld hkI hjI ⊢
        refine wpAnyH_take (i := 0) (v := .int .i64 m2) rfl (by kernel_rfl) (by kernel_rfl) (by kernel_rfl) (fun _ _ _ h => h) (Or.inl ⟨by kernel_rfl, fun w hSw => by (go_simp)⟩) hHeld ?_
        try simp only [Act.put, List.setIfInBounds_toArray, List.set_cons_zero, List.set_cons_succ]
        refine' wpAnyH_take (i := 1) (v := _) rfl (by kernel_rfl) (by kernel_rfl) (by kernel_rfl) (fun _ _ _ h => h) (yieldsIf_load_mid (by kernel_rfl) _ _ rfl _ _ rfl _ _ (fun w hSw => hSw.1) hu23 rfl hi23) hHeld ?_
        try simp only [Act.put, List.setIfInBounds_toArray, List.set_cons_zero, List.set_cons_succ]
        refine wpAnyH_take (i := 2) (v := .agg #[.int .i64 op1, .int .i64 wd1, .int .u64 vl1, .string nm1, .slice (some ⟨b, o, none⟩) ts1.length c1]) rfl (by kernel_rfl) (by kernel_rfl) (by kernel_rfl) (fun _ _ _ h => h) (Or.inl ⟨by kernel_rfl, fun w hSw => by (obtain ⟨hS0, hS1, hS2, hS3, hS4, hS5, hT1, hT2, hT3, hT4, hT5⟩ := hSw; go_simp)⟩) hHeld ?_
        try simp only [Act.put, List.setIfInBounds_toArray, List.set_cons_zero, List.set_cons_succ]
        refine wpAnyH_ready (rs := [3]) (by kernel_rfl) (by simp) ?_
        refine AllReadyH.cons (o := _) rfl (fun K hK => ?_) AllReadyH.nil
        go_simp
        go_at_call 16; with_reducible refine (TTT.out _ hkI).mono ?_; rintro e w7 ⟨rfl, hq⟩; have hkA := bk_tr hkI hq; have hjA := bk_tr hjI hq
        refine hK.out _ _ (eleven5 (HROW.out _ (hkA)) (HX.out _ (hkA)) (HC5.out _ (hjA))) (fun hHeld => ?_)
        clear hK K
        try simp only [Act.put, List.setIfInBounds_toArray, List.set_cons_zero, List.set_cons_succ]
        have hdec : decide (r ≤ m2) = false := decide_eq_false (by omega)
        have hdec2 : decide (b2 ≤ a) = false := decide_eq_false (by omega)
        have hnle : ¬ r ≤ m2 := by omega
        have hnle2 : ¬ b2 ≤ a := by omega
        refine wpAnyH_take (i := 4) (v := .bool false) rfl (by kernel_rfl) (by kernel_rfl) (by kernel_rfl) (fun _ _ _ h => h) (Or.inl ⟨by kernel_rfl, fun w hSw => by (go_simp; try (first | exact hdec | exact hdec2 | simp [hnle, hnle2]))⟩) hHeld ?_
        try simp only [Act.put, List.setIfInBounds_toArray, List.set_cons_zero, List.set_cons_succ]
        refine wpAnyH_take (i := 5) (v := .bool false) rfl (by kernel_rfl) (by kernel_rfl) (by kernel_rfl) (fun _ _ _ h => h) (Or.inl ⟨by kernel_rfl, fun w hSw => by (go_simp)⟩) hHeld ?_
        try simp only [Act.put, List.setIfInBounds_toArray, List.set_cons_zero, List.set_cons_succ]
        refine' wpAnyH_take (i := 6) (v := _) rfl (by kernel_rfl) (by kernel_rfl) (by kernel_rfl) (fun _ _ _ h => h) (yieldsIf_load_mid (by kernel_rfl) _ _ rfl _ _ rfl _ _ (fun w hSw => hSw.1) hu23 rfl hi23) hHeld ?_
        try simp only [Act.put, List.setIfInBounds_toArray, List.set_cons_zero, List.set_cons_succ]
        refine wpAnyH_take (i := 7) (v := .pointer (some ⟨w.heap.size + 1, 4, none⟩)) rfl (by kernel_rfl) (by kernel_rfl) (by kernel_rfl) (fun _ _ _ h => h) (Or.inl ⟨by kernel_rfl, fun w hSw => by (go_simp)⟩) hHeld ?_
        try simp only [Act.put, List.setIfInBounds_toArray, List.set_cons_zero, List.set_cons_succ]
        refine wpAnyH_take (i := 8) (v := .slice (some ⟨b, o, none⟩) ts1.length c1) rfl (by kernel_rfl) (by kernel_rfl) (by kernel_rfl) (fun _ _ _ h => h) (Or.inl ⟨by kernel_rfl, fun w hSw => by (obtain ⟨hS0, hS1, hS2, hS3, hS4, hS5, hT1, hT2, hT3, hT4, hT5⟩ := hSw; go_simp)⟩) hHeld ?_
        try simp only [Act.put, List.setIfInBounds_toArray, List.set_cons_zero, List.set_cons_succ]
        refine wpAnyH_take (i := 9) (v := .int .i64 k) rfl (by kernel_rfl) (by kernel_rfl) (by kernel_rfl) (fun _ _ _ h => h) (Or.inl ⟨by kernel_rfl, fun w hSw => by (go_simp)⟩) hHeld ?_
        try simp only [Act.put, List.setIfInBounds_toArray, List.set_cons_zero, List.set_cons_succ]
        refine wpAnyH_take (i := 10) (v := .pointer (some ⟨b, o + k * 5, none⟩)) rfl (by kernel_rfl) (by kernel_rfl) (by kernel_rfl) (fun _ _ _ h => h) (Or.inl ⟨by kernel_rfl, fun w hSw => by (go_simp)⟩) hHeld ?_
        try simp only [Act.put, List.setIfInBounds_toArray, List.set_cons_zero, List.set_cons_succ]
        refine wpAnyH_take (i := 11) (v := .agg #[.int .i64 op2, .int .i64 wd2, .int .u64 vl2, .string nm2, .slice q us.length d]) rfl (by kernel_rfl) (by kernel_rfl) (by kernel_rfl) (fun _ _ _ h => h) (Or.inl ⟨by kernel_rfl, fun w hSw => by (obtain ⟨hS0, hS1, hS2, hS3, hS4, hS5, hT1, hT2, hT3, hT4, hT5⟩ := hSw; go_simp)⟩) hHeld ?_
        try simp only [Act.put, List.setIfInBounds_toArray, List.set_cons_zero, List.set_cons_succ]
        refine' wpAnyH_take (i := 14) (v := _) rfl (by kernel_rfl) (by kernel_rfl) (by kernel_rfl) (fun _ _ _ h => h) (yieldsIf_load_mid (by kernel_rfl) _ _ rfl _ _ rfl _ _ (fun w hSw => hSw.1) hu23 rfl hi23) hHeld ?_
        try simp only [Act.put, List.setIfInBounds_toArray, List.set_cons_zero, List.set_cons_succ]
        refine wpAnyH_take (i := 15) (v := .agg #[.int .i64 op1, .int .i64 wd1, .int .u64 vl1, .string nm1, .slice (some ⟨b, o, none⟩) ts1.length c1]) rfl (by kernel_rfl) (by kernel_rfl) (by kernel_rfl) (fun _ _ _ h => h) (Or.inl ⟨by kernel_rfl, fun w hSw => by (obtain ⟨hS0, hS1, hS2, hS3, hS4, hS5, hT1, hT2, hT3, hT4, hT5⟩ := hSw; go_simp)⟩) hHeld ?_
        try simp only [Act.put, List.setIfInBounds_toArray, List.set_cons_zero, List.set_cons_succ]
        refine wpAnyH_ready (rs := [12, 16]) (by kernel_rfl) (by simp) ?_
        refine AllReadyH.cons (o := _) rfl (fun K hK => ?_) (AllReadyH.cons (o := _) rfl (fun K hK => ?_) AllReadyH.nil)
        · go_simp
          refine hK.out _ _ (eleven5 (HROW.out _ (bk_alloc hkA _)) (HX.out _ (bk_alloc hkA _)) (HC5.out _ (bk_alloc hjA _))) (fun hHeld => ?_)
          clear hK K
          try simp only [Act.put, List.setIfInBounds_toArray, List.set_cons_zero, List.set_cons_succ]
          refine wpAnyH_ready (rs := [13, 16]) (by kernel_rfl) (by simp) ?_
          refine AllReadyH.cons (o := _) rfl (fun K hK => ?_) (AllReadyH.cons (o := _) rfl (fun K hK => ?_) AllReadyH.nil)
          · go_simp
            go_at_call 18; with_reducible refine (D1.out _ _ _ (row1 (HR5.out _ hjA) HW5.out) (HTB.out _ (bk_alloc hkA _))).mono ?_; rintro e w8 ⟨rfl, hq⟩; have hkB := bk_tr (bk_alloc hkA _) hq; have hjB := bk_tr (bk_alloc hjA _) hq
            refine hK.out _ _ (eleven5 (HROW.out _ (hkB)) (HX.out _ (hkB)) (HC5.out _ (hjB))) (fun hHeld => ?_)
            clear hK K
            try simp only [Act.put, List.setIfInBounds_toArray, List.set_cons_zero, List.set_cons_succ]
            refine wpAnyH_ready (rs := [16]) (by kernel_rfl) (by simp) ?_
            refine AllReadyH.cons (o := _) rfl (fun K hK => ?_) AllReadyH.nil
            go_simp
            refine hK.out _ _ (eleven5 (HROW.out _ (bk_alloc hkB _)) (HX.out _ (bk_alloc hkB _)) (HC5.out _ (bk_alloc hjB _))) (fun hHeld => ?_)
            clear hK K
            try simp only [Act.put, List.setIfInBounds_toArray, List.set_cons_zero, List.set_cons_succ]
            refine wpAnyH_ready (rs := [17]) (by kernel_rfl) (by simp) ?_
            refine AllReadyH.cons (o := _) rfl (fun K hK => ?_) AllReadyH.nil
            go_simp
            go_at_call 18; with_reducible refine (DT.out _ _ _ (row1 (HR1.out _ hkB) HF.out) (HTB.out _ (bk_alloc hkB _))).mono ?_; rintro e w8 ⟨rfl, hq⟩; have hkC := bk_tr (bk_alloc hkB _) hq; have hjC := bk_tr (bk_alloc hjB _) hq
            refine hK.out _ _ (eleven5 (HROW.out _ (hkC)) (HX.out _ (hkC)) (HC5.out _ (hjC))) (fun hHeld => ?_)
            clear hK K
            try simp only [Act.put, List.setIfInBounds_toArray, List.set_cons_zero, List.set_cons_succ]
            refine wpAnyH_take (i := 18) (v := .bool false) rfl (by kernel_rfl) (by kernel_rfl) (by kernel_rfl) (fun _ _ _ h => h) (Or.inl ⟨by kernel_rfl, fun w hSw => by (go_simp; try (first | exact hdec | exact hdec2 | simp [hnle, hnle2]))⟩) hHeld ?_
            try simp only [Act.put, List.setIfInBounds_toArray, List.set_cons_zero, List.set_cons_succ]
            refine wpAnyH_ready (rs := [19]) (by kernel_rfl) (by simp) ?_
            refine AllReadyH.cons (o := _) rfl (fun K hK => ?_) AllReadyH.nil
            go_simp
            refine hK.out _ _ (eleven5 (HROW.out _ (hkC)) (HX.out _ (hkC)) (HC5.out _ (hjC))) (fun hHeld => ?_)
            clear hK K
            try simp only [Act.put, List.setIfInBounds_toArray, List.set_cons_zero, List.set_cons_succ]
            refine wpAnyH_done (by kernel_rfl) ?_ _
            have HE := Lib.hid hkC
            clear hkI hkA hkB hkC hjI hjA hjB hjC
            go_wp2_with fail
            go_roundw
            case rel => exact ⟨k + 1, s2, by omega, by go_num, rfl, HS.out, HE.out⟩
            case measure => simp [intOf]; omega
          · go_simp
            refine hK.out _ _ (eleven5 (HROW.out _ (bk_alloc (bk_alloc hkA _) _)) (HX.out _ (bk_alloc (bk_alloc hkA _) _)) (HC5.out _ (bk_alloc (bk_alloc hjA _) _))) (fun hHeld => ?_)
            clear hK K
            try simp only [Act.put, List.setIfInBounds_toArray, List.set_cons_zero, List.set_cons_succ]
            refine wpAnyH_ready (rs := [13]) (by kernel_rfl) (by simp) ?_
            refine AllReadyH.cons (o := _) rfl (fun K hK => ?_) AllReadyH.nil
            go_simp
            go_at_call 18; with_reducible refine (D1.out _ _ _ ((row1 (HR5.out _ hjA) HW5.out).keep (bk_alloc (BK.refl _) _)) (HTB.out _ (bk_alloc (bk_alloc hkA _) _))).mono ?_; rintro e w8 ⟨rfl, hq⟩; have hkB := bk_tr (bk_alloc (bk_alloc hkA _) _) hq; have hjB := bk_tr (bk_alloc (bk_alloc hjA _) _) hq
            refine hK.out _ _ (eleven5 (HROW.out _ (hkB)) (HX.out _ (hkB)) (HC5.out _ (hjB))) (fun hHeld => ?_)
            clear hK K
            try simp only [Act.put, List.setIfInBounds_toArray, List.set_cons_zero, List.set_cons_succ]
            refine wpAnyH_ready (rs := [17]) (by kernel_rfl) (by simp) ?_
            refine AllReadyH.cons (o := _) rfl (fun K hK => ?_) AllReadyH.nil
            go_simp
            go_at_call 18; with_reducible refine (DT.out _ _ _ ((row1m (by simp) (HR1.out _ (bk_alloc hkA _)) HF.out).keep hq) (HTB.out _ (hkB))).mono ?_; rintro e w8 ⟨rfl, hq2⟩; have hkC := bk_tr (hkB) hq2; have hjC := bk_tr (hjB) hq2
            refine hK.out _ _ (eleven5 (HROW.out _ (hkC)) (HX.out _ (hkC)) (HC5.out _ (hjC))) (fun hHeld => ?_)
            clear hK K
            try simp only [Act.put, List.setIfInBounds_toArray, List.set_cons_zero, List.set_cons_succ]
            refine wpAnyH_take (i := 18) (v := .bool false) rfl (by kernel_rfl) (by kernel_rfl) (by kernel_rfl) (fun _ _ _ h => h) (Or.inl ⟨by kernel_rfl, fun w hSw => by (go_simp; try (first | exact hdec | exact hdec2 | simp [hnle, hnle2]))⟩) hHeld ?_
            try simp only [Act.put, List.setIfInBounds_toArray, List.set_cons_zero, List.set_cons_succ]
            refine wpAnyH_ready (rs := [19]) (by kernel_rfl) (by simp) ?_
            refine AllReadyH.cons (o := _) rfl (fun K hK => ?_) AllReadyH.nil
            go_simp
            refine hK.out _ _ (eleven5 (HROW.out _ (hkC)) (HX.out _ (hkC)) (HC5.out _ (hjC))) (fun hHeld => ?_)
            clear hK K
            try simp only [Act.put, List.setIfInBounds_toArray, List.set_cons_zero, List.set_cons_succ]
            refine wpAnyH_done (by kernel_rfl) ?_ _
            have HE := Lib.hid hkC
            clear hkI hkA hkB hkC hjI hjA hjB hjC
            go_wp2_with fail
            go_roundw
            case rel => exact ⟨k + 1, s2, by omega, by go_num, rfl, HS.out, HE.out⟩
            case measure => simp [intOf]; omega
        · go_simp
          refine hK.out _ _ (eleven5 (HROW.out _ (bk_alloc hkA _)) (HX.out _ (bk_alloc hkA _)) (HC5.out _ (bk_alloc hjA _))) (fun hHeld => ?_)
          clear hK K
          try simp only [Act.put, List.setIfInBounds_toArray, List.set_cons_zero, List.set_cons_succ]
          refine wpAnyH_ready (rs := [12]) (by kernel_rfl) (by simp) ?_
          refine AllReadyH.cons (o := _) rfl (fun K hK => ?_) AllReadyH.nil
          go_simp
          refine hK.out _ _ (eleven5 (HROW.out _ (bk_alloc (bk_alloc hkA _) _)) (HX.out _ (bk_alloc (bk_alloc hkA _) _)) (HC5.out _ (bk_alloc (bk_alloc hjA _) _))) (fun hHeld => ?_)
          clear hK K
          try simp only [Act.put, List.setIfInBounds_toArray, List.set_cons_zero, List.set_cons_succ]
          refine wpAnyH_ready (rs := [13]) (by kernel_rfl) (by simp) ?_
          refine AllReadyH.cons (o := _) rfl (fun K hK => ?_) AllReadyH.nil
          go_simp
          go_at_call 18; with_reducible refine (D1.out _ _ _ (row1m (by simp) (HR5.out _ (bk_alloc hjA _)) HW5.out) (HTB.out _ (bk_alloc (bk_alloc hkA _) _))).mono ?_; rintro e w8 ⟨rfl, hq⟩; have hkB := bk_tr (bk_alloc (bk_alloc hkA _) _) hq; have hjB := bk_tr (bk_alloc (bk_alloc hjA _) _) hq
          refine hK.out _ _ (eleven5 (HROW.out _ (hkB)) (HX.out _ (hkB)) (HC5.out _ (hjB))) (fun hHeld => ?_)
          clear hK K
          try simp only [Act.put, List.setIfInBounds_toArray, List.set_cons_zero, List.set_cons_succ]
          refine wpAnyH_ready (rs := [17]) (by kernel_rfl) (by simp) ?_
          refine AllReadyH.cons (o := _) rfl (fun K hK => ?_) AllReadyH.nil
          go_simp
          go_at_call 18; with_reducible refine (DT.out _ _ _ (((row1 (HR1.out _ hkA) HF.out).keep (bk_alloc (BK.refl _) _)).keep hq) (HTB.out _ (hkB))).mono ?_; rintro e w8 ⟨rfl, hq2⟩; have hkC := bk_tr (hkB) hq2; have hjC := bk_tr (hjB) hq2
          refine hK.out _ _ (eleven5 (HROW.out _ (hkC)) (HX.out _ (hkC)) (HC5.out _ (hjC))) (fun hHeld => ?_)
          clear hK K
          try simp only [Act.put, List.setIfInBounds_toArray, List.set_cons_zero, List.set_cons_succ]
          refine wpAnyH_take (i := 18) (v := .bool false) rfl (by kernel_rfl) (by kernel_rfl) (by kernel_rfl) (fun _ _ _ h => h) (Or.inl ⟨by kernel_rfl, fun w hSw => by (go_simp; try (first | exact hdec | exact hdec2 | simp [hnle, hnle2]))⟩) hHeld ?_
          try simp only [Act.put, List.setIfInBounds_toArray, List.set_cons_zero, List.set_cons_succ]
          refine wpAnyH_ready (rs := [19]) (by kernel_rfl) (by simp) ?_
          refine AllReadyH.cons (o := _) rfl (fun K hK => ?_) AllReadyH.nil
          go_simp
          refine hK.out _ _ (eleven5 (HROW.out _ (hkC)) (HX.out _ (hkC)) (HC5.out _ (hjC))) (fun hHeld => ?_)
          clear hK K
          try simp only [Act.put, List.setIfInBounds_toArray, List.set_cons_zero, List.set_cons_succ]
          refine wpAnyH_done (by kernel_rfl) ?_ _
          have HE := Lib.hid hkC
          clear hkI hkA hkB hkC hjI hjA hjB hjC
          go_wp2_with fail
          go_roundw
          case rel => exact ⟨k + 1, s2, by omega, by go_num, rfl, HS.out, HE.out⟩
          case measure => simp [intOf]; omega
      · obtain rfl : k = ts1.length := by omega
        have H1 := Lib.hid (hs.trans (treeL_end cs ts1 s))
        clear hs hkw
        obtain ⟨x0, x1, x2, x3, x4⟩ := HX.out _ HK.out
        have hrow := HBL.out _ HK.out
        have hts := HTT.out
        rw [HN.out, H1.out] at hts
        have HTT2 := Lib.hid (fun wc (hb : BK w0 wc) => hts op1 wd1 vl1 nm1 ts1 rfl wc _ c1 (HR1.out _ hb))
        clear hts
        go_wp2_with (with_reducible refine wpList_load_row rfl 23 _ rfl w.heap.size rfl 23 (ca cs) (0, 0) _ hrow Tryd.underlying23 rfl (by rw [ca_size, hcs]; kernel_rfl) ?_)
        clear hrow x0 x1 x2 x3 x4
        refine (HTT2.out _ HK.out).mono ?_
        rintro e w7 ⟨rfl, hb⟩
        have K7 := Lib.hid (bk_tr HK.out hb)
        clear hb
        go_wp2_with fail
        refine (HT14.out _ K7.out).mono ?_
        rintro e w9 ⟨rfl, hb9⟩
        have H9 := Lib.hid (bk_tr K7.out hb9)
        clear hb9
        go_wp2_with fail
        go_ret
        exact ⟨rfl, bk_tr HK0.out H9.out⟩
end Go.Proofs.YtmejiiebeknbjaaDoor
