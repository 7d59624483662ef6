/- The law of a term's cost, shared and as a tree. -/
import Derived.Test.YtmejiiebeknbjaaDoorM
import Derived.Test.YtmejiiebeknbjaaDoorZ
namespace Go.Proofs.YtmejiiebeknbjaaDoor
open Go.RowKit Go.Maps
set_option linter.unusedVariables false
set_option linter.unusedSimpArgs false
theorem parted : ∀ {l m : List T}, l.Nodup → (∀ x ∈ l, x ∈ m) → ∃ r, m.Perm (l ++ r)
  | [], m, _, _ => ⟨m, List.Perm.refl _⟩
  | x :: l, m, hn, hs => by
    have hn' := List.nodup_cons.1 hn
    have hx := hs x (by simp)
    obtain ⟨r, hr⟩ := parted (m := m.erase x) hn'.2 (fun y hy => (List.mem_erase_of_ne (fun e => hn'.1 (by rw [← e]; exact hy))).2 (hs y (by simp [hy])))
    exact ⟨r, (List.perm_cons_erase hx).trans (hr.cons x)⟩
theorem shared_facts (c : List Int) (t : T) (h : size t ≤ 1000) : 1 ≤ sumC c (subsT [] t) ∧ sumC c (subsT [] t) ≤ treeC c t ∧ (sumC c (subsT [] t) = treeC c t ↔ (subsT [] t).length = size t) := by
  have hlen : (subsT [] t).length ≤ size t := by
    obtain ⟨l, h1, h2⟩ := subs_ext t []
    rw [h1]; simpa using h2
  obtain ⟨r, hr⟩ := parted (l := subsT [] t) (m := allT t) (subs_nodup t [] (by simp)) (fun x hx => by
    rw [mem_subs] at hx
    rcases hx with hx | hx
    · cases hx
    · exact hx)
  have h1 := sumN_perm c hr
  have h2 := hr.length_eq
  rw [sumN_app] at h1
  rw [allT_len, List.length_append] at h2
  have h3 := sumN_bd c r
  have h4 := sumN_bd c (subsT [] t)
  have h5 : 1 ≤ (subsT [] t).length := List.length_pos_of_mem (subs_self [] t)
  rw [sumC_eq c _ (by omega), treeC_sum c t h, h1]
  refine ⟨by omega, by omega, ?_⟩
  constructor
  · intro he; omega
  · intro he
    have h6 : r.length = 0 := by omega
    rw [List.eq_nil_of_length_eq_zero h6]; simp [sumN]
def SubC (t : T) (n : Nat) : Prop := ∀ op wd vl nm ts, t = .mk op wd vl nm ts → ∀ (w : World) (q : Option Addr) (d : Nat), Row w q d ts → Wf op wd vl nm →
  Calls Tryd.prog 20 #[.slice none 0 0, .agg #[.int .i64 op, .int .i64 wd, .int .u64 vl, .string nm, .slice q ts.length d]] w fun e w' => (∃ p' c', e = .returned (.slice p' n c')) ∧ BK w w'
def CntC (t : T) (n : Nat) : Prop := ∀ op wd vl nm ts, t = .mk op wd vl nm ts → ∀ (w : World) (q : Option Addr) (d : Nat), Row w q d ts →
  Calls Tryd.prog 21 #[.agg #[.int .i64 op, .int .i64 wd, .int .u64 vl, .string nm, .slice q ts.length d]] w fun e w' => e = .returned (.int .i64 (n : Nat)) ∧ BK w w'
def Tree16 (cs : List Int) (t : T) (r : Int) : Prop := ∀ op wd vl nm ts, t = .mk op wd vl nm ts → ∀ (w : World) (p : Option Addr) (c : Nat), Row w p c ts →
  Calls Tryd.prog 16 #[.agg (ca cs), .agg #[.int .i64 op, .int .i64 wd, .int .u64 vl, .string nm, .slice p ts.length c]] w fun e w' => e = .returned (.int .i64 r) ∧ BK w w'
theorem shared_calls (cs : List Int) (hcs : cs.length = 32) (t : T) (hs : smallB t 60 = true) :
    ∃ s r n m, DagC cs [t] 1 s ∧ Tree16 cs t r ∧ SubC t n ∧ CntC t m ∧ 1 ≤ s ∧ s ≤ r ∧ ((s = r ∧ n = m) ∨ (s ≠ r ∧ n ≠ m)) := by
  have h1 := small_size (by omega) hs
  have h2 := shared_facts cs t (by omega)
  have hd := dagC cs hcs [t] (by simp only [sizeL]; omega)
  rw [subsL_cons, subsL_nil] at hd
  refine ⟨sumC cs (subsT [] t), treeC cs t, (subsT [] t).length, size t, hd, fun op wd vl nm ts h w p c hr => tree16 cs hcs t op wd vl nm ts h w p c hr, fun op wd vl nm ts h w q d hr hw => (subterms20 t op wd vl nm ts h [] w none q 0 d (.inl ⟨rfl, fun _ => rfl⟩) hr hw (by simp; omega)).mono ?_, fun op wd vl nm ts h w q d hr => count21 t op wd vl nm ts h w q d hr (by omega), h2.1, h2.2.1, ?_⟩
  · exact fun e w' h => ⟨by obtain ⟨p', c', he, _⟩ := h.1; exact ⟨p', c', he⟩, h.2⟩
  · by_cases he : sumC cs (subsT [] t) = treeC cs t
    · exact .inl ⟨he, h2.2.2.1 he⟩
    · exact .inr ⟨he, fun hl => he (h2.2.2.2 hl)⟩
set_option maxRecDepth 100000 in
set_option maxHeartbeats 8000000 in
theorem shared_law (cs : List Int) (hcs : cs.length = 32) (op1 wd1 : Int) (vl1 : Nat) (nm1 : ByteArray) (ts1 : List T) (p1 : Option Addr) (c1 : Nat) (w : World) (hr1 : Row w p1 c1 ts1) (hf1 : Wf op1 wd1 vl1 nm1) (htb : Tb w) :
    Calls Tryd.prog 6 #[.agg (ca cs), .agg #[.int .i64 op1, .int .i64 wd1, .int .u64 vl1, .string nm1, .slice p1 ts1.length c1]] w fun e w' => e = .returned (.bool true) ∧ BK w w' := by
  have s1 : (w.alloc (.cells (ca cs) 23)).heap.size = w.heap.size + 1 := by simp
  have hx := b5_new (w.alloc (.cells (ca cs) 23)) (.int .i64 op1) (.int .i64 wd1) (.int .u64 vl1) (.string nm1) (.slice p1 ts1.length c1) 34
  have hlx := box_lt (w.alloc (.cells (ca cs) 23)) #[.int .i64 op1, .int .i64 wd1, .int .u64 vl1, .string nm1, .slice p1 ts1.length c1] 34
  rw [s1] at hx hlx
  have hk0 := bk_alloc (bk_alloc (BK.refl w) (.cells (ca cs) 23)) (.cells #[.int .i64 op1, .int .i64 wd1, .int .u64 vl1, .string nm1, .slice p1 ts1.length c1] 34)
  have hrow : ((w.alloc (.cells (ca cs) 23)).alloc (.cells #[.int .i64 op1, .int .i64 wd1, .int .u64 vl1, .string nm1, .slice p1 ts1.length c1] 34)).heap[w.heap.size]? = some (.cells (ca cs) 23 (0, 0)) := by
    rw [heap_alloc_old _ _ (by rw [s1]; omega)]; exact heap_alloc_new w _
  have hR1 := hr1.keep hk0
  have HT := Lib.hid (htb.keep hk0)
  have HF := Lib.hid hf1
  clear hr1 htb hf1 s1
  go_enter Tryd.func6, Tryd.ntmps6
  go_wp2_with fail
  generalize (w.alloc (.cells (ca cs) 23)).alloc (.cells #[.int .i64 op1, .int .i64 wd1, .int .u64 vl1, .string nm1, .slice p1 ts1.length c1] 34) = w0 at hx hlx hk0 hrow hR1 HT ⊢
  have HX := Lib.hid (fun wc (hb : BK w0 wc) => hx.keep hb hlx)
  have HR1 := Lib.hid (fun wc (hb : BK w0 wc) => hR1.keep hb)
  have hl0 : w.heap.size < w0.heap.size := by omega
  have HBL := Lib.hid (fun wc (hb : BK w0 wc) => ((show Below w0.heap.size w0 wc from hb).block w.heap.size hl0).trans hrow)
  have HROW := Lib.hid (fun wc (hb : BK w0 wc) => range_ca (cs := cs) (HBL.out wc hb))
  have HK0 := Lib.hid hk0
  have HTB := Lib.hid (fun wc (hb : BK w0 wc) => HT.out.keep hb)
  have HT14 := Lib.hid (fun wc (hb : BK w0 wc) => lives14 wc (HT.out.keep hb))
  obtain ⟨x0, x1, x2, x3, x4⟩ := hx
  clear hlx hk0 hrow hR1 hl0
  obtain ⟨b1, hb1⟩ : ∃ b, smallB (T.mk op1 wd1 vl1 nm1 ts1) 60 = b := ⟨_, rfl⟩
  have hS1 := fun wc (hb : BK w0 wc) => small15 op1 wd1 vl1 nm1 ts1 60 wc p1 c1 (HR1.out _ hb) (by omega) (by omega)
  rw [hb1] at hS1
  have HS1 := Lib.hid hS1
  have HB1 := Lib.hid hb1
  clear hS1 hb1
  refine (HS1.out _ (BK.refl _)).mono ?_
  rintro e w1 ⟨rfl, hb⟩
  have K1 := Lib.hid hb
  clear hb x0 x1 x2 x3 x4
  cases b1 with
  | false =>
    go_wp2_with fail
    refine (HT14.out _ K1.out).mono ?_
    rintro e w9 ⟨rfl, hb9⟩
    have H9 := Lib.hid (bk_tr K1.out hb9)
    clear hb9
    go_wp2_with fail
    go_ret
    exact ⟨rfl, bk_tr HK0.out H9.out⟩
  | true =>
    obtain ⟨s, r, n, m, hd, ht, hsub, hcnt, h1s, hsr, hor⟩ := shared_calls cs hcs (T.mk op1 wd1 vl1 nm1 ts1) HB1.out
    have D1 := Lib.hid hd
    have T16 := Lib.hid (fun wc (hb : BK w0 wc) => ht op1 wd1 vl1 nm1 ts1 rfl wc p1 c1 (HR1.out _ hb))
    have S20 := Lib.hid (fun wc (hb : BK w0 wc) => hsub op1 wd1 vl1 nm1 ts1 rfl wc p1 c1 (HR1.out _ hb) HF.out)
    have C21 := Lib.hid (fun wc (hb : BK w0 wc) => hcnt op1 wd1 vl1 nm1 ts1 rfl wc p1 c1 (HR1.out _ hb))
    clear hd ht hsub hcnt HS1 HB1
    have hu23 := Tryd.underlying23
    have hi23 : (Tryd.prog.info? 23).map (·.size) = some (cs.map (Value.int .i64)).length := by rw [List.length_map, hcs]; kernel_rfl
    unfold ca at T16
    unfold DagC ca at D1
    have H1S := Lib.hid h1s
    have HSR := Lib.hid hsr
    have HOR := Lib.hid hor
    clear h1s hsr hor
    go_wp2_with fail
    have hkI := bk_drew K1.out
    refine wp_region_held_drew (S := fun w' => w'.rangeAt w.heap.size 0 (cs.map (Value.int .i64)) ∧ w'.cell? ⟨w.heap.size + 1, 0, none⟩ = some (.int .i64 op1) ∧ w'.cell? ⟨w.heap.size + 1, 1, none⟩ = some (.int .i64 wd1) ∧ w'.cell? ⟨w.heap.size + 1, 2, none⟩ = some (.int .u64 vl1) ∧ w'.cell? ⟨w.heap.size + 1, 3, none⟩ = some (.string nm1) ∧ w'.cell? ⟨w.heap.size + 1, 4, none⟩ = some (.slice p1 ts1.length c1)) (by kernel_rfl) (six (HROW.out _ (bk_drew K1.out)) (HX.out _ (bk_drew K1.out))) (fun hHeld => ?_)
    generalize w1.drew = wI at hHeld hkI ⊢
    refine' wpAnyH_take (i := 0) (v := _) rfl (by kernel_rfl) (by kernel_rfl) (by kernel_rfl) (fun _ _ _ h => h) (yieldsIf_load_mid (by rfl) _ _ rfl _ _ rfl _ _ (fun w hSw => hSw.1) hu23 rfl hi23) hHeld ?_
    try simp only [Act.put, List.setIfInBounds_toArray, List.set_cons_zero, List.set_cons_succ]
    refine wpAnyH_take (i := 1) (v := .agg #[.int .i64 op1, .int .i64 wd1, .int .u64 vl1, .string nm1, .slice p1 ts1.length c1]) rfl (by kernel_rfl) (by kernel_rfl) (by kernel_rfl) (fun _ _ _ h => h) (Or.inl ⟨by rfl, fun w hSw => by (obtain ⟨hS0, hS1, hS2, hS3, hS4, hS5⟩ := hSw; go_simp)⟩) hHeld ?_
    try simp only [Act.put, List.setIfInBounds_toArray, List.set_cons_zero, List.set_cons_succ]
    refine' wpAnyH_take (i := 4) (v := _) rfl (by kernel_rfl) (by kernel_rfl) (by kernel_rfl) (fun _ _ _ h => h) (yieldsIf_load_mid (by rfl) _ _ rfl _ _ rfl _ _ (fun w hSw => hSw.1) hu23 rfl hi23) hHeld ?_
    try simp only [Act.put, List.setIfInBounds_toArray, List.set_cons_zero, List.set_cons_succ]
    refine wpAnyH_take (i := 5) (v := .agg #[.int .i64 op1, .int .i64 wd1, .int .u64 vl1, .string nm1, .slice p1 ts1.length c1]) rfl (by kernel_rfl) (by kernel_rfl) (by kernel_rfl) (fun _ _ _ h => h) (Or.inl ⟨by rfl, fun w hSw => by (obtain ⟨hS0, hS1, hS2, hS3, hS4, hS5⟩ := hSw; go_simp)⟩) hHeld ?_
    try simp only [Act.put, List.setIfInBounds_toArray, List.set_cons_zero, List.set_cons_succ]
    refine wpAnyH_ready (rs := [2]) (by kernel_rfl) (by simp) ?_
    refine AllReadyH.cons (o := _) rfl (fun K hK => ?_) AllReadyH.nil
    go_simp
    refine hK.out _ _ (six (HROW.out _ (bk_alloc hkI _)) (HX.out _ (bk_alloc hkI _))) (fun hHeld => ?_)
    clear hK K
    try simp only [Act.put, List.setIfInBounds_toArray, List.set_cons_zero, List.set_cons_succ]
    refine wpAnyH_ready (rs := [3]) (by kernel_rfl) (by simp) ?_
    refine AllReadyH.cons (o := _) rfl (fun K hK => ?_) AllReadyH.nil
    go_simp
    go_at_call 18; with_reducible refine (D1.out _ _ _ (row1 (HR1.out _ hkI) HF.out) (HTB.out _ (bk_alloc hkI _))).mono ?_; rintro e w6 ⟨rfl, hq⟩; have hkA := bk_tr (bk_alloc hkI _) hq
    refine hK.out _ _ (six (HROW.out _ (hkA)) (HX.out _ (hkA))) (fun hHeld => ?_)
    clear hK K
    try simp only [Act.put, List.setIfInBounds_toArray, List.set_cons_zero, List.set_cons_succ]
    refine wpAnyH_ready (rs := [6]) (by kernel_rfl) (by simp) ?_
    refine AllReadyH.cons (o := _) rfl (fun K hK => ?_) AllReadyH.nil
    go_simp
    go_at_call 16; with_reducible refine (T16.out _ hkA).mono ?_; rintro e w7 ⟨rfl, hq⟩; have hkB := bk_tr hkA hq
    refine hK.out _ _ (six (HROW.out _ (hkB)) (HX.out _ (hkB))) (fun hHeld => ?_)
    clear hK K
    try simp only [Act.put, List.setIfInBounds_toArray, List.set_cons_zero, List.set_cons_succ]
    refine wpAnyH_ready (rs := [7]) (by kernel_rfl) (by simp) ?_
    refine AllReadyH.cons (o := _) rfl (fun K hK => ?_) AllReadyH.nil
    go_simp
    refine hK.out _ _ (six (HROW.out _ (hkB)) (HX.out _ (hkB))) (fun hHeld => ?_)
    clear hK K
    try simp only [Act.put, List.setIfInBounds_toArray, List.set_cons_zero, List.set_cons_succ]
    refine wpAnyH_ready (rs := [8]) (by kernel_rfl) (by simp) ?_
    refine AllReadyH.cons (o := _) rfl (fun K hK => ?_) AllReadyH.nil
    go_simp
    refine hK.out _ _ (six (HROW.out _ (hkB)) (HX.out _ (hkB))) (fun hHeld => ?_)
    clear hK K
    try simp only [Act.put, List.setIfInBounds_toArray, List.set_cons_zero, List.set_cons_succ]
    refine wpAnyH_done (by kernel_rfl) ?_ _
    have K3 := Lib.hid hkB
    clear hkI hkA hkB
    go_wp2_with fail
    rcases HOR.out with ⟨rfl, rfl⟩ | ⟨hsne, hnne⟩
    · have hkI := bk_drew K3.out
      refine wp_region_held_drew (S := fun w' => w'.cell? ⟨w.heap.size + 1, 0, none⟩ = some (.int .i64 op1) ∧ w'.cell? ⟨w.heap.size + 1, 1, none⟩ = some (.int .i64 wd1) ∧ w'.cell? ⟨w.heap.size + 1, 2, none⟩ = some (.int .u64 vl1) ∧ w'.cell? ⟨w.heap.size + 1, 3, none⟩ = some (.string nm1) ∧ w'.cell? ⟨w.heap.size + 1, 4, none⟩ = some (.slice p1 ts1.length c1)) (by kernel_rfl) (HX.out _ (bk_drew K3.out)) (fun hHeld => ?_)
      generalize w7.drew = wI at hHeld hkI ⊢
      refine wpAnyH_take (i := 0) (v := .agg #[.int .i64 op1, .int .i64 wd1, .int .u64 vl1, .string nm1, .slice p1 ts1.length c1]) rfl (by kernel_rfl) (by kernel_rfl) (by kernel_rfl) (fun _ _ _ h => h) (Or.inl ⟨by rfl, fun w hSw => by (obtain ⟨hS1, hS2, hS3, hS4, hS5⟩ := hSw; go_simp)⟩) hHeld ?_
      try simp only [Act.put, List.setIfInBounds_toArray, List.set_cons_zero, List.set_cons_succ]
      refine wpAnyH_take (i := 3) (v := .agg #[.int .i64 op1, .int .i64 wd1, .int .u64 vl1, .string nm1, .slice p1 ts1.length c1]) rfl (by kernel_rfl) (by kernel_rfl) (by kernel_rfl) (fun _ _ _ h => h) (Or.inl ⟨by rfl, fun w hSw => by (obtain ⟨hS1, hS2, hS3, hS4, hS5⟩ := hSw; go_simp)⟩) hHeld ?_
      try simp only [Act.put, List.setIfInBounds_toArray, List.set_cons_zero, List.set_cons_succ]
      refine wpAnyH_ready (rs := [1]) (by kernel_rfl) (by simp) ?_
      refine AllReadyH.cons (o := _) rfl (fun K hK => ?_) AllReadyH.nil
      go_simp
      go_at_call 20; refine (S20.out _ hkI).mono ?_; rintro e w8 ⟨⟨p9, c9, rfl⟩, hq⟩; have hkA := bk_tr hkI hq
      refine hK.out _ _ (HX.out _ hkA) (fun hHeld => ?_)
      clear hK K
      try simp only [Act.put, List.setIfInBounds_toArray, List.set_cons_zero, List.set_cons_succ]
      refine wpAnyH_take (i := 2) (v := .int .i64 (n : Nat)) rfl (by kernel_rfl) (by kernel_rfl) (by kernel_rfl) (fun _ _ _ h => h) (Or.inl ⟨by rfl, fun w hSw => by (go_simp)⟩) hHeld ?_
      try simp only [Act.put, List.setIfInBounds_toArray, List.set_cons_zero, List.set_cons_succ]
      refine wpAnyH_ready (rs := [4]) (by kernel_rfl) (by simp) ?_
      refine AllReadyH.cons (o := _) rfl (fun K hK => ?_) AllReadyH.nil
      go_simp
      go_at_call 21; refine (C21.out _ hkA).mono ?_; rintro e w9 ⟨rfl, hq⟩; have hkB := bk_tr hkA hq
      refine hK.out _ _ (HX.out _ hkB) (fun hHeld => ?_)
      clear hK K
      try simp only [Act.put, List.setIfInBounds_toArray, List.set_cons_zero, List.set_cons_succ]
      refine wpAnyH_ready (rs := [5]) (by kernel_rfl) (by simp) ?_
      refine AllReadyH.cons (o := _) rfl (fun K hK => ?_) AllReadyH.nil
      go_simp
      refine hK.out _ _ (HX.out _ hkB) (fun hHeld => ?_)
      clear hK K
      try simp only [Act.put, List.setIfInBounds_toArray, List.set_cons_zero, List.set_cons_succ]
      refine wpAnyH_ready (rs := [6]) (by kernel_rfl) (by simp) ?_
      refine AllReadyH.cons (o := _) rfl (fun K hK => ?_) AllReadyH.nil
      go_simp
      refine hK.out _ _ (HX.out _ hkB) (fun hHeld => ?_)
      clear hK K
      try simp only [Act.put, List.setIfInBounds_toArray, List.set_cons_zero, List.set_cons_succ]
      refine wpAnyH_done (by kernel_rfl) ?_ _
      have K4 := Lib.hid hkB
      clear hkI hkA hkB
      have h1s := H1S.out
      have hsr := HSR.out
      go_wp2_with fail
      refine (HT14.out _ K4.out).mono ?_
      rintro e w10 ⟨rfl, hb9⟩
      have H9 := Lib.hid (bk_tr K4.out hb9)
      clear hb9
      go_wp2_with fail
      go_ret
      exact ⟨rfl, bk_tr HK0.out H9.out⟩
    · have hkI := bk_drew K3.out
      refine wp_region_held_drew (S := fun w' => w'.cell? ⟨w.heap.size + 1, 0, none⟩ = some (.int .i64 op1) ∧ w'.cell? ⟨w.heap.size + 1, 1, none⟩ = some (.int .i64 wd1) ∧ w'.cell? ⟨w.heap.size + 1, 2, none⟩ = some (.int .u64 vl1) ∧ w'.cell? ⟨w.heap.size + 1, 3, none⟩ = some (.string nm1) ∧ w'.cell? ⟨w.heap.size + 1, 4, none⟩ = some (.slice p1 ts1.length c1)) (by kernel_rfl) (HX.out _ (bk_drew K3.out)) (fun hHeld => ?_)
      generalize w7.drew = wI at hHeld hkI ⊢
      refine wpAnyH_take (i := 0) (v := .agg #[.int .i64 op1, .int .i64 wd1, .int .u64 vl1, .string nm1, .slice p1 ts1.length c1]) rfl (by kernel_rfl) (by kernel_rfl) (by kernel_rfl) (fun _ _ _ h => h) (Or.inl ⟨by rfl, fun w hSw => by (obtain ⟨hS1, hS2, hS3, hS4, hS5⟩ := hSw; go_simp)⟩) hHeld ?_
      try simp only [Act.put, List.setIfInBounds_toArray, List.set_cons_zero, List.set_cons_succ]
      refine wpAnyH_take (i := 3) (v := .agg #[.int .i64 op1, .int .i64 wd1, .int .u64 vl1, .string nm1, .slice p1 ts1.length c1]) rfl (by kernel_rfl) (by kernel_rfl) (by kernel_rfl) (fun _ _ _ h => h) (Or.inl ⟨by rfl, fun w hSw => by (obtain ⟨hS1, hS2, hS3, hS4, hS5⟩ := hSw; go_simp)⟩) hHeld ?_
      try simp only [Act.put, List.setIfInBounds_toArray, List.set_cons_zero, List.set_cons_succ]
      refine wpAnyH_ready (rs := [1]) (by kernel_rfl) (by simp) ?_
      refine AllReadyH.cons (o := _) rfl (fun K hK => ?_) AllReadyH.nil
      go_simp
      go_at_call 20; refine (S20.out _ hkI).mono ?_; rintro e w8 ⟨⟨p9, c9, rfl⟩, hq⟩; have hkA := bk_tr hkI hq
      refine hK.out _ _ (HX.out _ hkA) (fun hHeld => ?_)
      clear hK K
      try simp only [Act.put, List.setIfInBounds_toArray, List.set_cons_zero, List.set_cons_succ]
      refine wpAnyH_take (i := 2) (v := .int .i64 (n : Nat)) rfl (by kernel_rfl) (by kernel_rfl) (by kernel_rfl) (fun _ _ _ h => h) (Or.inl ⟨by rfl, fun w hSw => by (go_simp)⟩) hHeld ?_
      try simp only [Act.put, List.setIfInBounds_toArray, List.set_cons_zero, List.set_cons_succ]
      refine wpAnyH_ready (rs := [4]) (by kernel_rfl) (by simp) ?_
      refine AllReadyH.cons (o := _) rfl (fun K hK => ?_) AllReadyH.nil
      go_simp
      go_at_call 21; refine (C21.out _ hkA).mono ?_; rintro e w9 ⟨rfl, hq⟩; have hkB := bk_tr hkA hq
      refine hK.out _ _ (HX.out _ hkB) (fun hHeld => ?_)
      clear hK K
      try simp only [Act.put, List.setIfInBounds_toArray, List.set_cons_zero, List.set_cons_succ]
      have hnne' : ¬ ((n : Nat) : Int) = ((m : Nat) : Int) := fun h => hnne (by omega)
      have hbq : (((n : Nat) : Int) == ((m : Nat) : Int)) = false := beq_false_of_ne hnne'
      refine wpAnyH_take (i := 5) (v := .bool false) rfl (by kernel_rfl) (by kernel_rfl) (by kernel_rfl) (fun _ _ _ h => h) (Or.inl ⟨by rfl, fun w hSw => by (go_simp; try (first | exact hbq | simp [hnne', hbq]))⟩) hHeld ?_
      try simp only [Act.put, List.setIfInBounds_toArray, List.set_cons_zero, List.set_cons_succ]
      refine wpAnyH_ready (rs := [6]) (by kernel_rfl) (by simp) ?_
      refine AllReadyH.cons (o := _) rfl (fun K hK => ?_) AllReadyH.nil
      go_simp
      refine hK.out _ _ (HX.out _ hkB) (fun hHeld => ?_)
      clear hK K
      try simp only [Act.put, List.setIfInBounds_toArray, List.set_cons_zero, List.set_cons_succ]
      refine wpAnyH_done (by kernel_rfl) ?_ _
      have hbs : (s == r) = false := beq_false_of_ne hsne
      have K4 := Lib.hid hkB
      clear hkI hkA hkB
      have h1s := H1S.out
      have hsr := HSR.out
      go_wp2_with fail
      refine (HT14.out _ K4.out).mono ?_
      rintro e w10 ⟨rfl, hb9⟩
      have H9 := Lib.hid (bk_tr K4.out hb9)
      clear hb9
      go_wp2_with fail
      go_ret
      exact ⟨rfl, bk_tr HK0.out H9.out⟩
end Go.Proofs.YtmejiiebeknbjaaDoor
