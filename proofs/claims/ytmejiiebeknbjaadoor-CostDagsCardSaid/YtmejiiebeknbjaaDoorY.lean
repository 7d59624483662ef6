/- The reference's Count and Subterms. -/
import Derived.Test.YtmejiiebeknbjaaDoorX
namespace Go.Proofs.YtmejiiebeknbjaaDoor
open Go.RowKit Go.Maps
set_option linter.unusedVariables false
set_option linter.unusedSimpArgs false
def PC (t : T) : Prop := ∀ op wd vl nm ts, t = .mk op wd vl nm ts → ∀ (w : World) (q : Option Addr) (d : Nat), Row w q d ts → size t ≤ 1000 →
  Calls Tryd.prog 21 #[.agg #[.int .i64 op, .int .i64 wd, .int .u64 vl, .string nm, .slice q ts.length d]] w fun e w' => e = .returned (.int .i64 (size t : Nat)) ∧ BK w w'
set_option maxRecDepth 100000 in
set_option maxHeartbeats 2000000 in
theorem count21 (t : T) : PC t := by
  induction t using T.ind with
  | h op wd vl nm ts ih =>
    intro op' wd' vl' nm' ts' ht w q d hr hsz
    obtain ⟨rfl, rfl, rfl, rfl, rfl⟩ := T.mk.inj ht
    clear ht
    have hlen := hr.len
    unfold maxLen at hlen
    rw [size] at hsz
    have hx := b5_new w (.int .i64 op) (.int .i64 wd) (.int .u64 vl) (.string nm) (.slice q ts.length d) 34
    have hlt := box_lt w #[.int .i64 op, .int .i64 wd, .int .u64 vl, .string nm, .slice q ts.length d] 34
    have hk0 := bk_alloc (BK.refl w) (.cells #[.int .i64 op, .int .i64 wd, .int .u64 vl, .string nm, .slice q ts.length d] 34)
    have hr0 := hr.keep hk0
    clear hr
    rw [size]
    generalize hzz : ((1 + sizeL ts : Nat) : Int) = zz
    have HZZ := Lib.hid hzz
    clear hzz
    go_enter Tryd.func21, Tryd.ntmps21
    go_wp2_with fail
    generalize w.alloc (.cells #[.int .i64 op, .int .i64 wd, .int .u64 vl, .string nm, .slice q ts.length d] 34) = w0 at hx hlt hk0 hr0 ⊢
    have HR := Lib.hid (fun wc (hb : BK w0 wc) => hr0.keep hb)
    have HX := Lib.hid (fun wc (hb : BK w0 wc) => hx.keep hb hlt)
    have HK0 := Lib.hid hk0
    have IH := Lib.hid ih
    clear hk0 hr0 ih hx hlt
    go_loopw [3, 8] (fun y x wr => ∃ (k : Nat), k ≤ ts.length ∧ x = .int .i64 k ∧ y = .int .i64 ((1 + sizeL (ts.take k) : Nat) : Int) ∧ BK w0 wr) (fun _ x _ => ts.length - (intOf x).toNat)
    case atStart => exact ⟨0, Nat.zero_le _, rfl, by simp [sizeL], BK.refl _⟩
    case round =>
      obtain ⟨k, hk, rfl, rfl, hkw⟩ := hrel
      have HK := Lib.hid hkw
      by_cases hlt : k < ts.length
      · obtain ⟨b3, o3, op3, wd3, vl3, nm3, us3, q3, d3, rfl, htk, hc3, -, hr3⟩ := (HR.out _ hkw).get hlt
        obtain ⟨c0, c1, c2, c3, c4⟩ := hc3
        obtain ⟨x0, x1, x2, x3, x4⟩ := HX.out _ hkw
        have hz1 := sizeL_get ts k hlt
        have hz2 : sizeL (ts.take (k + 1)) = sizeL (ts.take k) + size ts[k] := by
          rw [List.take_succ_eq_append_getElem hlt]
          generalize ts.take k = l
          induction l with
          | nil => simp [sizeL]
          | cons a l ih => simp only [List.cons_append, sizeL, ih]; omega
        have HC := Lib.hid (IH.out _ (List.getElem_mem hlt) op3 wd3 vl3 nm3 us3 htk wr q3 d3 hr3 (by omega))
        generalize size ts[k] = m2 at HC hz1 hz2
        generalize hzk : sizeL (ts.take k) = m1 at hz1 hz2
        have HZ2 := Lib.hid hz2
        clear hkw htk hr3 hz2 hzk
        go_wp2_with fail
        refine HC.out.mono ?_
        rintro e w2 ⟨rfl, hb2⟩
        have H2 := Lib.hid (bk_tr HK.out hb2)
        clear hb2 c0 c1 c2 c3 c4 x0 x1 x2 x3 x4
        go_wp2_with fail
        go_roundw
        case rel => exact ⟨k + 1, by omega, by go_num, by rw [HZ2.out]; go_num, H2.out⟩
        case measure => simp [intOf]; omega
      · obtain rfl : k = ts.length := by omega
        rw [List.take_length]
        clear hkw
        rw [HZZ.out]
        go_wp2_with fail
        go_ret
        exact ⟨rfl, bk_tr HK0.out HK.out⟩
def PS (t : T) : Prop := ∀ op wd vl nm ts, t = .mk op wd vl nm ts → ∀ (S : List T) (w : World) (p q : Option Addr) (c d : Nat), Row w p c S → Row w q d ts → Wf op wd vl nm → S.length + size t ≤ 1000 →
  Calls Tryd.prog 20 #[.slice p S.length c, .agg #[.int .i64 op, .int .i64 wd, .int .u64 vl, .string nm, .slice q ts.length d]] w fun e w' => (∃ p' c', e = .returned (.slice p' (subsT S t).length c') ∧ Row w' p' c' (subsT S t)) ∧ BK w w'
theorem ret_slice {p : Option Addr} {n m c : Nat} (h : n = m) : Ending.returned (.slice p n c) = .returned (.slice p m c) := by rw [h]
theorem nine {w' : World} {a c o : Nat} {x0 x1 x2 x3 x4 z0 z1 z2 z3 z4 : Value} (h : B5 w' a x0 x1 x2 x3 x4) (l : C5 w' c o z0 z1 z2 z3 z4) :
    w'.cell? ⟨a, 0, none⟩ = some x0 ∧ w'.cell? ⟨a, 1, none⟩ = some x1 ∧ w'.cell? ⟨a, 2, none⟩ = some x2 ∧ w'.cell? ⟨a, 3, none⟩ = some x3 ∧ w'.cell? ⟨a, 4, none⟩ = some x4 ∧ w'.cell? ⟨c, o, none⟩ = some z0 ∧ w'.cell? ⟨c, o + 1, none⟩ = some z1 ∧ w'.cell? ⟨c, o + 2, none⟩ = some z2 ∧ w'.cell? ⟨c, o + 3, none⟩ = some z3 ∧ w'.cell? ⟨c, o + 4, none⟩ = some z4 :=
  ⟨h.1, h.2.1, h.2.2.1, h.2.2.2.1, h.2.2.2.2, l⟩
set_option maxRecDepth 100000 in
set_option maxHeartbeats 8000000 in
theorem subterms20 (t : T) : PS t := by
  induction t using T.ind with
  | h op wd vl nm ts ih =>
    intro op' wd' vl' nm' ts' ht S w p q c d hrS hr hwf hsz
    obtain ⟨rfl, rfl, rfl, rfl, rfl⟩ := T.mk.inj ht
    clear ht
    have hlen := hr.len
    unfold maxLen at hlen
    rw [size] at hsz
    have hx := b5_new w (.int .i64 op) (.int .i64 wd) (.int .u64 vl) (.string nm) (.slice q ts.length d) 34
    have hlt := box_lt w #[.int .i64 op, .int .i64 wd, .int .u64 vl, .string nm, .slice q ts.length d] 34
    have hk0 := bk_alloc (BK.refl w) (.cells #[.int .i64 op, .int .i64 wd, .int .u64 vl, .string nm, .slice q ts.length d] 34)
    have hr0 := hr.keep hk0
    have hs0 := hrS.keep hk0
    clear hr hrS
    have HSPEC := Lib.hid (subsT_mk S op wd vl nm ts)
    generalize subsT S (T.mk op wd vl nm ts) = R at HSPEC ⊢
    go_enter Tryd.func20, Tryd.ntmps20
    go_wp2_with fail
    generalize w.alloc (.cells #[.int .i64 op, .int .i64 wd, .int .u64 vl, .string nm, .slice q ts.length d] 34) = w0 at hx hlt hk0 hr0 hs0 ⊢
    have HR := Lib.hid (fun wc (hb : BK w0 wc) => hr0.keep hb)
    have HX := Lib.hid (fun wc (hb : BK w0 wc) => hx.keep hb hlt)
    have HK0 := Lib.hid hk0
    have HS0 := Lib.hid hs0
    have IH := Lib.hid ih
    have HWF := Lib.hid hwf
    clear hk0 hr0 ih hx hlt hs0 hwf
    go_loopw [0, 11] (fun y x wr => ∃ (k : Nat) (p' : Option Addr) (c' : Nat), k ≤ ts.length ∧ x = .int .i64 k ∧ y = .slice p' (subsL S (ts.take k)).length c' ∧ Row wr p' c' (subsL S (ts.take k)) ∧ BK w0 wr) (fun _ x _ => ts.length - (intOf x).toNat)
    case atStart => exact ⟨0, p, c, Nat.zero_le _, rfl, by simp [subsL_nil], by simpa [subsL_nil] using HS0.out, BK.refl _⟩
    case round =>
      obtain ⟨k, p', c', hk, rfl, rfl, hrow, hkw⟩ := hrel
      have HK := Lib.hid hkw
      by_cases hlt : k < ts.length
      · obtain ⟨b3, o3, op3, wd3, vl3, nm3, us3, q3, d3, rfl, htk, hc3, hw3, hr3⟩ := (HR.out _ hkw).get hlt
        obtain ⟨c0, c1, c2, c3, c4⟩ := hc3
        obtain ⟨x0, x1, x2, x3, x4⟩ := HX.out _ hkw
        have hz1 := sizeL_get ts k hlt
        obtain ⟨l0, hl0, hl0'⟩ := subsL_ext (ts.take k) S
        have hlS : (subsL S (ts.take k)).length + size ts[k] ≤ 1000 := by rw [hl0, List.length_append]; omega
        have HC := Lib.hid (IH.out _ (List.getElem_mem hlt) op3 wd3 vl3 nm3 us3 htk (subsL S (ts.take k)) wr p' q3 c' d3 hrow hr3 hw3 hlS)
        rw [← subsL_snoc S ts k hlt] at HC
        clear hkw htk hr3 hw3 hl0 hl0' hrow
        go_wp2_with fail
        refine HC.out.mono ?_
        rintro e w2 ⟨⟨p2, c2', rfl, hrow2⟩, hb2⟩
        have H2 := Lib.hid (bk_tr HK.out hb2)
        have HRW := Lib.hid hrow2
        clear hb2 hrow2 c0 c1 c2 c3 c4 x0 x1 x2 x3 x4
        go_wp2_with fail
        go_roundw
        case rel => exact ⟨k + 1, p2, c2', by omega, by go_num, rfl, HRW.out, H2.out⟩
        case measure => simp [intOf]; omega
      · obtain rfl : k = ts.length := by omega
        rw [List.take_length] at hrow ⊢
        obtain ⟨l0, hl0, hl0'⟩ := subsL_ext ts S
        have hlS : (subsL S ts).length ≤ 999 := by rw [hl0, List.length_append]; omega
        have hsp := HSPEC.out
        clear hl0 hl0' HSPEC hk
        generalize subsL S ts = S' at hrow hlS hsp ⊢
        have HSP := Lib.hid hsp
        have HR2 := Lib.hid (fun wc (hb : BK wr wc) => hrow.keep hb)
        clear hsp hrow hkw
        obtain ⟨wa, hwa⟩ : ∃ x, x = wr := ⟨_, rfl⟩
        subst hwa
        go_wp2_with fail
        go_loopw [24] (fun x wx => ∃ (j : Nat), j ≤ S'.length ∧ x = .int .i64 j ∧ (∀ i (h : i < S'.length), i < j → S'[i] ≠ T.mk op wd vl nm ts) ∧ BK wa wx) (fun x _ => S'.length - (intOf x).toNat)
        case atStart => exact ⟨0, Nat.zero_le _, rfl, fun i _ h => by omega, BK.refl _⟩
        case round =>
          obtain ⟨k, hk, rfl, hno, hkw⟩ := hrel
          have HK2 := Lib.hid hkw
          have HNO := Lib.hid hno
          clear hno
          by_cases hlt : k < S'.length
          · obtain ⟨b3, o3, op3, wd3, vl3, nm3, us3, q3, d3, rfl, htk, hc3, -, hr3⟩ := (HR2.out _ hkw).get hlt
            have hcc := same28 S'[k] op3 wd3 vl3 nm3 us3 htk op wd vl nm ts
            have HC3 := Lib.hid (fun wc (hb : BK wr wc) => hc3.keep hb)
            have CC := Lib.hid (fun wc (hb : BK wr wc) => hcc wc q3 q d3 d (hr3.keep hb) (HR.out _ (bk_tr HK.out (bk_tr HK2.out hb))))
            generalize hbb : decide (S'[k] = T.mk op wd vl nm ts) = bb at CC
            have HBB := Lib.hid hbb
            clear hkw htk hc3 hr3 hcc hbb
            go_wp2_with fail
            have hkI := bk_drew (bk_tr HK.out HK2.out)
            have hjI := bk_drew (BK.refl wr)
            refine wp_region_held_drew (S := fun w' => w'.cell? ⟨w.heap.size, 0, none⟩ = some (.int .i64 op) ∧ w'.cell? ⟨w.heap.size, 1, none⟩ = some (.int .i64 wd) ∧ w'.cell? ⟨w.heap.size, 2, none⟩ = some (.int .u64 vl) ∧ w'.cell? ⟨w.heap.size, 3, none⟩ = some (.string nm) ∧ w'.cell? ⟨w.heap.size, 4, none⟩ = some (.slice q ts.length d) ∧ w'.cell? ⟨b3, o3 + k * 5, none⟩ = some (.int .i64 op3) ∧ w'.cell? ⟨b3, o3 + k * 5 + 1, none⟩ = some (.int .i64 wd3) ∧ w'.cell? ⟨b3, o3 + k * 5 + 2, none⟩ = some (.int .u64 vl3) ∧ w'.cell? ⟨b3, o3 + k * 5 + 3, none⟩ = some (.string nm3) ∧ w'.cell? ⟨b3, o3 + k * 5 + 4, none⟩ = some (.slice q3 us3.length d3)) (by kernel_rfl) (nine (HX.out _ (bk_drew (bk_tr HK.out HK2.out))) (HC3.out _ (bk_drew (BK.refl wr)))) (fun hHeld => ?_)
            generalize wr.drew = wI at hHeld hkI hjI ⊢
            refine wpAnyH_take (i := 0) (v := .slice (some ⟨b3, o3, none⟩) S'.length c') rfl (by kernel_rfl) (by kernel_rfl) (by kernel_rfl) (fun _ _ _ h => h) (Or.inl ⟨by rfl, fun w hSw => by (go_simp)⟩) hHeld ?_
            try simp only [Act.put, List.setIfInBounds_toArray, List.set_cons_zero, List.set_cons_succ]
            refine wpAnyH_take (i := 1) (v := .int .i64 k) rfl (by kernel_rfl) (by kernel_rfl) (by kernel_rfl) (fun _ _ _ h => h) (Or.inl ⟨by rfl, fun w hSw => by (go_simp)⟩) hHeld ?_
            try simp only [Act.put, List.setIfInBounds_toArray, List.set_cons_zero, List.set_cons_succ]
            refine wpAnyH_take (i := 2) (v := .pointer (some ⟨b3, o3 + k * 5, none⟩)) rfl (by kernel_rfl) (by kernel_rfl) (by kernel_rfl) (fun _ _ _ h => h) (Or.inl ⟨by rfl, fun w hSw => by (go_simp)⟩) hHeld ?_
            try simp only [Act.put, List.setIfInBounds_toArray, List.set_cons_zero, List.set_cons_succ]
            refine wpAnyH_take (i := 3) (v := .agg #[.int .i64 op3, .int .i64 wd3, .int .u64 vl3, .string nm3, .slice q3 us3.length d3]) rfl (by kernel_rfl) (by kernel_rfl) (by kernel_rfl) (fun _ _ _ h => h) (Or.inl ⟨by rfl, fun w hSw => by (obtain ⟨hS0, hS1, hS2, hS3, hS4, hS5, hS6, hS7, hS8, hS9⟩ := hSw; go_simp)⟩) hHeld ?_
            try simp only [Act.put, List.setIfInBounds_toArray, List.set_cons_zero, List.set_cons_succ]
            refine wpAnyH_take (i := 4) (v := .agg #[.int .i64 op, .int .i64 wd, .int .u64 vl, .string nm, .slice q ts.length d]) rfl (by kernel_rfl) (by kernel_rfl) (by kernel_rfl) (fun _ _ _ h => h) (Or.inl ⟨by rfl, fun w hSw => by (obtain ⟨hS0, hS1, hS2, hS3, hS4, hS5, hS6, hS7, hS8, hS9⟩ := hSw; go_simp)⟩) hHeld ?_
            try simp only [Act.put, List.setIfInBounds_toArray, List.set_cons_zero, List.set_cons_succ]
            refine wpAnyH_ready (rs := [5]) (by kernel_rfl) (by simp) ?_
            refine AllReadyH.cons (o := _) rfl (fun K hK => ?_) AllReadyH.nil
            go_simp
            go_at_call 28; refine (CC.out _ hjI).mono ?_; rintro e w6 ⟨rfl, hq⟩; have hkA := bk_tr hkI hq; have hjA := bk_tr hjI hq
            refine hK.out _ _ (nine (HX.out _ (hkA)) (HC3.out _ (hjA))) (fun hHeld => ?_)
            clear hK K
            try simp only [Act.put, List.setIfInBounds_toArray, List.set_cons_zero, List.set_cons_succ]
            refine wpAnyH_done (by kernel_rfl) ?_ _
            have HA := Lib.hid hkA
            have HJ := Lib.hid (bk_tr HK2.out hjA)
            clear hkI hjI hkA hjA
            cases bb with
            | true =>
              go_wp2_with fail
              go_ret
              have hR : R = S' := by rw [HSP.out, if_pos (of_decide_eq_true HBB.out ▸ List.getElem_mem hlt)]
              exact ⟨⟨_, _, ret_slice (by rw [hR]), by rw [hR]; exact HR2.out _ HJ.out⟩, bk_tr HK0.out HA.out⟩
            | false =>
              go_wp2_with fail
              go_roundw
              case rel => exact ⟨k + 1, by omega, by go_num, fun i h hi => by
                rcases Nat.lt_or_ge i k with h' | h'
                · exact HNO.out i h h'
                · obtain rfl : i = k := by omega
                  exact of_decide_eq_false HBB.out, HJ.out⟩
              case measure => simp [intOf]; omega
          · obtain rfl : k = S'.length := by omega
            have hnot : T.mk op wd vl nm ts ∉ S' := fun hm => by
              obtain ⟨i, hi, he⟩ := List.getElem_of_mem hm
              exact HNO.out i hi hi he
            have hR : R = S' ++ [T.mk op wd vl nm ts] := by rw [HSP.out, if_neg hnot]
            have HRR := Lib.hid hR
            have HR3 := Lib.hid (HR.out _ (bk_tr HK.out hkw))
            have HR4 := Lib.hid (HR2.out _ hkw)
            have HX3 := Lib.hid (fun wc (hb : BK wr wc) => HX.out _ (bk_tr HK.out (bk_tr HK2.out hb)))
            clear hkw hnot hR
            go_wp2_with (first
              | (at_builtin; refine wpList_append_tl rfl _ _ rfl rfl p' c' S' rfl HR4.out (by omega) ?_; intro p1 c1 w1 xs ho hf hb1; obtain ⟨x0, x1, x2, x3, x4⟩ := HX3.out _ hb1)
              | (at_builtin; go_must (refine wpList_append_t1 (w0 := wr) (w1 := w1) rfl _ _ rfl p1 c1 S' xs rfl ho hf hb1 op wd vl nm ts q d _ rfl rfl rfl HR3.out HWF.out (by omega) ?_); intro p3 c3 w3 hrow3 hb3))
            go_ret
            exact ⟨⟨_, _, ret_slice (by rw [HRR.out]; simp), by rw [HRR.out]; exact hrow3⟩, bk_tr HK0.out (bk_tr HK.out (bk_tr HK2.out hb3))⟩
end Go.Proofs.YtmejiiebeknbjaaDoor
