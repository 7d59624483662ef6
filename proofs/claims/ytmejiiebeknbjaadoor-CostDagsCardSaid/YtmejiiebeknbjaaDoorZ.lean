/- The reference's cost of shared terms. -/
import Derived.Test.YtmejiiebeknbjaaDoorY
namespace Go.Proofs.YtmejiiebeknbjaaDoor
open Go.RowKit Go.Maps
set_option linter.unusedVariables false
set_option linter.unusedSimpArgs false
set_option maxRecDepth 100000 in
set_option maxHeartbeats 8000000 in
theorem dag19 (cs : List Int) (hcs : cs.length = 32) (ts : List T) (w : World) (p : Option Addr) (c : Nat) (hr : Row w p c ts) (hsz : sizeL ts ≤ 1000) :
    Calls Tryd.prog 19 #[.agg (ca cs), .slice p ts.length c] w fun e w' => e = .returned (.int .i64 (sumC cs (subsL [] ts))) ∧ BK w w' := by
  have hlen := hr.len
  unfold maxLen at hlen
  have hk0 := bk_alloc (BK.refl w) (.cells (ca cs) 23)
  have hrow := heap_alloc_new w (.cells (ca cs) 23)
  have hr0 := hr.keep hk0
  have hls := len_sizeL ts
  clear hr
  generalize hzz : sumC cs (subsL [] ts) = zz
  have HZZ := Lib.hid hzz
  clear hzz
  go_enter Tryd.func19, Tryd.ntmps19
  go_wp2_with fail
  generalize w.alloc (.cells (ca cs) 23) = w0 at hk0 hrow hr0 ⊢
  have hl0 : w.heap.size < w0.heap.size := (Array.getElem?_eq_some_iff.1 hrow).1
  have HROW := Lib.hid (fun wc (hb : BK w0 wc) => range_ca (cs := cs) (((show Below w0.heap.size w0 wc from hb).block w.heap.size hl0).trans hrow))
  have HR := Lib.hid (fun wc (hb : BK w0 wc) => hr0.keep hb)
  have HK0 := Lib.hid hk0
  clear hk0 hr0 hrow hl0
  go_loopw [5, 11] (fun y x wr => ∃ (k : Nat) (p' : Option Addr) (c' : Nat), k ≤ ts.length ∧ x = .int .i64 k ∧ y = .slice p' (subsL [] (ts.take k)).length c' ∧ Row wr p' c' (subsL [] (ts.take k)) ∧ BK w0 wr) (fun _ x _ => ts.length - (intOf x).toNat)
  case atStart => exact ⟨0, none, 0, Nat.zero_le _, rfl, by simp [subsL_nil], .inl ⟨by simp [subsL_nil], fun _ => rfl⟩, BK.refl _⟩
  case round =>
    obtain ⟨k, p', c', hk, rfl, rfl, hrow, hkw⟩ := hrel
    have HK := Lib.hid hkw
    by_cases hlt : k < ts.length
    · obtain ⟨b3, o3, op3, wd3, vl3, nm3, us3, q3, d3, rfl, htk, hc3, hw3, hr3⟩ := (HR.out _ hkw).get hlt
      obtain ⟨c0, c1, c2, c3, c4⟩ := hc3
      have hz1 := sizeL_get ts k hlt
      obtain ⟨l0, hl0, hl0'⟩ := subsL_ext (ts.take k) []
      have hlS : (subsL [] (ts.take k)).length + size ts[k] ≤ 1000 := by rw [hl0, List.length_append]; simp; omega
      have HC := Lib.hid (subterms20 ts[k] op3 wd3 vl3 nm3 us3 htk (subsL [] (ts.take k)) wr p' q3 c' d3 hrow hr3 hw3 hlS)
      rw [← subsL_snoc [] ts k hlt] at HC
      clear hkw htk hr3 hw3 hl0 hl0' hrow
      go_wp2_with fail
      refine HC.out.mono ?_
      rintro e w2 ⟨⟨p2, c2', rfl, hrow2⟩, hb2⟩
      have H2 := Lib.hid (bk_tr HK.out hb2)
      have HRW := Lib.hid hrow2
      clear hb2 hrow2 c0 c1 c2 c3 c4
      go_wp2_with fail
      go_roundw
      case rel => exact ⟨k + 1, p2, c2', by omega, by go_num, rfl, HRW.out, H2.out⟩
      case measure => simp [intOf]; omega
    · obtain rfl : k = ts.length := by omega
      rw [List.take_length] at hrow ⊢
      obtain ⟨l0, hl0, hl0'⟩ := subsL_ext ts []
      have hlS : (subsL [] ts).length ≤ 1000 := by rw [hl0, List.length_append]; simp; omega
      have hsp := HZZ.out
      clear hl0 hl0' HZZ hk
      generalize subsL [] ts = S' at hrow hlS hsp ⊢
      have HSP := Lib.hid hsp
      have HR2 := Lib.hid (fun wc (hb : BK wr wc) => hrow.keep hb)
      clear hsp hrow hkw
      obtain ⟨wa, hwa⟩ : ∃ x, x = wr := ⟨_, rfl⟩
      subst hwa
      go_wp2_with fail
      go_loopw [7, 23] (fun y x wx => ∃ (j : Nat), j ≤ S'.length ∧ x = .int .i64 j ∧ y = .int .i64 (sumC cs (S'.take j)) ∧ BK wa wx) (fun _ x _ => S'.length - (intOf x).toNat)
      case atStart => exact ⟨0, Nat.zero_le _, rfl, rfl, BK.refl _⟩
      case round =>
        obtain ⟨k, hk, rfl, rfl, hkw⟩ := hrel
        have HK2 := Lib.hid hkw
        by_cases hlt : k < S'.length
        · obtain ⟨b3, o3, op3, wd3, vl3, nm3, us3, q3, d3, rfl, htk, hc3, -, -⟩ := (HR2.out _ hkw).get hlt
          have hc0 := hc3.1
          have HC0 := Lib.hid (fun wc (hb : BK wr wc) => ((show Below wr.heap.size wr wc from hb).cell (p := ⟨b3, o3 + k * 5, none⟩) (World.block_lt_of_cell? wr _ hc0)).trans hc0)
          have hsn : sumC cs (S'.take (k + 1)) = addC (sumC cs (S'.take k)) (nodeC cs op3) := by
            rw [List.take_succ_eq_append_getElem hlt, sumC_snoc, htk]; rfl
          have HSN := Lib.hid hsn
          have CN := Lib.hid (fun wc => node10 cs op3 wc hcs)
          generalize sumC cs (S'.take k) = sk at HSN
          have CA := Lib.hid (fun wc => add12 sk (nodeC cs op3) wc)
          unfold ca at CN
          generalize nodeC cs op3 = n3 at CN CA HSN
          clear hkw htk hc3 hc0 hsn
          have hu23 := Tryd.underlying23
          have hi23 : (Tryd.prog.info? 23).map (·.size) = some (cs.map (Value.int .i64)).length := by rw [List.length_map, hcs]; kernel_rfl
          go_wp2_with fail
          have hkI := bk_drew (bk_tr HK.out HK2.out)
          have hjI := bk_drew (BK.refl wr)
          refine wp_region_held_drew (S := fun w' => w'.rangeAt w.heap.size 0 (cs.map (Value.int .i64)) ∧ w'.cell? ⟨b3, o3 + k * 5, none⟩ = some (.int .i64 op3)) (by kernel_rfl) (And.intro (HROW.out _ (bk_drew (bk_tr HK.out HK2.out))) (HC0.out _ (bk_drew (BK.refl wr)))) (fun hHeld => ?_)
          generalize wr.drew = wI at hHeld hkI hjI ⊢
          refine wpAnyH_take (i := 0) (v := .int .i64 sk) rfl (by kernel_rfl) (by kernel_rfl) (by kernel_rfl) (fun _ _ _ h => h) (Or.inl ⟨by rfl, fun w hSw => by (go_simp)⟩) hHeld ?_
          try simp only [Act.put, List.setIfInBounds_toArray, List.set_cons_zero, List.set_cons_succ]
          refine' wpAnyH_take (i := 1) (v := _) rfl (by kernel_rfl) (by kernel_rfl) (by kernel_rfl) (fun _ _ _ h => h) (yieldsIf_load_mid (by rfl) _ _ rfl _ _ rfl _ _ (fun w hSw => hSw.1) hu23 rfl hi23) hHeld ?_
          try simp only [Act.put, List.setIfInBounds_toArray, List.set_cons_zero, List.set_cons_succ]
          refine wpAnyH_take (i := 2) (v := .slice (some ⟨b3, o3, none⟩) S'.length c') rfl (by kernel_rfl) (by kernel_rfl) (by kernel_rfl) (fun _ _ _ h => h) (Or.inl ⟨by rfl, fun w hSw => by (go_simp)⟩) hHeld ?_
          try simp only [Act.put, List.setIfInBounds_toArray, List.set_cons_zero, List.set_cons_succ]
          refine wpAnyH_take (i := 3) (v := .int .i64 k) rfl (by kernel_rfl) (by kernel_rfl) (by kernel_rfl) (fun _ _ _ h => h) (Or.inl ⟨by rfl, fun w hSw => by (go_simp)⟩) hHeld ?_
          try simp only [Act.put, List.setIfInBounds_toArray, List.set_cons_zero, List.set_cons_succ]
          refine wpAnyH_take (i := 4) (v := .pointer (some ⟨b3, o3 + k * 5, none⟩)) rfl (by kernel_rfl) (by kernel_rfl) (by kernel_rfl) (fun _ _ _ h => h) (Or.inl ⟨by rfl, fun w hSw => by (go_simp)⟩) hHeld ?_
          try simp only [Act.put, List.setIfInBounds_toArray, List.set_cons_zero, List.set_cons_succ]
          refine wpAnyH_take (i := 5) (v := .pointer (some ⟨b3, o3 + k * 5, none⟩)) rfl (by kernel_rfl) (by kernel_rfl) (by kernel_rfl) (fun _ _ _ h => h) (Or.inl ⟨by rfl, fun w hSw => by (go_simp)⟩) hHeld ?_
          try simp only [Act.put, List.setIfInBounds_toArray, List.set_cons_zero, List.set_cons_succ]
          refine wpAnyH_take (i := 6) (v := .int .i64 op3) rfl (by kernel_rfl) (by kernel_rfl) (by kernel_rfl) (fun _ _ _ h => h) (Or.inl ⟨by rfl, fun w hSw => by (obtain ⟨hS0, hS1⟩ := hSw; go_simp)⟩) hHeld ?_
          try simp only [Act.put, List.setIfInBounds_toArray, List.set_cons_zero, List.set_cons_succ]
          refine wpAnyH_ready (rs := [7]) (by kernel_rfl) (by simp) ?_
          refine AllReadyH.cons (o := _) rfl (fun K hK => ?_) AllReadyH.nil
          go_simp
          go_at_call 10; refine (CN.out _).mono ?_; rintro e w6 ⟨rfl, hq⟩; have hkA := bk_tr hkI hq; have hjA := bk_tr hjI hq
          refine hK.out _ _ (And.intro (HROW.out _ (hkA)) (HC0.out _ (hjA))) (fun hHeld => ?_)
          clear hK K
          try simp only [Act.put, List.setIfInBounds_toArray, List.set_cons_zero, List.set_cons_succ]
          refine wpAnyH_ready (rs := [8]) (by kernel_rfl) (by simp) ?_
          refine AllReadyH.cons (o := _) rfl (fun K hK => ?_) AllReadyH.nil
          go_simp
          go_at_call 12; refine (CA.out _).mono ?_; rintro e w7 ⟨rfl, rfl⟩
          refine hK.out _ _ (And.intro (HROW.out _ (hkA)) (HC0.out _ (hjA))) (fun hHeld => ?_)
          clear hK K
          try simp only [Act.put, List.setIfInBounds_toArray, List.set_cons_zero, List.set_cons_succ]
          refine wpAnyH_ready (rs := [9]) (by kernel_rfl) (by simp) ?_
          refine AllReadyH.cons (o := _) rfl (fun K hK => ?_) AllReadyH.nil
          go_simp
          refine hK.out _ _ (And.intro (HROW.out _ (hkA)) (HC0.out _ (hjA))) (fun hHeld => ?_)
          clear hK K
          try simp only [Act.put, List.setIfInBounds_toArray, List.set_cons_zero, List.set_cons_succ]
          refine wpAnyH_done (by kernel_rfl) ?_ _
          have HA := Lib.hid (bk_tr HK2.out hjA)
          clear hkI hjI hkA hjA
          go_wp2_with fail
          go_roundw
          case rel => exact ⟨k + 1, by omega, by go_num, by rw [HSN.out], HA.out⟩
          case measure => simp [intOf]; omega
        · obtain rfl : k = S'.length := by omega
          rw [List.take_length, HSP.out]
          clear hkw
          go_wp2_with fail
          go_ret
          exact ⟨rfl, bk_tr HK0.out (bk_tr HK.out HK2.out)⟩
end Go.Proofs.YtmejiiebeknbjaaDoor
