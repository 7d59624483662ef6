/- Window, a valid window. -/
import Derived.Test.YtjmmaaphadeokaaYF
namespace Go.Proofs.Ytjmmaaphadeokaa
open Go.RowKit Go.Shelf
set_option linter.unusedVariables false
set_option linter.unusedSimpArgs false
set_option maxRecDepth 100000 in
set_option maxHeartbeats 4000000 in
theorem win24_ok (W R : Int) (p q : Option Addr) (pc qc : Nat) (ins : List I6) (out : List Int) (f n : Nat) (w : World) (hi : RI w p pc ins) (ho : RO w q qc out) (li : ins.length ≤ 300) (lo : out.length ≤ 20) (hw0 : winE W R ins out f n = 0) : Calls Try.prog 24 #[.agg #[.int .i64 W, .int .i64 R, .slice p ins.length pc, .slice q out.length qc], .int .i64 (f : Int), .int .i64 (n : Int)] w (RP w W R ((ins.drop f).take n) (winOut 8 ((ins.drop f).take n) (ins.drop (f + n)) out)) := by
  obtain ⟨hc0, v1, v2, v3⟩ := win_zero hw0
  have hfn : f + n ≤ ins.length := by omega
  have hle := hi.le
  have hv := chk_zero.1 hc0
  obtain ⟨hreg, hin⟩ := valid_reg hv
  have hl6 := hv.len
  have hz := W4.new (w.alloc (.cells #[.int .i64 W, .int .i64 R, .slice p ins.length pc, .slice q out.length qc] 25)) (.int .i64 0) (.int .i64 0) (.slice none 0 0) (.slice none 0 0)
  rw [sz1] at hz
  have b4 := (b4_new w (.int .i64 W) (.int .i64 R) (.slice p ins.length pc) (.slice q out.length qc) 25).keep (bk_alloc (BK.refl _) (.cells #[.int .i64 0, .int .i64 0, .slice none 0 0, .slice none 0 0] 25))
  have k0 := bk_alloc (bk_alloc (BK.refl w) (.cells #[.int .i64 W, .int .i64 R, .slice p ins.length pc, .slice q out.length qc] 25)) (.cells #[.int .i64 0, .int .i64 0, .slice none 0 0, .slice none 0 0] 25)
  have C43 := Lib.hid (fun (wc : World) (hb : BK w wc) => by have := win43 W R p q pc qc ins out wc (hi.keep hb) (ho.keep hb) (by omega) (by omega) f n (by omega) (by omega); rw [hw0] at this; exact this)
  have C31 := Lib.hid (fun (wc : World) (hb : BK w wc) => between31 W R p q pc qc ins out wc (hi.keep hb) (ho.keep hb) hl6 (by omega) hin hreg)
  have hLi := ri_take (ri_drop hi f (by omega)) n
  have hLr : ∀ i ∈ (ins.drop f).take n, RegOk i := fun i h => hreg i (List.mem_of_mem_drop (List.mem_of_mem_take h))
  have hLl : ((ins.drop f).take n).length = n := by simp; omega
  have hs : ∀ wc, (Instr.slice 22 (.slice p ins.length pc) (some (.int .i64 (f : Int))) (some (.int .i64 ((f + n : Nat) : Int))) none).run Try.prog wc = .ok (.slice (loP p pc f) ((ins.drop f).take n).length (pc - f)) wc := fun wc => by
    rw [slice_lh p ins.length pc f (f + n) (by omega) (by omega) wc, hLl, Nat.add_sub_cancel_left]
  have ei : IntKind.i64.wrap ((f : Int) + (n : Int)) = ((f + n : Nat) : Int) := by rw [IntWalk.i64_in _ (by omega)]; omega
  have HO := Lib.hid ho
  clear hi ho hw0 hc0 hv hreg hin
  have hLb : ((ins.drop f).take n).length ≤ 256 := by rw [hLl]; omega
  generalize (ins.drop f).take n = L at hLi hLr hLl hs hLb ⊢
  generalize loP p pc f = p9 at hLi hs
  generalize pc - f = c9 at hLi hs
  generalize f + n = m at hfn hs ei ⊢
  have hm1 : (m : Int) < (ins.length : Int) + 1 := by omega
  have hm0 : (0 : Int) ≤ (m : Int) := by omega
  have C44 := Lib.hid (fun (wc : World) (hb : BK w wc) => clone44 L p9 c9 wc (hLi.keep hb) (by omega))
  have HLR := Lib.hid hLr
  have HLL := Lib.hid hLl
  have HU := Lib.hid (upL_df (ins.drop m) out L)
  rw [← HU.out]
  have HDN := Lib.hid (dfS_nil (ins.drop m) out)
  have HDL := Lib.hid (fun l => dfS_len (ins.drop m) out l)
  clear hLi hLr hLl
  go_enter Try.func24, Try.ntmps24
  go_upto_region 1 with (fail)
  generalize (w.alloc (.cells #[.int .i64 W, .int .i64 R, .slice p ins.length pc, .slice q out.length qc] 25)).alloc (.cells #[.int .i64 0, .int .i64 0, .slice none 0 0, .slice none 0 0] 25) = w0 at b4 hz k0 ⊢
  have HZ := Lib.hid hz
  have HB := Lib.hid b4
  have K0 := Lib.hid k0
  obtain ⟨c0, c1, c2, c3⟩ := b4
  clear hz k0
  go_wp2_with fail
  refine (C43.out w0 K0.out).mono ?_
  rintro e w1 ⟨rfl, hb1⟩
  have K1 := Lib.hid (bk_tr K0.out hb1)
  have J1 := Lib.hid hb1
  clear c0 c1 c2 c3
  obtain ⟨c0, c1, c2, c3⟩ := HB.out.keep hb1
  clear hb1
  go_wp2_with fail
  refine (C44.out w1 K1.out).mono ?_
  rintro e w2 ⟨v9, rfl, ho9, hb2⟩
  obtain ⟨p', c', rfl⟩ := own_shape ho9
  have HO2 := Lib.hid ho9
  have J2 := Lib.hid (bk_tr J1.out hb2)
  clear hb2 ho9 c0 c1 c2 c3 hs
  obtain ⟨c0, c1, c2, c3⟩ := HB.out.keep J2.out
  go_wp2_with fail
  refine (C31.out w2 (bk_tr K0.out J2.out)).mono ?_
  rintro e w5 ⟨g, rfl, hg, hrs, hb5⟩
  have HRS := Lib.hid (hrs.at_ m (by omega) (by omega))
  have J5 := Lib.hid (bk_tr J2.out hb5)
  have HO5 := Lib.hid (own_below HO2.out hb5)
  have HSZ2 := Lib.hid (show w.heap.size + 1 < w1.heap.size from (HZ.out.keep J1.out).lt)
  clear hrs hb5 c0 c1 c2 c3
  go_upto_region 6 with (first | (refine wpList_load_mid rfl 58 _ rfl g (m * 8) ?hx (bs (lvL (ins.drop m) out)) _ HRS.out Try.underlying58 rfl (hi58 _ (lvL_len _ _)) ?_; (case hx => first | rfl | simp [Act.eval])) | (refine wpList_store_row rfl 58 _ _ rfl w5.heap.size (ba (lvL (ins.drop m) out)) rfl rfl 58 _ (heap_alloc_last _ _) (by rw [ba_size, lvL_len]; kernel_rfl) (by rw [ba_size, lvL_len]; rfl) (ba_one _) ?_; rw [World.setRow_alloc_new]))
  have s0 := SH.new w5 (lvL (ins.drop m) out)
  have k6 := bk_alloc (BK.refl w5) (.cells (ba (lvL (ins.drop m) out)) 58)
  have hsz := sz1 w5 (.cells (ba (lvL (ins.drop m) out)) 58)
  have hT5 : w.heap.size + 1 < w5.heap.size := (HZ.out.keep J5.out).lt
  generalize w5.alloc (.cells (ba (lvL (ins.drop m) out)) 58) = w6 at s0 k6 hsz ⊢
  generalize w5.heap.size = t5 at s0 hsz hT5 ⊢
  have J6 := Lib.hid (bk_tr J5.out k6)
  have HO6 := Lib.hid (own_below HO5.out k6)
  have S0 := Lib.hid s0
  have HSZ := Lib.hid hsz
  clear s0 k6 ei hm1 hm0
  go_upto_region 7 with (fail)
  rw [← zeros58]
  have s1 := SH.new w6 (hvL [])
  have k7 := bk_alloc (BK.refl w6) (.cells (ba (hvL [])) 58)
  generalize w6.alloc (.cells (ba (hvL [])) 58) = w7 at s1 k7 ⊢
  rw [hsz] at s1
  clear hsz
  have S1 := Lib.hid s1
  have K7 := Lib.hid k7
  clear s1 k7
  go_wp2_with fail
  go_loopw [41] (fun i wr => ∃ k : Nat, k ≤ L.length ∧ i = .int .i64 k ∧ SH wr (t5 + 1) (dfS (ins.drop m) out (L.take k)) ∧ BK w6 wr) (fun i _ => L.length - (intOf i).toNat)
  case atStart => exact ⟨0, Nat.zero_le _, rfl, by rw [List.take_zero, HDN.out]; exact S1.out, K7.out⟩
  case round =>
    obtain ⟨k, hk, rfl, s1, hkw⟩ := hrel
    have HS1 := Lib.hid s1
    have HKW := Lib.hid hkw
    by_cases hlt : k < L.length
    · have hk8 : (k : Int) < L.length := by omega
      obtain ⟨b, o, hpe, hc⟩ := ((RI.own (own_below HO6.out hkw)).get k hlt)
      subst hpe
      have hri := HLR.out _ (List.getElem_mem hlt)
      have hsn := List.take_succ_eq_append_getElem hlt
      clear s1 hkw
      generalize L[k] = i at hc hri hsn
      have C45 := Lib.hid (fun wc => def45 i wc)
      obtain ⟨x0, x1, x2, x3, x4, x5⟩ := hc
      have hsb : t5 + 1 < wr.heap.size := HS1.out.lt
      go_upto_region 10 with (fail)
      have x6 := x6_new wr i 54
      have ka := bk_alloc (BK.refl wr) (.cells #[.int .i64 i.op, .int .i64 i.dst, .int .i64 i.a, .int .i64 i.b, .int .i64 i.c, .int .u64 i.imm] 54)
      generalize wr.alloc (.cells #[.int .i64 i.op, .int .i64 i.dst, .int .i64 i.a, .int .i64 i.b, .int .i64 i.c, .int .u64 i.imm] 54) = wa at x6 ka ⊢
      generalize wr.heap.size = ta at x6 ⊢
      have KA := Lib.hid ka
      clear x0 x1 x2 x3 x4 x5 ka
      obtain ⟨x0, x1, x2, x3, x4, x5⟩ := x6
      cases hd : dfB i.op
      · have HN := Lib.hid (dfS_no (ins.drop m) out (L.take k) i hd)
        have C45 := Lib.hid (fun wc => by have := C45.out wc; rw [hd] at this; exact this)
        generalize defV i = dv at C45
        clear hd hri
        go_wp2_with fail
        refine (C45.out wa).mono ?_
        rintro e w3 ⟨rfl, hb3⟩
        have K3 := Lib.hid (bk_tr KA.out hb3)
        clear hb3 x0 x1 x2 x3 x4 x5
        go_wp2_with fail
        go_roundw
        case rel => exact ⟨k + 1, by omega, by go_num, by rw [hsn, HN.out]; exact HS1.out.keep K3.out, bk_tr HKW.out K3.out⟩
        case measure => first | (simp [intOf]; done) | (simp [intOf]; omega)
      · have hda := hri.2 hd
        obtain ⟨a, ha⟩ : ∃ a : Nat, i.dst = a := ⟨i.dst.toNat, by omega⟩
        have ha8 : a < 8 := by omega
        have HY := Lib.hid (dfS_yes (ins.drop m) out (L.take k) i a hd ha ha8)
        have C45 := Lib.hid (fun wc => (C45.out wc).mono (R' := fun e w' => e = .returned (.tuple #[.int .i64 (a : Int), .bool true]) ∧ BK wc w') fun e w' ⟨h1, h2⟩ => ⟨by rw [h1, hd, show defV i = a from by unfold defV; rw [if_pos hd, ha]], h2⟩)
        have hi0 : (0 : Int) ≤ a := by omega
        have hi1 : (a : Int) < 8 := by omega
        clear hd hda hri ha
        go_wp2_with fail
        refine (C45.out wa).mono ?_
        rintro e w3 ⟨rfl, hb3⟩
        have K3 := Lib.hid (bk_tr KA.out hb3)
        have S3 := Lib.hid (HS1.out.keep K3.out)
        have T3 := Lib.hid (S0.out.keep (bk_tr HKW.out K3.out))
        have e1 := S3.out.cell a (by rw [HDL.out]; exact ha8)
        have f1 := S3.out.frozen a
        have d1 := T3.out.cell a (by rw [lvL_len]; exact ha8)
        have hg1 : (lvL (ins.drop m) out)[a]'(by rw [lvL_len]; exact ha8) = usedB (ins.drop m) out a := by simp [lvL]
        rw [hg1] at d1
        have HS := Lib.hid (S3.out.set a (usedB (ins.drop m) out a))
        rw [← HY.out, ← hsn] at HS
        clear hb3 x0 x1 x2 x3 x4 x5 hg1
        generalize (dfS (ins.drop m) out (L.take k))[a]'(by rw [HDL.out]; exact ha8) = z at e1
        generalize usedB (ins.drop m) out a = u at d1 HS
        go_wp2_with fail
        go_roundw
        case rel => exact ⟨k + 1, by omega, by go_num, HS.out, bk_set (bk_tr HKW.out K3.out) _ _ (by show w6.heap.size ≤ t5 + 1; rw [HSZ.out]; omega)⟩
        case measure => first | (simp [intOf]; done) | (simp [intOf]; omega)
    · obtain rfl : k = L.length := by omega
      rw [List.take_length] at HS1
      have H8 := Lib.hid (HDL.out L)
      clear s1 hkw
      generalize hs9 : dfS (ins.drop m) out L = s9 at HS1 H8 ⊢
      have HS9 := Lib.hid hs9
      clear hs9
      have J9 := Lib.hid (bk_tr J6.out HKW.out)
      have KR := Lib.hid (bk_tr K0.out J9.out)
      have B9 := Lib.hid (HB.out.keep J9.out)
      have S9 := HS1
      have HZ7 := Lib.hid (HZ.out.keep J9.out)
      have HOR := Lib.hid (own_below HO6.out HKW.out)
      have NZ := HSZ2
      have hT5' : w.heap.size + 1 < t5 := hT5
      have C32 := Lib.hid (fun wc => show Calls Try.prog 32 #[.agg (bs s9).toArray] wc (LP (upL s9 8) wc) from list32 s9 wc H8.out)
      go_upto_region 14 with (fail)
      refine wp_region_held_drew (S := fun w' => B4 w' w.heap.size (.int .i64 W) (.int .i64 R) (.slice p ins.length pc) (.slice q out.length qc) ∧ SH w' (t5 + 1) s9) (by kernel_rfl) (⟨B9.out.keep (bk_drew (BK.refl _)), S9.out.keep (bk_drew (BK.refl _))⟩) (fun hHeld => ?_)
      have hkK := bk_drew (BK.refl wr)
      generalize wr.drew = wK at hHeld hkK ⊢
      refine wpAnyH_take (i := 0) (v := .pointer (some ⟨w.heap.size, 0, none⟩)) rfl (by kernel_rfl) (by kernel_rfl) (by kernel_rfl) (fun _ _ _ h => h) (Or.inl ⟨by kernel_rfl, fun w hSw => by (go_simp)⟩) hHeld ?_
      try simp only [Act.put, List.setIfInBounds_toArray, List.set_cons_zero, List.set_cons_succ]
      refine wpAnyH_take (i := 1) (v := .int .i64 W) rfl (by kernel_rfl) (by kernel_rfl) (by kernel_rfl) (fun _ _ _ h => h) (Or.inl ⟨by kernel_rfl, fun w hSw => by (have q0 := hSw.1.1; have q1 := hSw.1.2.1; go_simp)⟩) hHeld ?_
      try simp only [Act.put, List.setIfInBounds_toArray, List.set_cons_zero, List.set_cons_succ]
      refine wpAnyH_take (i := 2) (v := .pointer (some ⟨w.heap.size, 1, none⟩)) rfl (by kernel_rfl) (by kernel_rfl) (by kernel_rfl) (fun _ _ _ h => h) (Or.inl ⟨by kernel_rfl, fun w hSw => by (go_simp)⟩) hHeld ?_
      try simp only [Act.put, List.setIfInBounds_toArray, List.set_cons_zero, List.set_cons_succ]
      refine wpAnyH_take (i := 3) (v := .int .i64 R) rfl (by kernel_rfl) (by kernel_rfl) (by kernel_rfl) (fun _ _ _ h => h) (Or.inl ⟨by kernel_rfl, fun w hSw => by (have q0 := hSw.1.1; have q1 := hSw.1.2.1; go_simp)⟩) hHeld ?_
      try simp only [Act.put, List.setIfInBounds_toArray, List.set_cons_zero, List.set_cons_succ]
      refine wpAnyH_take (i := 4) (v := .slice p' L.length c') rfl (by kernel_rfl) (by kernel_rfl) (by kernel_rfl) (fun _ _ _ h => h) (Or.inl ⟨by kernel_rfl, fun w hSw => by (go_simp)⟩) hHeld ?_
      try simp only [Act.put, List.setIfInBounds_toArray, List.set_cons_zero, List.set_cons_succ]
      refine wpAnyH_take (i := 5) (v := .agg (bs s9).toArray) rfl (by kernel_rfl) (by kernel_rfl) (by kernel_rfl) (fun _ _ _ h => h) (yieldsIf_load_mid (by kernel_rfl) 58 (.tmp 11) rfl (t5 + 1) (0) (by simp [Act.eval]) (bs s9) _ (fun w hSw => hSw.2.range) Try.underlying58 rfl (hi58 _ H8.out)) hHeld ?_
      try simp only [Act.put, List.setIfInBounds_toArray, List.set_cons_zero, List.set_cons_succ]
      refine wpAnyH_ready (rs := [6]) (by kernel_rfl) (by simp) ?_
      refine AllReadyH.cons (o := _) rfl (fun K9 hK9 => ?_) AllReadyH.nil
      go_simp
      go_at_call 32
      refine (C32.out wK).mono ?_
      rintro e w7 ⟨v7, rfl, ho7, hb7⟩
      obtain ⟨q', qc', rfl⟩ := own_shape ho7
      have k7 := bk_tr hkK hb7
      refine hK9.out _ _ (⟨hHeld.1.keep hb7, hHeld.2.keep hb7⟩) (fun hHeld => ?_)
      clear hK9 K9
      try simp only [Act.put, List.setIfInBounds_toArray, List.set_cons_zero, List.set_cons_succ]
      refine wpAnyH_take (i := 7) (v := .agg #[.int .i64 W, .int .i64 R, .slice p' L.length c', .slice q' (upL s9 8).length qc']) rfl (by kernel_rfl) (by kernel_rfl) (by kernel_rfl) (fun _ _ _ h => h) (Or.inl ⟨by kernel_rfl, fun w hSw => by (go_simp)⟩) hHeld ?_
      try simp only [Act.put, List.setIfInBounds_toArray, List.set_cons_zero, List.set_cons_succ]
      have hz7 := (HZ7.out.keep k7)
      refine wpAnyH_ready (rs := [8]) (by kernel_rfl) (by simp) ?_
      refine AllReadyH.cons (o := _) rfl (fun K9 hK9 => ?_) AllReadyH.nil
      refine wp_store_mid 25 _ _ rfl (w.heap.size + 1) 0 #[.int .i64 W, .int .i64 R, .slice p' L.length c', .slice q' (upL s9 8).length qc'] rfl rfl hz7.range (by kernel_rfl) (one4 W R _ q' _ qc' rfl) ?_
      refine hK9.out _ _ (⟨hHeld.1.cells _ _ _ (by omega), hHeld.2.cells _ _ _ (by omega)⟩) (fun hHeld => ?_)
      clear hK9 K9
      try simp only [Act.put, List.setIfInBounds_toArray, List.set_cons_zero, List.set_cons_succ]
      refine wpAnyH_ready (rs := [9]) (by kernel_rfl) (by simp) ?_
      refine AllReadyH.cons (o := _) rfl (fun K9 hK9 => ?_) AllReadyH.nil
      go_simp
      refine hK9.out _ _ (hHeld) (fun hHeld => ?_)
      clear hK9 K9
      try simp only [Act.put, List.setIfInBounds_toArray, List.set_cons_zero, List.set_cons_succ]
      refine wpAnyH_done (by kernel_rfl) ?_ _
      have eF := World.rangeAt_setCells_same w7 (w.heap.size + 1) 0 [.int .i64 W, .int .i64 R, .slice p' L.length c', .slice q' (upL s9 8).length qc'] hz7.range
      have HBF := Lib.hid (show BK w (w7.setCells (w.heap.size + 1) 0 [.int .i64 W, .int .i64 R, .slice p' L.length c', .slice q' (upL s9 8).length qc']) from bk_setCells _ (by omega) _ _ _ (bk_tr KR.out k7))
      have hnI : ∀ k, (Value.slice p' L.length c').ownBlock = some k → (w7.setCells (w.heap.size + 1) 0 [.int .i64 W, .int .i64 R, .slice p' L.length c', .slice q' (upL s9 8).length qc']).heap[k]? = w7.heap[k]? := fun k hk => World.heap_setCells_other w7 _ 0 _ ((own_below HOR.out k7).lt k hk).2 (by have := (HOR.out.lt k hk).1; have := NZ.out; omega)
      have oI := Lib.hid (own_at (own_below HOR.out k7) hnI)
      have hnO : ∀ k, (Value.slice q' (upL s9 8).length qc').ownBlock = some k → (w7.setCells (w.heap.size + 1) 0 [.int .i64 W, .int .i64 R, .slice p' L.length c', .slice q' (upL s9 8).length qc']).heap[k]? = w7.heap[k]? := fun k hk => World.heap_setCells_other w7 _ 0 _ (ho7.lt k hk).2 (by have h1 := (ho7.lt k hk).1; have h2 := hkK.bl.size; have := (HZ7.out.lt); omega)
      have oO := Lib.hid (own_at ho7 hnO)
      have EF := Lib.hid eF
      clear eF hnI hnO ho7 hb7 k7 hHeld hkK hz7
      generalize hSC : w7.setCells (w.heap.size + 1) 0 #[.int .i64 W, .int .i64 R, .slice p' L.length c', .slice q' (upL s9 8).length qc'].toList = w8
      have hSC' : w7.setCells (w.heap.size + 1) 0 [.int .i64 W, .int .i64 R, .slice p' L.length c', .slice q' (upL s9 8).length qc'] = w8 := hSC
      rw [hSC'] at HBF oI oO EF
      clear hSC hSC'
      go_wp2_with fail
      have r0 := EF.out 0 _ rfl
      have r1 := EF.out 1 _ rfl
      have r2 := EF.out 2 _ rfl
      have r3 := EF.out 3 _ rfl
      rw [Nat.zero_add] at r0 r1 r2 r3
      have e9 := HS9.out
      subst e9
      exact bodyPost_ret (v := .tuple #[.agg #[.int .i64 W, .int .i64 R, .slice p' L.length c', .slice q' (upL (dfS (ins.drop m) out L) 8).length qc'], .int .i64 0]) (by simp [results, Try.results24, go_sem, r0, r1, r2, r3]) rfl ⟨p', c', q', qc', rfl, RI.own oI.out, RO.own oO.out, HBF.out⟩
end Go.Proofs.Ytjmmaaphadeokaa
