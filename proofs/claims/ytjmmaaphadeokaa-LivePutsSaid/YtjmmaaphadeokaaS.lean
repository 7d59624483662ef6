/- Sets between instructions. -/
import Derived.Test.YtjmmaaphadeokaaR
namespace Go.Proofs.Ytjmmaaphadeokaa
open Go.RowKit
set_option linter.unusedVariables false
set_option linter.unusedSimpArgs false
theorem there_made {w : World} (n : Nat) : ∀ k, k < n → (w.alloc (.cells (mk58 n) 58)).there w.heap.size (k * 8) 8 := fun k hk j hj => by
  have hb := heap_alloc_new w (.cells (mk58 n) 58)
  refine ⟨?_, World.frozen?_alloc_new _ _ _ _⟩
  rw [cell_of_row _ _ _ _ _ _ hb]
  rw [Array.getElem?_eq_getElem (by rw [mk58_size]; omega)]; rfl
set_option maxRecDepth 100000 in
set_option maxHeartbeats 1000000 in
theorem between31 (W R : Int) (p q : Option Addr) (pc qc : Nat) (ins : List I6) (out : List Int) (w : World) (hi : RI w p pc ins) (ho : RO w q qc out) (li : ins.length ≤ 256) (lo : out.length ≤ 1000)
    (hin : ∀ x ∈ out, 0 ≤ x ∧ x < 8) (hr : ∀ i ∈ ins, RegOk i) : Calls Try.prog 31 #[.agg #[.int .i64 W, .int .i64 R, .slice p ins.length pc, .slice q out.length qc]] w (BP ins.length ins out w) := by
  have b4 := b4_new w (.int .i64 W) (.int .i64 R) (.slice p ins.length pc) (.slice q out.length qc) 25
  have k0 := bk_alloc (BK.refl w) (.cells #[.int .i64 W, .int .i64 R, .slice p ins.length pc, .slice q out.length qc] 25)
  have HI := Lib.hid hi
  have HREG := Lib.hid hr
  have S36 := Lib.hid (fun (wc : World) (h : RO wc q qc out) => set36 out q qc wc h hin lo)
  have HO := Lib.hid ho
  have hmk : ∀ w : World, (Instr.makeSlice 55 (.int .i64 ((ins.length : Int) + 1)) (.int .i64 ((ins.length : Int) + 1))).run Try.prog w = .ok (.slice (some ⟨w.heap.size, 0, none⟩) (ins.length + 1) (ins.length + 1)) (w.alloc (.cells (mk58 (ins.length + 1)) 58)) := by
    have e : ((ins.length + 1 : Nat) : Int) = (ins.length : Int) + 1 := by omega
    rw [← e]; exact make58 (ins.length + 1) (by omega)
  clear hi ho hin hr
  go_enter Try.func31, Try.ntmps31
  go_upto_region 2 with (fail)
  generalize w.alloc (.cells #[.int .i64 W, .int .i64 R, .slice p ins.length pc, .slice q out.length qc] 25) = w0 at b4 k0 ⊢
  obtain ⟨c0, c1, c2, c3⟩ := b4
  go_upto_region 3 with (fail)
  have th := there_made (w := w0) (ins.length + 1)
  have k1 := bk_alloc k0 (.cells (mk58 (ins.length + 1)) 58)
  have b41 := (show B4 w0 w.heap.size (.int .i64 W) (.int .i64 R) (.slice p ins.length pc) (.slice q out.length qc) from ⟨c0, c1, c2, c3⟩).keep (bk_alloc (BK.refl w0) (.cells (mk58 (ins.length + 1)) 58))
  have hg0 : w.heap.size < w0.heap.size := World.block_lt_of_cell? w0 _ c0
  clear c0 c1 c2 c3 hmk
  generalize w0.alloc (.cells (mk58 (ins.length + 1)) 58) = w1 at th k1 b41 ⊢
  generalize w0.heap.size = g at th hg0 ⊢
  obtain ⟨c0, c1, c2, c3⟩ := b41
  have K1 := Lib.hid k1
  have TH := Lib.hid th
  have B41 := Lib.hid (show B4 w1 w.heap.size (.int .i64 W) (.int .i64 R) (.slice p ins.length pc) (.slice q out.length qc) from ⟨c0, c1, c2, c3⟩)
  clear k1 th k0
  go_wp2_with fail
  refine (S36.out w1 (HO.out.keep K1.out)).mono ?_
  rintro e w2 ⟨rfl, hb2⟩
  have RS2 : RS w2 g (ins.length + 1) ins out (ins.length + 1) := RS.keep ⟨TH.out, fun k h1 h2 => by omega⟩ hb2
  have RS3 := RS2.step (m := ins.length) (by omega)
  rw [List.drop_length] at RS3
  have HTH := Lib.hid (RS2.th ins.length (by omega))
  have B43 := Lib.hid ((B41.out.keep hb2).cells g (ins.length * 8) (bs (lvL [] out)) (by omega))
  have K3 := Lib.hid (bk_setCells g (by omega) (bs (lvL [] out)) (ins.length * 8) w2 (bk_tr K1.out hb2))
  have RS3' := Lib.hid RS3
  clear RS2 RS3 hb2 c0 c1 c2 c3
  go_upto_region 4 with (refine wpList_store_mid rfl 58 _ _ rfl g (ins.length * 8) (ba (hvL out)) rfl rfl (by rw [ba_size, hvL_len]; exact HTH.out) (by rw [ba_size, hvL_len]; kernel_rfl) (ba_one _) ?_)
  have e3 : (ba (hvL out)).toList = bs (lvL [] out) := rfl
  rw [e3]
  clear e3
  generalize w2.setCells g (ins.length * 8) (bs (lvL [] out)) = w3 at B43 K3 RS3' ⊢
  go_wp2_with fail
  go_loopw [5] (fun x wr => ∃ m : Nat, m ≤ ins.length ∧ x = .int .i64 ((m : Int) - 1) ∧ B4 wr w.heap.size (.int .i64 W) (.int .i64 R) (.slice p ins.length pc) (.slice q out.length qc) ∧ RS wr g (ins.length + 1) ins out m ∧ BK w wr) (fun x _ => (intOf x + 1).toNat)
  case atStart => exact ⟨ins.length, Nat.le_refl _, rfl, B43.out, RS3'.out, K3.out⟩
  case round =>
    obtain ⟨m, hm, rfl, hb4, hrs, hkw⟩ := hrel
    have H4 := Lib.hid hb4
    have HRS := Lib.hid hrs
    have HK := Lib.hid hkw
    cases m with
    | zero =>
      clear hb4 hrs hkw
      go_wp2_with fail
      go_ret
      exact ⟨g, rfl, by omega, HRS.out, HK.out⟩
    | succ m =>
      have em : (((m + 1 : Nat) : Int) - 1) = (m : Int) := by omega
      rw [em]
      clear em
      have hlt : m < ins.length := by omega
      obtain ⟨b, o, rfl, hc⟩ := (HI.out.keep hkw).get m hlt
      have hb0 : b < w.heap.size := by
        obtain ⟨b', o', he, hc'⟩ := HI.out.get m hlt
        simp only [Option.some.injEq, Addr.mk.injEq, and_true] at he
        rw [he.1]; exact World.block_lt_of_cell? w _ hc'.1
      have hro := HREG.out _ (List.getElem_mem hlt)
      have hd := List.drop_eq_getElem_cons hlt
      generalize ins[m] = i at hc hro hd
      have hat := hrs.at_ (m + 1) (by omega) (by omega)
      obtain ⟨s0, hs0⟩ : ∃ s0, s0 = lvL (ins.drop (m + 1)) out := ⟨_, rfl⟩
      have hl8 : s0.length = 8 := by rw [hs0, lvL_len]
      rw [← hs0] at hat
      have HI58 := Lib.hid (hi58 s0 hl8)
      have BRH := Lib.hid (show BR wr w.heap.size g b o m i (.slice (some ⟨b, o, none⟩) ins.length pc) s0 from ⟨hb4.2.2.1, hc, hat, hrs.th m (by omega)⟩)
      have NE1 := Lib.hid (show w.heap.size ≠ g from by omega)
      have NE2 := Lib.hid (show b ≠ g from by omega)
      have BF := Lib.hid (fun wc => show Calls Try.prog 39 #[.agg #[.int .i64 i.op, .int .i64 i.dst, .int .i64 i.a, .int .i64 i.b, .int .i64 i.c, .int .u64 i.imm], .agg (bs s0).toArray] wc (LvPost wc (bfL i s0 (usesL i).length)) from before39 i s0 wc hl8 hro)
      have HD := Lib.hid hd
      have HS0 := Lib.hid hs0
      have HL8 := Lib.hid hl8
      have hi0 : (0 : Int) ≤ m := by omega
      have hi1 : (m : Int) < ins.length := by omega
      have hi2 : (m : Int) < (ins.length : Int) + 1 := by omega
      have hi3 : ¬ ((ins.length : Int) + 1 ≤ (m : Int)) := by omega
      have ei : IntKind.i64.wrap ((m : Int) + 1) = (m : Int) + 1 := IntWalk.i64_in _ (by omega)
      have e0 : (0 : Int) ≤ (m : Int) + 1 := by omega
      have e1 : ((m : Int) + 1).toNat = m + 1 := by omega
      clear hc hro hd hb4 hrs hkw hat hs0 hl8
      go_upto_region 7 with (fail)
      refine wp_region_held_drew (S := fun w' => BR w' w.heap.size g b o m i (.slice (some ⟨b, o, none⟩) ins.length pc) s0) (by kernel_rfl) (BRH.out.keep (bk_drew (BK.refl _))) (fun hHeld => ?_)
      have hkI := bk_drew (BK.refl wr)
      generalize wr.drew = wI at hHeld hkI ⊢
      refine wpAnyH_take (i := 0) (v := .slice (some ⟨g, 0, none⟩) (ins.length + 1) (ins.length + 1)) rfl (by kernel_rfl) (by kernel_rfl) (by kernel_rfl) (fun _ _ _ h => h) (Or.inl ⟨by kernel_rfl, fun w hSw => by (go_simp)⟩) hHeld ?_
      try simp only [Act.put, List.setIfInBounds_toArray, List.set_cons_zero, List.set_cons_succ]
      refine wpAnyH_take (i := 1) (v := .int .i64 (m : Int)) rfl (by kernel_rfl) (by kernel_rfl) (by kernel_rfl) (fun _ _ _ h => h) (Or.inl ⟨by kernel_rfl, fun w hSw => by (go_simp)⟩) hHeld ?_
      try simp only [Act.put, List.setIfInBounds_toArray, List.set_cons_zero, List.set_cons_succ]
      refine wpAnyH_take (i := 2) (v := .pointer (some ⟨w.heap.size, 2, none⟩)) rfl (by kernel_rfl) (by kernel_rfl) (by kernel_rfl) (fun _ _ _ h => h) (Or.inl ⟨by kernel_rfl, fun w hSw => by (go_simp)⟩) hHeld ?_
      try simp only [Act.put, List.setIfInBounds_toArray, List.set_cons_zero, List.set_cons_succ]
      refine wpAnyH_take (i := 3) (v := .slice (some ⟨b, o, none⟩) ins.length pc) rfl (by kernel_rfl) (by kernel_rfl) (by kernel_rfl) (fun _ _ _ h => h) (Or.inl ⟨by kernel_rfl, fun w hSw => by (have hc := hSw.c; go_simp)⟩) hHeld ?_
      try simp only [Act.put, List.setIfInBounds_toArray, List.set_cons_zero, List.set_cons_succ]
      refine wpAnyH_take (i := 4) (v := .int .i64 (m : Int)) rfl (by kernel_rfl) (by kernel_rfl) (by kernel_rfl) (fun _ _ _ h => h) (Or.inl ⟨by kernel_rfl, fun w hSw => by (go_simp)⟩) hHeld ?_
      try simp only [Act.put, List.setIfInBounds_toArray, List.set_cons_zero, List.set_cons_succ]
      refine wpAnyH_take (i := 5) (v := .pointer (some ⟨b, o + m * 6, none⟩)) rfl (by kernel_rfl) (by kernel_rfl) (by kernel_rfl) (fun _ _ _ h => h) (Or.inl ⟨by kernel_rfl, fun w hSw => by (go_simp)⟩) hHeld ?_
      try simp only [Act.put, List.setIfInBounds_toArray, List.set_cons_zero, List.set_cons_succ]
      refine wpAnyH_take (i := 6) (v := .agg #[.int .i64 i.op, .int .i64 i.dst, .int .i64 i.a, .int .i64 i.b, .int .i64 i.c, .int .u64 i.imm]) rfl (by kernel_rfl) (by kernel_rfl) (by kernel_rfl) (fun _ _ _ h => h) (Or.inl ⟨by kernel_rfl, fun w hSw => by (obtain ⟨q0, q1, q2, q3, q4, q5⟩ := hSw.a; go_simp)⟩) hHeld ?_
      try simp only [Act.put, List.setIfInBounds_toArray, List.set_cons_zero, List.set_cons_succ]
      refine wpAnyH_take (i := 7) (v := .slice (some ⟨g, 0, none⟩) (ins.length + 1) (ins.length + 1)) rfl (by kernel_rfl) (by kernel_rfl) (by kernel_rfl) (fun _ _ _ h => h) (Or.inl ⟨by kernel_rfl, fun w hSw => by (go_simp)⟩) hHeld ?_
      try simp only [Act.put, List.setIfInBounds_toArray, List.set_cons_zero, List.set_cons_succ]
      refine wpAnyH_take (i := 8) (v := .int .i64 (m : Int)) rfl (by kernel_rfl) (by kernel_rfl) (by kernel_rfl) (fun _ _ _ h => h) (Or.inl ⟨by kernel_rfl, fun w hSw => by (go_simp)⟩) hHeld ?_
      try simp only [Act.put, List.setIfInBounds_toArray, List.set_cons_zero, List.set_cons_succ]
      refine wpAnyH_take (i := 9) (v := .int .i64 ((m : Int) + 1)) rfl (by kernel_rfl) (by kernel_rfl) (by kernel_rfl) (fun _ _ _ h => h) (Or.inl ⟨by kernel_rfl, fun w hSw => by (go_simp)⟩) hHeld ?_
      try simp only [Act.put, List.setIfInBounds_toArray, List.set_cons_zero, List.set_cons_succ]
      refine wpAnyH_take (i := 10) (v := .pointer (some ⟨g, (m + 1) * 8, none⟩)) rfl (by kernel_rfl) (by kernel_rfl) (by kernel_rfl) (fun _ _ _ h => h) (Or.inl ⟨by kernel_rfl, fun w hSw => by (go_simp)⟩) hHeld ?_
      try simp only [Act.put, List.setIfInBounds_toArray, List.set_cons_zero, List.set_cons_succ]
      refine wpAnyH_take (i := 11) (v := .agg (bs s0).toArray) rfl (by kernel_rfl) (by kernel_rfl) (by kernel_rfl) (fun _ _ _ h => h) (yieldsIf_load_mid (by kernel_rfl) 58 (.tmp 34) rfl g ((m + 1) * 8) (by simp [Act.eval]) (bs s0) _ (fun w hSw => hSw.r) Try.underlying58 rfl HI58.out) hHeld ?_
      try simp only [Act.put, List.setIfInBounds_toArray, List.set_cons_zero, List.set_cons_succ]
      refine wpAnyH_ready (rs := [12]) (by kernel_rfl) (by simp) ?_
      refine AllReadyH.cons (o := _) rfl (fun K hK => ?_) AllReadyH.nil
      go_simp
      go_at_call 39
      refine (BF.out wI).mono ?_
      rintro e w2 ⟨rfl, hb2⟩
      have k2 := bk_tr hkI hb2
      refine hK.out _ _ (BRH.out.keep k2) (fun hHeld => ?_)
      clear hK K
      try simp only [Act.put, List.setIfInBounds_toArray, List.set_cons_zero, List.set_cons_succ]
      refine wpAnyH_take (i := 13) (v := .pointer (some ⟨g, m * 8, none⟩)) rfl (by kernel_rfl) (by kernel_rfl) (by kernel_rfl) (fun _ _ _ h => h) (Or.inl ⟨by kernel_rfl, fun w hSw => by (go_simp)⟩) hHeld ?_
      try simp only [Act.put, List.setIfInBounds_toArray, List.set_cons_zero, List.set_cons_succ]
      refine wpAnyH_ready (rs := [14]) (by kernel_rfl) (by simp) ?_
      refine AllReadyH.cons (o := _) rfl (fun K hK => ?_) AllReadyH.nil
      refine wp_store_mid 58 _ _ rfl g (m * 8) (ba (bfL i s0 (usesL i).length)) rfl rfl (by rw [ba_size, bfL_len]; exact hHeld.t) (by rw [ba_size, bfL_len]; kernel_rfl) (ba_one _) ?_
      refine hK.out _ _ (hHeld.store _ (by simp [ba, bfL_len]) NE1.out NE2.out) (fun hHeld2 => ?_)
      clear hK K
      try simp only [Act.put, List.setIfInBounds_toArray, List.set_cons_zero, List.set_cons_succ]
      refine wpAnyH_done (by kernel_rfl) ?_ _
      have eB : (ba (bfL i s0 (usesL i).length)).toList = bs (lvL (ins.drop m) out) := by rw [HD.out, ← lvL_cons, ← HS0.out]; rfl
      have HWS := Lib.hid (show RS (w2.setCells g (m * 8) (bs (lvL (ins.drop m) out))) g (ins.length + 1) ins out m from (HRS.out.keep k2).step (by omega))
      have H5 := Lib.hid ((H4.out.keep k2).cells g (m * 8) (bs (lvL (ins.drop m) out)) NE1.out)
      have K5 := Lib.hid (bk_setCells g (by omega) (bs (lvL (ins.drop m) out)) (m * 8) w2 (bk_tr HK.out k2))
      rw [eB]
      clear eB hHeld hHeld2 k2 hb2 hkI ei e0 e1 hi3
      generalize w2.setCells g (m * 8) (bs (lvL (ins.drop m) out)) = w6 at HWS H5 K5 ⊢
      go_wp2_with fail
      go_roundw
      case rel => exact ⟨m, by omega, rfl, H5.out, HWS.out, K5.out⟩
      case measure => simp [intOf]
end Go.Proofs.Ytjmmaaphadeokaa
