/- Window of the reference. -/
import Derived.Test.YtjmmaaphadeokaaYK
namespace Go.Proofs.Ytjmmaaphadeokaa
open Go.RowKit Go.Shelf
set_option linter.unusedVariables false
set_option linter.unusedSimpArgs false
set_option maxRecDepth 100000 in
set_option maxHeartbeats 4000000 in
theorem win25_ok (W R : Int) (p q : Option Addr) (pc qc : Nat) (ins : List I6) (out : List Int) (f n : Nat) (w : World) (hi : RI w p pc ins) (ho : RO w q qc out) (li : ins.length ≤ 300) (lo : out.length ≤ 20) (hw0 : winE W R ins out f n = 0) : Calls Try.prog 25 #[.agg #[.int .i64 W, .int .i64 R, .slice p ins.length pc, .slice q out.length qc], .int .i64 (f : Int), .int .i64 (n : Int)] w (RP w W R ((ins.drop f).take n) (winOut R.toNat ((ins.drop f).take n) (ins.drop (f + n)) out)) := by
  obtain ⟨hc0, v1, v2, v3⟩ := win_zero hw0
  have hfn : f + n ≤ ins.length := by omega
  have hle := hi.le
  have hv := chk_zero.1 hc0
  have hr1 := hv.r1
  have hr2 := hv.r2
  have hl6 := hv.len
  have hz := W4.new (w.alloc (.cells #[.int .i64 W, .int .i64 R, .slice p ins.length pc, .slice q out.length qc] 25)) (.int .i64 0) (.int .i64 0) (.slice none 0 0) (.slice none 0 0)
  rw [sz1] at hz
  have hc4 := (W4.new w (.int .i64 W) (.int .i64 R) (.slice p ins.length pc) (.slice q out.length qc)).keep (bk_alloc (BK.refl _) (.cells #[.int .i64 0, .int .i64 0, .slice none 0 0, .slice none 0 0] 25))
  have k0 := bk_alloc (bk_alloc (BK.refl w) (.cells #[.int .i64 W, .int .i64 R, .slice p ins.length pc, .slice q out.length qc] 25)) (.cells #[.int .i64 0, .int .i64 0, .slice none 0 0, .slice none 0 0] 25)
  have C43 := Lib.hid (fun (wc : World) (hb : BK w wc) => by have := win46 W R p q pc qc ins out wc (hi.keep hb) (ho.keep hb) (by omega) (by omega) f n (by omega) (by omega); rw [hw0] at this; exact this)
  have C33 := Lib.hid (fun (wc : World) (hb : BK w wc) => before33 W R p q pc qc ins out wc (hi.keep hb) (ho.keep hb) (by omega) (by omega) (f + n) hfn hr1 hr2)
  have hlv := liveL_len R.toNat (ins.drop (f + n)) out
  have HLJ : ∀ j (hj : j < ins.length), f ≤ j → j < f + n → ((ins.drop f).take n).take (j + 1 - f) = ((ins.drop f).take n).take (j - f) ++ [ins[j]] := fun j hj h1 h2 => by
    have hk : j - f < ((ins.drop f).take n).length := by simp; omega
    rw [show j + 1 - f = (j - f) + 1 by omega, List.take_succ_eq_append_getElem hk]
    congr 2
    rw [List.getElem_take, List.getElem_drop]
    congr 1; omega
  have HLJ := Lib.hid HLJ
  have hLl : ((ins.drop f).take n).length = n := by simp; omega
  have hLf : ∀ j, j = f + n → ((ins.drop f).take n).take (j - f) = (ins.drop f).take n := fun j h => List.take_of_length_le (by rw [hLl]; omega)
  have HLF := Lib.hid hLf
  have ei : IntKind.i64.wrap ((f : Int) + (n : Int)) = ((f + n : Nat) : Int) := by rw [IntWalk.i64_in _ (by omega)]; omega
  have EI := Lib.hid ei
  have HI := Lib.hid hi
  have HO := Lib.hid ho
  rw [← win_filt]
  have HLL := Lib.hid hLl
  have hmn : f + n = n + f := by omega
  clear hi ho hw0 hc0 hv ei hLf hLl
  generalize (ins.drop f).take n = L at *
  generalize liveL R.toNat (ins.drop (f + n)) out = LV at *
  generalize hm : f + n = m at *
  have HM := Lib.hid hm
  clear hmn hm
  go_enter Try.func25, Try.ntmps25
  go_upto_region 1 with (fail)
  generalize (w.alloc (.cells #[.int .i64 W, .int .i64 R, .slice p ins.length pc, .slice q out.length qc] 25)).alloc (.cells #[.int .i64 0, .int .i64 0, .slice none 0 0, .slice none 0 0] 25) = w0 at hc4 hz k0 ⊢
  have HZ := Lib.hid hz
  have HC := Lib.hid hc4
  have K0 := Lib.hid k0
  obtain ⟨c0, c1, c2, c3⟩ := hc4.b4
  clear hz k0 hc4
  go_wp2_with fail
  refine (C43.out w0 K0.out).mono ?_
  rintro e w1 ⟨rfl, hb1⟩
  have K1 := Lib.hid (bk_tr K0.out hb1)
  have J1 := Lib.hid hb1
  clear c0 c1 c2 c3
  obtain ⟨c0, c1, c2, c3⟩ := (HC.out.keep hb1).b4
  clear hb1
  go_upto_region 5 with (fail)
  have t2 := W4.new w1 (.int .i64 W) (.int .i64 R) (.slice none 0 0) (.slice none 0 0)
  have k2 := bk_alloc (BK.refl w1) (.cells #[.int .i64 W, .int .i64 R, .slice none 0 0, .slice none 0 0] 25)
  have hT : w.heap.size + 1 < w1.heap.size := (HZ.out.keep J1.out).lt
  generalize w1.alloc (.cells #[.int .i64 W, .int .i64 R, .slice none 0 0, .slice none 0 0] 25) = w2 at t2 k2 ⊢
  generalize hTe : w1.heap.size = T at t2 hT ⊢
  have HT1 := Lib.hid hTe
  have T2 := Lib.hid t2
  have K2 := Lib.hid k2
  clear t2 k2 hTe c0 c1 c2 c3
  go_wp2_with fail
  go_loopw [10] (fun x wr => ∃ j : Nat, f ≤ j ∧ j ≤ m ∧ x = .int .i64 (j : Int) ∧ ∃ v, W4 wr T (.int .i64 W) (.int .i64 R) v (.slice none 0 0) ∧ wr.ownsRow (T + 1) 54 6 v (L.take (j - f)).length (flat6 (L.take (j - f))) ∧ BK w1 wr) (fun x _ => m - (intOf x).toNat)
  case atStart => exact ⟨f, Nat.le_refl _, by have := HM.out; omega, rfl, _, T2.out, by rw [Nat.sub_self, List.take_zero]; exact own_none _ _ _ _, K2.out⟩
  case round =>
    obtain ⟨j, hj1, hj2, rfl, v, ht, hown, hkw⟩ := hrel
    have HT9 := Lib.hid ht
    have HO9 := Lib.hid hown
    have HKW := Lib.hid hkw
    have HW9 := Lib.hid (HC.out.keep (bk_tr J1.out hkw))
    have ei := EI.out
    by_cases hlt : j < m
    · have hji : j < ins.length := by omega
      have hj3 : (j : Int) < (m : Int) := by omega
      have hj4 : (j : Int) < (ins.length : Int) := by omega
      obtain ⟨b, o, hpe, hc⟩ := (HI.out.keep (bk_tr K1.out hkw)).get j hji
      have hbw : b < w.heap.size := by
        obtain ⟨b', o', e, h6⟩ := HI.out.get j hji
        rw [hpe] at e
        simp only [Option.some.injEq, Addr.mk.injEq] at e
        rw [e.1]; exact h6.lt
      subst hpe
      have HL := Lib.hid (HLJ.out j hji hj1 (by have := HM.out; omega))
      have hln : (L.take (j - f)).length ≤ 1000 := by have := HLL.out; simp; omega
      generalize ins[j] = i at hc HL
      have HA9 := Lib.hid hc
      clear hc ht hown hkw
      generalize hlv : (L.take (j - f)).length = ln at HO9 hln
      have HLN := Lib.hid hlv
      clear hlv
      obtain ⟨pv, cv, rfl⟩ := own_shape HO9.out
      generalize hvv : Value.slice pv ln cv = v at HT9 HO9
      go_upto_region 8 with (fail)
      clear ei
      refine wp_region_held_drew (S := fun w' => W4 w' w.heap.size (.int .i64 W) (.int .i64 R) (.slice (some ⟨b, o, none⟩) ins.length pc) (.slice q out.length qc) ∧ A6 w' b (o + j * 6) i) (by kernel_rfl) (⟨HW9.out.keep (bk_drew (BK.refl _)), HA9.out.keep (bk_drew (BK.refl _))⟩) (fun hHeld => ?_)
      have hkI := bk_drew (BK.refl wr)
      generalize wr.drew = wI at hHeld hkI ⊢
      refine wpAnyH_take (i := 0) (v := .pointer (some ⟨T, 2, none⟩)) rfl (by kernel_rfl) (by kernel_rfl) (by kernel_rfl) (fun _ _ _ h => h) (Or.inl ⟨by kernel_rfl, fun w hSw => by (go_simp)⟩) hHeld ?_
      try simp only [Act.put, List.setIfInBounds_toArray, List.set_cons_zero, List.set_cons_succ]
      refine wpAnyH_take (i := 2) (v := .pointer (some ⟨w.heap.size, 2, none⟩)) rfl (by kernel_rfl) (by kernel_rfl) (by kernel_rfl) (fun _ _ _ h => h) (Or.inl ⟨by kernel_rfl, fun w hSw => by (go_simp)⟩) hHeld ?_
      try simp only [Act.put, List.setIfInBounds_toArray, List.set_cons_zero, List.set_cons_succ]
      refine wpAnyH_take (i := 3) (v := .slice (some ⟨b, o, none⟩) ins.length pc) rfl (by kernel_rfl) (by kernel_rfl) (by kernel_rfl) (fun _ _ _ h => h) (Or.inl ⟨by kernel_rfl, fun w hSw => by (have q2 := hSw.1.b4.2.2.1; go_simp)⟩) hHeld ?_
      try simp only [Act.put, List.setIfInBounds_toArray, List.set_cons_zero, List.set_cons_succ]
      refine wpAnyH_take (i := 4) (v := .int .i64 (j : Int)) rfl (by kernel_rfl) (by kernel_rfl) (by kernel_rfl) (fun _ _ _ h => h) (Or.inl ⟨by kernel_rfl, fun w hSw => by (go_simp)⟩) hHeld ?_
      try simp only [Act.put, List.setIfInBounds_toArray, List.set_cons_zero, List.set_cons_succ]
      refine wpAnyH_take (i := 5) (v := .pointer (some ⟨b, o + j * 6, none⟩)) rfl (by kernel_rfl) (by kernel_rfl) (by kernel_rfl) (fun _ _ _ h => h) (Or.inl ⟨by kernel_rfl, fun w hSw => by (go_simp)⟩) hHeld ?_
      try simp only [Act.put, List.setIfInBounds_toArray, List.set_cons_zero, List.set_cons_succ]
      refine wpAnyH_take (i := 6) (v := .agg #[.int .i64 i.op, .int .i64 i.dst, .int .i64 i.a, .int .i64 i.b, .int .i64 i.c, .int .u64 i.imm]) rfl (by kernel_rfl) (by kernel_rfl) (by kernel_rfl) (fun _ _ _ h => h) (Or.inl ⟨by kernel_rfl, fun w hSw => by (have q0 := hSw.2.1; have q1 := hSw.2.2.1; have q2 := hSw.2.2.2.1; have q3 := hSw.2.2.2.2.1; have q4 := hSw.2.2.2.2.2.1; have q5 := hSw.2.2.2.2.2.2; go_simp)⟩) hHeld ?_
      try simp only [Act.put, List.setIfInBounds_toArray, List.set_cons_zero, List.set_cons_succ]
      have tI := HT9.out.keep hkI
      have oI := own_below HO9.out hkI
      have z2 := tI.b4.2.2.1
      refine wpAnyH_ready (rs := [1, 7]) (by kernel_rfl) (by simp) ?_
      refine AllReadyH.cons (o := _) rfl (fun K9 hK9 => ?_) (AllReadyH.cons (o := _) rfl (fun K9 hK9 => ?_) AllReadyH.nil)
      · go_simp
        refine hK9.out _ _ (hHeld) (fun hHeld => ?_)
        clear hK9 K9
        try simp only [Act.put, List.setIfInBounds_toArray, List.set_cons_zero, List.set_cons_succ]
        refine wpAnyH_ready (rs := [7]) (by kernel_rfl) (by simp) ?_
        refine AllReadyH.cons (o := _) rfl (fun K9 hK9 => ?_) AllReadyH.nil
        go_simp
        refine hK9.out _ _ (⟨hHeld.1.keep (bk_alloc (BK.refl _) _), hHeld.2.keep (bk_alloc (BK.refl _) _)⟩) (fun hHeld => ?_)
        clear hK9 K9
        try simp only [Act.put, List.setIfInBounds_toArray, List.set_cons_zero, List.set_cons_succ]
        have rJ := ri_one wI i
        have tJ := tI.keep (bk_alloc (BK.refl wI) (.cells #[.int .i64 i.op, .int .i64 i.dst, .int .i64 i.a, .int .i64 i.b, .int .i64 i.c, .int .u64 i.imm] 54))
        have oJ := own_below oI (bk_alloc (BK.refl wI) (.cells #[.int .i64 i.op, .int .i64 i.dst, .int .i64 i.a, .int .i64 i.b, .int .i64 i.c, .int .u64 i.imm] 54))
        have kJ := bk_alloc hkI (.cells #[.int .i64 i.op, .int .i64 i.dst, .int .i64 i.a, .int .i64 i.b, .int .i64 i.c, .int .u64 i.imm] 54)
        generalize wI.alloc (.cells #[.int .i64 i.op, .int .i64 i.dst, .int .i64 i.a, .int .i64 i.b, .int .i64 i.c, .int .u64 i.imm] 54) = wJ at hHeld rJ tJ oJ kJ ⊢
        generalize wI.heap.size = sg at rJ ⊢
        refine wpAnyH_ready (rs := [8]) (by kernel_rfl) (by simp) ?_
        refine AllReadyH.cons (o := _) rfl (fun K9 hK9 => ?_) AllReadyH.nil
        refine wp_app6 _ _ rfl (T + 1) v _ _ rfl oJ ⟨sg, 0, none⟩ 1 i rfl rJ (by omega) (by have := tJ.lt; omega) ?_
        intro v' w3 ho3 hb3
        have ht3 := tJ.below hb3 (by omega)
        obtain ⟨p3, c3, rfl⟩ := own_shape ho3
        refine hK9.out _ _ (⟨hHeld.1.below hb3 (by omega), hHeld.2.below hb3 (by omega)⟩) (fun hHeld => ?_)
        clear hK9 K9
        try simp only [Act.put, List.setIfInBounds_toArray, List.set_cons_zero, List.set_cons_succ]
        refine wpAnyH_take (i := 9) (v := .pointer (some ⟨T, 2, none⟩)) rfl (by kernel_rfl) (by kernel_rfl) (by kernel_rfl) (fun _ _ _ h => h) (Or.inl ⟨by kernel_rfl, fun w hSw => by (go_simp)⟩) hHeld ?_
        try simp only [Act.put, List.setIfInBounds_toArray, List.set_cons_zero, List.set_cons_succ]
        have z3 := ht3.b4.2.2.1
        have g3 := ht3.cells.2.2.2.1
        have O3 := Lib.hid ho3
        have T3 := Lib.hid ht3
        have KJ := Lib.hid kJ
        have B3 := Lib.hid hb3
        refine wpAnyH_ready (rs := [10]) (by kernel_rfl) (by simp) ?_
        refine AllReadyH.cons (o := _) rfl (fun K9 hK9 => ?_) AllReadyH.nil
        go_simp
        refine hK9.out _ _ (⟨hHeld.1.setO (by omega), hHeld.2.setO (by omega)⟩) (fun hHeld => ?_)
        clear hK9 K9
        try simp only [Act.put, List.setIfInBounds_toArray, List.set_cons_zero, List.set_cons_succ]
        refine wpAnyH_done (by kernel_rfl) ?_ _
        clear z2 z3 g3 tI oI tJ oJ kJ rJ hHeld ho3 ht3 hb3 hkI
        go_wp2_with fail
        go_roundw
        case rel =>
          refine ⟨j + 1, by omega, by omega, by go_num, _, T3.out.set2 _, own_set (own_cast (m := (L.take (j + 1 - f)).length) (ys := flat6 (L.take (j + 1 - f))) O3.out (by rw [HL.out, List.length_append, HLN.out]; rfl) (by rw [HL.out])) ⟨T, 2, none⟩ _ (by show T < T + 1; omega), bk_set (below_tr HT1.out HKW.out KJ.out B3.out) _ _ (by show w1.heap.size ≤ T; rw [HT1.out]; omega)⟩
        case measure => first | (simp [intOf]; done) | (simp [intOf]; omega)
      · go_simp
        refine hK9.out _ _ (⟨hHeld.1.keep (bk_alloc (BK.refl _) _), hHeld.2.keep (bk_alloc (BK.refl _) _)⟩) (fun hHeld => ?_)
        clear hK9 K9
        try simp only [Act.put, List.setIfInBounds_toArray, List.set_cons_zero, List.set_cons_succ]
        have rJ := ri_one wI i
        have tJ := tI.keep (bk_alloc (BK.refl wI) (.cells #[.int .i64 i.op, .int .i64 i.dst, .int .i64 i.a, .int .i64 i.b, .int .i64 i.c, .int .u64 i.imm] 54))
        have oJ := own_below oI (bk_alloc (BK.refl wI) (.cells #[.int .i64 i.op, .int .i64 i.dst, .int .i64 i.a, .int .i64 i.b, .int .i64 i.c, .int .u64 i.imm] 54))
        have kJ := bk_alloc hkI (.cells #[.int .i64 i.op, .int .i64 i.dst, .int .i64 i.a, .int .i64 i.b, .int .i64 i.c, .int .u64 i.imm] 54)
        generalize wI.alloc (.cells #[.int .i64 i.op, .int .i64 i.dst, .int .i64 i.a, .int .i64 i.b, .int .i64 i.c, .int .u64 i.imm] 54) = wJ at hHeld rJ tJ oJ kJ ⊢
        generalize wI.heap.size = sg at rJ ⊢
        have z4 := tJ.b4.2.2.1
        refine wpAnyH_ready (rs := [1]) (by kernel_rfl) (by simp) ?_
        refine AllReadyH.cons (o := _) rfl (fun K9 hK9 => ?_) AllReadyH.nil
        go_simp
        refine hK9.out _ _ (hHeld) (fun hHeld => ?_)
        clear hK9 K9
        try simp only [Act.put, List.setIfInBounds_toArray, List.set_cons_zero, List.set_cons_succ]
        clear z4
        refine wpAnyH_ready (rs := [8]) (by kernel_rfl) (by simp) ?_
        refine AllReadyH.cons (o := _) rfl (fun K9 hK9 => ?_) AllReadyH.nil
        refine wp_app6 _ _ rfl (T + 1) v _ _ rfl oJ ⟨sg, 0, none⟩ 1 i rfl rJ (by omega) (by have := tJ.lt; omega) ?_
        intro v' w3 ho3 hb3
        have ht3 := tJ.below hb3 (by omega)
        obtain ⟨p3, c3, rfl⟩ := own_shape ho3
        refine hK9.out _ _ (⟨hHeld.1.below hb3 (by omega), hHeld.2.below hb3 (by omega)⟩) (fun hHeld => ?_)
        clear hK9 K9
        try simp only [Act.put, List.setIfInBounds_toArray, List.set_cons_zero, List.set_cons_succ]
        refine wpAnyH_take (i := 9) (v := .pointer (some ⟨T, 2, none⟩)) rfl (by kernel_rfl) (by kernel_rfl) (by kernel_rfl) (fun _ _ _ h => h) (Or.inl ⟨by kernel_rfl, fun w hSw => by (go_simp)⟩) hHeld ?_
        try simp only [Act.put, List.setIfInBounds_toArray, List.set_cons_zero, List.set_cons_succ]
        have z3 := ht3.b4.2.2.1
        have g3 := ht3.cells.2.2.2.1
        have O3 := Lib.hid ho3
        have T3 := Lib.hid ht3
        have KJ := Lib.hid kJ
        have B3 := Lib.hid hb3
        refine wpAnyH_ready (rs := [10]) (by kernel_rfl) (by simp) ?_
        refine AllReadyH.cons (o := _) rfl (fun K9 hK9 => ?_) AllReadyH.nil
        go_simp
        refine hK9.out _ _ (⟨hHeld.1.setO (by omega), hHeld.2.setO (by omega)⟩) (fun hHeld => ?_)
        clear hK9 K9
        try simp only [Act.put, List.setIfInBounds_toArray, List.set_cons_zero, List.set_cons_succ]
        refine wpAnyH_done (by kernel_rfl) ?_ _
        clear z2 z3 g3 tI oI tJ oJ kJ rJ hHeld ho3 ht3 hb3 hkI
        go_wp2_with fail
        go_roundw
        case rel =>
          refine ⟨j + 1, by omega, by omega, by go_num, _, T3.out.set2 _, own_set (own_cast (m := (L.take (j + 1 - f)).length) (ys := flat6 (L.take (j + 1 - f))) O3.out (by rw [HL.out, List.length_append, HLN.out]; rfl) (by rw [HL.out])) ⟨T, 2, none⟩ _ (by show T < T + 1; omega), bk_set (below_tr HT1.out HKW.out KJ.out B3.out) _ _ (by show w1.heap.size ≤ T; rw [HT1.out]; omega)⟩
        case measure => first | (simp [intOf]; done) | (simp [intOf]; omega)
    · obtain rfl : j = m := by omega
      have hLF := HLF.out j rfl
      rw [hLF] at HO9
      clear ht hown hkw hLF
      obtain ⟨pv, cv, rfl⟩ := own_shape HO9.out
      obtain ⟨c0, c1, c2, c3⟩ := HW9.out.b4
      go_wp2_with fail
      refine (C33.out wr (bk_tr K1.out HKW.out)).mono ?_
      rintro e w8 ⟨v11, rfl, ho11, hb8⟩
      obtain ⟨pl, cl, rfl⟩ := own_shape ho11
      have T8 := Lib.hid (HT9.out.keep hb8)
      have O8 := Lib.hid (own_below HO9.out hb8)
      have L8 := Lib.hid ho11
      have K8 := Lib.hid (bk_tr HKW.out hb8)
      have hTa : T < wr.heap.size := HT9.out.lt
      have hT8 : T < w8.heap.size := T8.out.lt
      obtain ⟨wa, hwa⟩ : ∃ x, x = wr := ⟨_, rfl⟩
      subst hwa
      clear c0 c1 c2 c3 ho11 hb8 ei
      go_wp2_with fail
      go_loopw [12] (fun x wr => ∃ k : Nat, k ≤ LV.length ∧ x = .int .i64 (k : Int) ∧ ∃ u, W4 wr T (.int .i64 W) (.int .i64 R) (.slice pv L.length cv) u ∧ wr.ownsRow w8.heap.size 3 1 u ((LV.take k).filter (fun r => anyDefB L r)).length (ints ((LV.take k).filter (fun r => anyDefB L r))) ∧ KP T w8 wr ∧ BK w1 wr) (fun x _ => LV.length - (intOf x).toNat)
      case atStart => exact ⟨0, Nat.zero_le _, rfl, _, T8.out, own_none _ _ _ _, KP.refl _ _, K8.out⟩
      case round =>
        obtain ⟨k, hk, rfl, u, ht, hown, hkp, hkw⟩ := hrel
        have HTB := Lib.hid ht
        have HOB := Lib.hid hown
        have HKP := Lib.hid hkp
        have HKB := Lib.hid hkw
        by_cases hlt : k < LV.length
        · have hk9 : (k : Int) < (LV.length : Int) := by omega
          have hol := hkp.own L8.out (by omega)
          obtain ⟨bl, ol, hpe, hcl⟩ := (RO.own hol).get k hlt
          subst hpe
          have hFS := filt_snoc LV k hlt (fun r => anyDefB L r)
          have hbl8 : bl < w8.heap.size := by
            obtain ⟨b', o', e, h6⟩ := (RO.own L8.out).get k hlt
            simp only [Option.some.injEq, Addr.mk.injEq] at e
            rw [e.1]; exact World.block_lt_of_cell? w8 _ h6
          have hblT : bl ≠ T := by
            rintro rfl
            have h1 := (L8.out.lt bl rfl).1
            omega
          have HNT := Lib.hid hblT
          have hln : ((LV.take k).filter (fun r => anyDefB L r)).length ≤ 1000 := by
            have h1 := List.length_filter_le (fun r => anyDefB L r) (LV.take k)
            have h2 : (LV.take k).length ≤ k := by simp; omega
            omega
          generalize LV[k] = y at hcl hFS
          have HFS0 := Lib.hid hFS
          have HCL := Lib.hid hcl
          obtain ⟨wb, hwb⟩ : ∃ x, x = wr := ⟨_, rfl⟩
          subst hwb
          clear ht hown hkp hkw hol hFS hcl
          go_wp2_with fail
          go_loopw [13, 14] (fun d x wq => ∃ x' : Nat, x' ≤ n ∧ x = .int .i64 (x' : Int) ∧ d = .bool (anyDefB (L.take x') y) ∧ BK wb wq) (fun _ x _ => n - (intOf x).toNat)
          case atStart => exact ⟨0, Nat.zero_le _, rfl, rfl, BK.refl _⟩
          case round =>
            obtain ⟨x, hx, rfl, rfl, hkq⟩ := hrel
            obtain ⟨wq, hwq⟩ : ∃ x, x = wr := ⟨_, rfl⟩
            subst hwq
            have HKQ := Lib.hid hkq
            have HJQ := Lib.hid hkq.bl.size
            have HTq := Lib.hid (HTB.out.keep hkq)
            have HCq := Lib.hid (cell_bk HCL.out hkq)
            have HOq := Lib.hid (own_below HOB.out hkq)
            by_cases hlx : x < n
            · have hlL : x < L.length := by rw [HLL.out]; exact hlx
              have hx9 : (x : Int) < (n : Int) := by omega
              have hx8 : (x : Int) < (L.length : Int) := by omega
              obtain ⟨bI, oI, hpe, hcI⟩ := (RI.own ((HKP.out.bk hkq).own O8.out (by omega))).get x hlL
              subst hpe
              have HAS := Lib.hid (anyDef_succ L x hlL y)
              generalize L[x] = i at hcI HAS
              have HAq := Lib.hid hcI
              generalize anyDefB (L.take x) y = d at HAS
              clear hkq hcI
              cases d
              · have HAS := Lib.hid (HAS.out.trans (Bool.false_or _))
                go_upto_region 17 with (fail)
                refine wp_region_held_drew (S := fun w' => W4 w' T (.int .i64 W) (.int .i64 R) (.slice (some ⟨bI, oI, none⟩) L.length cv) u ∧ A6 w' bI (oI + x * 6) i ∧ w'.cell? ⟨bl, ol + k, none⟩ = some (.int .i64 y)) (by kernel_rfl) (⟨HTq.out.keep (bk_drew (BK.refl _)), HAq.out.keep (bk_drew (BK.refl _)), cell_bk HCq.out (bk_drew (BK.refl _))⟩) (fun hHeld => ?_)
                have hkI := bk_drew (BK.refl wq)
                generalize wq.drew = wI at hHeld hkI ⊢
                refine wpAnyH_take (i := 0) (v := .bool false) rfl (by kernel_rfl) (by kernel_rfl) (by kernel_rfl) (fun _ _ _ h => h) (Or.inl ⟨by kernel_rfl, fun w hSw => by (go_simp)⟩) hHeld ?_
                try simp only [Act.put, List.setIfInBounds_toArray, List.set_cons_zero, List.set_cons_succ]
                refine wpAnyH_take (i := 1) (v := .bool false) rfl (by kernel_rfl) (by kernel_rfl) (by kernel_rfl) (fun _ _ _ h => h) (Or.inl ⟨by kernel_rfl, fun w hSw => by (go_simp)⟩) hHeld ?_
                try simp only [Act.put, List.setIfInBounds_toArray, List.set_cons_zero, List.set_cons_succ]
                refine wpAnyH_take (i := 2) (v := .pointer (some ⟨T, 2, none⟩)) rfl (by kernel_rfl) (by kernel_rfl) (by kernel_rfl) (fun _ _ _ h => h) (Or.inl ⟨by kernel_rfl, fun w hSw => by (go_simp)⟩) hHeld ?_
                try simp only [Act.put, List.setIfInBounds_toArray, List.set_cons_zero, List.set_cons_succ]
                refine wpAnyH_take (i := 3) (v := .slice (some ⟨bI, oI, none⟩) L.length cv) rfl (by kernel_rfl) (by kernel_rfl) (by kernel_rfl) (fun _ _ _ h => h) (Or.inl ⟨by kernel_rfl, fun w hSw => by (have q2 := hSw.1.b4.2.2.1; go_simp)⟩) hHeld ?_
                try simp only [Act.put, List.setIfInBounds_toArray, List.set_cons_zero, List.set_cons_succ]
                refine wpAnyH_take (i := 4) (v := .int .i64 (x : Int)) rfl (by kernel_rfl) (by kernel_rfl) (by kernel_rfl) (fun _ _ _ h => h) (Or.inl ⟨by kernel_rfl, fun w hSw => by (go_simp)⟩) hHeld ?_
                try simp only [Act.put, List.setIfInBounds_toArray, List.set_cons_zero, List.set_cons_succ]
                refine wpAnyH_take (i := 5) (v := .pointer (some ⟨bI, oI + x * 6, none⟩)) rfl (by kernel_rfl) (by kernel_rfl) (by kernel_rfl) (fun _ _ _ h => h) (Or.inl ⟨by kernel_rfl, fun w hSw => by (go_simp)⟩) hHeld ?_
                try simp only [Act.put, List.setIfInBounds_toArray, List.set_cons_zero, List.set_cons_succ]
                refine wpAnyH_take (i := 6) (v := .agg #[.int .i64 i.op, .int .i64 i.dst, .int .i64 i.a, .int .i64 i.b, .int .i64 i.c, .int .u64 i.imm]) rfl (by kernel_rfl) (by kernel_rfl) (by kernel_rfl) (fun _ _ _ h => h) (Or.inl ⟨by kernel_rfl, fun w hSw => by (have q0 := hSw.2.1.1; have q1 := hSw.2.1.2.1; have q2 := hSw.2.1.2.2.1; have q3 := hSw.2.1.2.2.2.1; have q4 := hSw.2.1.2.2.2.2.1; have q5 := hSw.2.1.2.2.2.2.2; go_simp)⟩) hHeld ?_
                try simp only [Act.put, List.setIfInBounds_toArray, List.set_cons_zero, List.set_cons_succ]
                refine wpAnyH_take (i := 7) (v := .slice (some ⟨bl, ol, none⟩) LV.length cl) rfl (by kernel_rfl) (by kernel_rfl) (by kernel_rfl) (fun _ _ _ h => h) (Or.inl ⟨by kernel_rfl, fun w hSw => by (go_simp)⟩) hHeld ?_
                try simp only [Act.put, List.setIfInBounds_toArray, List.set_cons_zero, List.set_cons_succ]
                refine wpAnyH_take (i := 8) (v := .int .i64 (k : Int)) rfl (by kernel_rfl) (by kernel_rfl) (by kernel_rfl) (fun _ _ _ h => h) (Or.inl ⟨by kernel_rfl, fun w hSw => by (go_simp)⟩) hHeld ?_
                try simp only [Act.put, List.setIfInBounds_toArray, List.set_cons_zero, List.set_cons_succ]
                refine wpAnyH_take (i := 9) (v := .pointer (some ⟨bl, ol + k, none⟩)) rfl (by kernel_rfl) (by kernel_rfl) (by kernel_rfl) (fun _ _ _ h => h) (Or.inl ⟨by kernel_rfl, fun w hSw => by (go_simp)⟩) hHeld ?_
                try simp only [Act.put, List.setIfInBounds_toArray, List.set_cons_zero, List.set_cons_succ]
                refine wpAnyH_take (i := 10) (v := .int .i64 y) rfl (by kernel_rfl) (by kernel_rfl) (by kernel_rfl) (fun _ _ _ h => h) (Or.inl ⟨by kernel_rfl, fun w hSw => by (have q0 := hSw.2.2; go_simp)⟩) hHeld ?_
                try simp only [Act.put, List.setIfInBounds_toArray, List.set_cons_zero, List.set_cons_succ]
                refine wpAnyH_ready (rs := [11]) (by kernel_rfl) (by simp) ?_
                refine AllReadyH.cons (o := _) rfl (fun K9 hK9 => ?_) AllReadyH.nil
                go_simp
                go_at_call 47
                refine (defs47 i y wI).mono ?_
                rintro e w7 ⟨rfl, hb7⟩
                have k7 := bk_tr hkI hb7
                refine hK9.out _ _ (⟨hHeld.1.keep hb7, hHeld.2.1.keep hb7, cell_bk hHeld.2.2 hb7⟩) (fun hHeld => ?_)
                clear hK9 K9
                try simp only [Act.put, List.setIfInBounds_toArray, List.set_cons_zero, List.set_cons_succ]
                refine wpAnyH_ready (rs := [12]) (by kernel_rfl) (by simp) ?_
                refine AllReadyH.cons (o := _) rfl (fun K9 hK9 => ?_) AllReadyH.nil
                go_simp
                refine hK9.out _ _ (hHeld) (fun hHeld => ?_)
                clear hK9 K9
                try simp only [Act.put, List.setIfInBounds_toArray, List.set_cons_zero, List.set_cons_succ]
                refine wpAnyH_ready (rs := [13]) (by kernel_rfl) (by simp) ?_
                refine AllReadyH.cons (o := _) rfl (fun K9 hK9 => ?_) AllReadyH.nil
                go_simp
                refine hK9.out _ _ (hHeld) (fun hHeld => ?_)
                clear hK9 K9
                try simp only [Act.put, List.setIfInBounds_toArray, List.set_cons_zero, List.set_cons_succ]
                refine wpAnyH_done (by kernel_rfl) ?_ _
                have KF := Lib.hid k7
                clear k7 hkI hHeld
                go_wp2_with fail
                go_roundw
                case rel => exact ⟨x + 1, by omega, by go_num, by rw [HAS.out], bk_tr HKQ.out KF.out⟩
                case measure => first | (simp [intOf]; done) | (simp [intOf]; omega)
              · have HAS := Lib.hid (HAS.out.trans (Bool.true_or _))
                go_upto_region 17 with (fail)
                refine wp_region_held_drew (S := fun w' => W4 w' T (.int .i64 W) (.int .i64 R) (.slice (some ⟨bI, oI, none⟩) L.length cv) u ∧ A6 w' bI (oI + x * 6) i ∧ w'.cell? ⟨bl, ol + k, none⟩ = some (.int .i64 y)) (by kernel_rfl) (⟨HTq.out.keep (bk_drew (BK.refl _)), HAq.out.keep (bk_drew (BK.refl _)), cell_bk HCq.out (bk_drew (BK.refl _))⟩) (fun hHeld => ?_)
                have hkI := bk_drew (BK.refl wq)
                generalize wq.drew = wI at hHeld hkI ⊢
                refine wpAnyH_take (i := 0) (v := .bool true) rfl (by kernel_rfl) (by kernel_rfl) (by kernel_rfl) (fun _ _ _ h => h) (Or.inl ⟨by kernel_rfl, fun w hSw => by (go_simp)⟩) hHeld ?_
                try simp only [Act.put, List.setIfInBounds_toArray, List.set_cons_zero, List.set_cons_succ]
                refine wpAnyH_take (i := 1) (v := .bool true) rfl (by kernel_rfl) (by kernel_rfl) (by kernel_rfl) (fun _ _ _ h => h) (Or.inl ⟨by kernel_rfl, fun w hSw => by (go_simp)⟩) hHeld ?_
                try simp only [Act.put, List.setIfInBounds_toArray, List.set_cons_zero, List.set_cons_succ]
                refine wpAnyH_take (i := 2) (v := undef) rfl (by kernel_rfl) (by kernel_rfl) (by kernel_rfl) (fun _ _ _ h => h) (Or.inr ⟨by kernel_rfl, rfl⟩) hHeld ?_
                try simp only [Act.put, List.setIfInBounds_toArray, List.set_cons_zero, List.set_cons_succ]
                refine wpAnyH_take (i := 3) (v := undef) rfl (by kernel_rfl) (by kernel_rfl) (by kernel_rfl) (fun _ _ _ h => h) (Or.inr ⟨by kernel_rfl, rfl⟩) hHeld ?_
                try simp only [Act.put, List.setIfInBounds_toArray, List.set_cons_zero, List.set_cons_succ]
                refine wpAnyH_take (i := 4) (v := undef) rfl (by kernel_rfl) (by kernel_rfl) (by kernel_rfl) (fun _ _ _ h => h) (Or.inr ⟨by kernel_rfl, rfl⟩) hHeld ?_
                try simp only [Act.put, List.setIfInBounds_toArray, List.set_cons_zero, List.set_cons_succ]
                refine wpAnyH_take (i := 5) (v := undef) rfl (by kernel_rfl) (by kernel_rfl) (by kernel_rfl) (fun _ _ _ h => h) (Or.inr ⟨by kernel_rfl, rfl⟩) hHeld ?_
                try simp only [Act.put, List.setIfInBounds_toArray, List.set_cons_zero, List.set_cons_succ]
                refine wpAnyH_take (i := 6) (v := undef) rfl (by kernel_rfl) (by kernel_rfl) (by kernel_rfl) (fun _ _ _ h => h) (Or.inr ⟨by kernel_rfl, rfl⟩) hHeld ?_
                try simp only [Act.put, List.setIfInBounds_toArray, List.set_cons_zero, List.set_cons_succ]
                refine wpAnyH_take (i := 7) (v := undef) rfl (by kernel_rfl) (by kernel_rfl) (by kernel_rfl) (fun _ _ _ h => h) (Or.inr ⟨by kernel_rfl, rfl⟩) hHeld ?_
                try simp only [Act.put, List.setIfInBounds_toArray, List.set_cons_zero, List.set_cons_succ]
                refine wpAnyH_take (i := 8) (v := undef) rfl (by kernel_rfl) (by kernel_rfl) (by kernel_rfl) (fun _ _ _ h => h) (Or.inr ⟨by kernel_rfl, rfl⟩) hHeld ?_
                try simp only [Act.put, List.setIfInBounds_toArray, List.set_cons_zero, List.set_cons_succ]
                refine wpAnyH_take (i := 9) (v := undef) rfl (by kernel_rfl) (by kernel_rfl) (by kernel_rfl) (fun _ _ _ h => h) (Or.inr ⟨by kernel_rfl, rfl⟩) hHeld ?_
                try simp only [Act.put, List.setIfInBounds_toArray, List.set_cons_zero, List.set_cons_succ]
                refine wpAnyH_take (i := 10) (v := undef) rfl (by kernel_rfl) (by kernel_rfl) (by kernel_rfl) (fun _ _ _ h => h) (Or.inr ⟨by kernel_rfl, rfl⟩) hHeld ?_
                try simp only [Act.put, List.setIfInBounds_toArray, List.set_cons_zero, List.set_cons_succ]
                refine wpAnyH_take (i := 11) (v := undef) rfl (by kernel_rfl) (by kernel_rfl) (by kernel_rfl) (fun _ _ _ h => h) (Or.inr ⟨by kernel_rfl, rfl⟩) hHeld ?_
                try simp only [Act.put, List.setIfInBounds_toArray, List.set_cons_zero, List.set_cons_succ]
                refine wpAnyH_ready (rs := [12]) (by kernel_rfl) (by simp) ?_
                refine AllReadyH.cons (o := _) rfl (fun K9 hK9 => ?_) AllReadyH.nil
                go_simp
                refine hK9.out _ _ (hHeld) (fun hHeld => ?_)
                clear hK9 K9
                try simp only [Act.put, List.setIfInBounds_toArray, List.set_cons_zero, List.set_cons_succ]
                refine wpAnyH_ready (rs := [13]) (by kernel_rfl) (by simp) ?_
                refine AllReadyH.cons (o := _) rfl (fun K9 hK9 => ?_) AllReadyH.nil
                go_simp
                refine hK9.out _ _ (hHeld) (fun hHeld => ?_)
                clear hK9 K9
                try simp only [Act.put, List.setIfInBounds_toArray, List.set_cons_zero, List.set_cons_succ]
                refine wpAnyH_done (by kernel_rfl) ?_ _
                have KF := Lib.hid hkI
                clear hkI hHeld
                go_wp2_with fail
                go_roundw
                case rel => exact ⟨x + 1, by omega, by go_num, by rw [HAS.out], bk_tr HKQ.out KF.out⟩
                case measure => first | (simp [intOf]; done) | (simp [intOf]; omega)
            · obtain rfl : x = n := by omega
              have hTL : L.take x = L := List.take_of_length_le (by rw [HLL.out]; exact Nat.le_refl _)
              rw [hTL]
              clear hkq hTL
              generalize anyDefB L y = d at HFS0
              cases d
              · have HFS := Lib.hid (HFS0.out.trans (if_neg (by simp)))
                go_wp2_with fail
                go_roundw
                case rel => exact ⟨k + 1, by omega, by go_num, _, HTq.out, by rw [HFS.out]; exact HOq.out, HKP.out.bk HKQ.out, bk_tr HKB.out HKQ.out⟩
                case measure => first | (simp [intOf]; done) | (simp [intOf]; omega)
              · have HFS := Lib.hid (HFS0.out.trans (if_pos rfl))
                obtain ⟨pu, cu, rfl⟩ := own_shape HOq.out
                generalize hvv : Value.slice pu ((LV.take k).filter (fun r => anyDefB L r)).length cu = u at *
                go_upto_region 19 with (fail)
                refine wp_region_held_drew (S := fun w' => w'.cell? ⟨bl, ol + k, none⟩ = some (.int .i64 y)) (by kernel_rfl) (cell_bk HCq.out (bk_drew (BK.refl _))) (fun hHeld => ?_)
                have hkI := bk_drew (BK.refl wq)
                generalize wq.drew = wI at hHeld hkI ⊢
                refine wpAnyH_take (i := 0) (v := .pointer (some ⟨T, 3, none⟩)) rfl (by kernel_rfl) (by kernel_rfl) (by kernel_rfl) (fun _ _ _ h => h) (Or.inl ⟨by kernel_rfl, fun w hSw => by (go_simp)⟩) hHeld ?_
                try simp only [Act.put, List.setIfInBounds_toArray, List.set_cons_zero, List.set_cons_succ]
                refine wpAnyH_take (i := 2) (v := .slice (some ⟨bl, ol, none⟩) LV.length cl) rfl (by kernel_rfl) (by kernel_rfl) (by kernel_rfl) (fun _ _ _ h => h) (Or.inl ⟨by kernel_rfl, fun w hSw => by (go_simp)⟩) hHeld ?_
                try simp only [Act.put, List.setIfInBounds_toArray, List.set_cons_zero, List.set_cons_succ]
                refine wpAnyH_take (i := 3) (v := .int .i64 (k : Int)) rfl (by kernel_rfl) (by kernel_rfl) (by kernel_rfl) (fun _ _ _ h => h) (Or.inl ⟨by kernel_rfl, fun w hSw => by (go_simp)⟩) hHeld ?_
                try simp only [Act.put, List.setIfInBounds_toArray, List.set_cons_zero, List.set_cons_succ]
                refine wpAnyH_take (i := 4) (v := .pointer (some ⟨bl, ol + k, none⟩)) rfl (by kernel_rfl) (by kernel_rfl) (by kernel_rfl) (fun _ _ _ h => h) (Or.inl ⟨by kernel_rfl, fun w hSw => by (go_simp)⟩) hHeld ?_
                try simp only [Act.put, List.setIfInBounds_toArray, List.set_cons_zero, List.set_cons_succ]
                refine wpAnyH_take (i := 5) (v := .int .i64 y) rfl (by kernel_rfl) (by kernel_rfl) (by kernel_rfl) (fun _ _ _ h => h) (Or.inl ⟨by kernel_rfl, fun w hSw => by (have q0 := hSw; go_simp)⟩) hHeld ?_
                try simp only [Act.put, List.setIfInBounds_toArray, List.set_cons_zero, List.set_cons_succ]
                have tI := HTq.out.keep hkI
                have oI' := own_below HOq.out hkI
                have z2 := tI.b4.2.2.2
                refine wpAnyH_ready (rs := [1, 6]) (by kernel_rfl) (by simp) ?_
                refine AllReadyH.cons (o := _) rfl (fun K9 hK9 => ?_) (AllReadyH.cons (o := _) rfl (fun K9 hK9 => ?_) AllReadyH.nil)
                · go_simp
                  refine hK9.out _ _ (hHeld) (fun hHeld => ?_)
                  clear hK9 K9
                  try simp only [Act.put, List.setIfInBounds_toArray, List.set_cons_zero, List.set_cons_succ]
                  refine wpAnyH_ready (rs := [6]) (by kernel_rfl) (by simp) ?_
                  refine AllReadyH.cons (o := _) rfl (fun K9 hK9 => ?_) AllReadyH.nil
                  go_simp
                  refine hK9.out _ _ (cell_bk hHeld (bk_alloc (BK.refl _) _)) (fun hHeld => ?_)
                  clear hK9 K9
                  try simp only [Act.put, List.setIfInBounds_toArray, List.set_cons_zero, List.set_cons_succ]
                  have rJ := one_new wI (.int .i64 y) 3
                  have tJ := tI.keep (bk_alloc (BK.refl wI) (.cells #[.int .i64 y] 3))
                  have oJ := own_below oI' (bk_alloc (BK.refl wI) (.cells #[.int .i64 y] 3))
                  have kJ := bk_alloc hkI (.cells #[.int .i64 y] 3)
                  generalize wI.alloc (.cells #[.int .i64 y] 3) = wJ at hHeld rJ tJ oJ kJ ⊢
                  generalize wI.heap.size = sg at rJ ⊢
                  refine wpAnyH_ready (rs := [7]) (by kernel_rfl) (by simp) ?_
                  refine AllReadyH.cons (o := _) rfl (fun K9 hK9 => ?_) AllReadyH.nil
                  refine wp_app1 _ _ rfl w8.heap.size u _ _ rfl oJ ⟨sg, 0, none⟩ 1 y rfl rJ (by omega) (by have := HKP.out.1; have := HJQ.out; have := kJ.bl.size; omega) ?_
                  intro v' w3 ho3 hb3
                  have ht3 := tJ.below hb3 (by omega)
                  obtain ⟨p3, c3, rfl⟩ := own_shape ho3
                  refine hK9.out _ _ (cell_below hHeld hb3 (by omega)) (fun hHeld => ?_)
                  clear hK9 K9
                  try simp only [Act.put, List.setIfInBounds_toArray, List.set_cons_zero, List.set_cons_succ]
                  refine wpAnyH_take (i := 8) (v := .pointer (some ⟨T, 3, none⟩)) rfl (by kernel_rfl) (by kernel_rfl) (by kernel_rfl) (fun _ _ _ h => h) (Or.inl ⟨by kernel_rfl, fun w hSw => by (go_simp)⟩) hHeld ?_
                  try simp only [Act.put, List.setIfInBounds_toArray, List.set_cons_zero, List.set_cons_succ]
                  have z3 := ht3.b4.2.2.2
                  have g3 := ht3.cells.2.2.2.2
                  have O3 := Lib.hid ho3
                  have T3 := Lib.hid ht3
                  have KJ := Lib.hid kJ
                  have B3 := Lib.hid hb3
                  have hTB : bl ≠ T := HNT.out
                  refine wpAnyH_ready (rs := [9]) (by kernel_rfl) (by simp) ?_
                  refine AllReadyH.cons (o := _) rfl (fun K9 hK9 => ?_) AllReadyH.nil
                  go_simp
                  refine hK9.out _ _ ((World.cell?_setCell_far _ _ _ _ (fun e => hTB e.symm)).trans hHeld) (fun hHeld => ?_)
                  clear hK9 K9
                  try simp only [Act.put, List.setIfInBounds_toArray, List.set_cons_zero, List.set_cons_succ]
                  refine wpAnyH_done (by kernel_rfl) ?_ _
                  clear z2 z3 g3 tI oI' tJ oJ kJ rJ hHeld ho3 ht3 hb3 hkI
                  go_wp2_with fail
                  go_roundw
                  case rel =>
                    refine ⟨k + 1, by omega, by go_num, _, T3.out.set3 _, own_set (own_cast (m := ((LV.take (k + 1)).filter (fun r => anyDefB L r)).length) (ys := ints ((LV.take (k + 1)).filter (fun r => anyDefB L r))) O3.out (by rw [HFS.out]; simp) (by rw [HFS.out])) ⟨T, 3, none⟩ _ (by show T < w8.heap.size; omega), (((HKP.out.bk HKQ.out).bk KJ.out).below B3.out).set, bk_set ((bk_tr (bk_tr HKB.out HKQ.out) KJ.out).bl.trans (Go.Joins.below_le B3.out (by have := K8.out.bl.size; omega))) _ _ (by show w1.heap.size ≤ T; rw [HT1.out]; omega)⟩
                  case measure => first | (simp [intOf]; done) | (simp [intOf]; omega)
                · go_simp
                  refine hK9.out _ _ (cell_bk hHeld (bk_alloc (BK.refl _) _)) (fun hHeld => ?_)
                  clear hK9 K9
                  try simp only [Act.put, List.setIfInBounds_toArray, List.set_cons_zero, List.set_cons_succ]
                  have rJ := one_new wI (.int .i64 y) 3
                  have tJ := tI.keep (bk_alloc (BK.refl wI) (.cells #[.int .i64 y] 3))
                  have oJ := own_below oI' (bk_alloc (BK.refl wI) (.cells #[.int .i64 y] 3))
                  have kJ := bk_alloc hkI (.cells #[.int .i64 y] 3)
                  generalize wI.alloc (.cells #[.int .i64 y] 3) = wJ at hHeld rJ tJ oJ kJ ⊢
                  generalize wI.heap.size = sg at rJ ⊢
                  have z4 := tJ.b4.2.2.2
                  refine wpAnyH_ready (rs := [1]) (by kernel_rfl) (by simp) ?_
                  refine AllReadyH.cons (o := _) rfl (fun K9 hK9 => ?_) AllReadyH.nil
                  go_simp
                  refine hK9.out _ _ (hHeld) (fun hHeld => ?_)
                  clear hK9 K9
                  try simp only [Act.put, List.setIfInBounds_toArray, List.set_cons_zero, List.set_cons_succ]
                  clear z4
                  refine wpAnyH_ready (rs := [7]) (by kernel_rfl) (by simp) ?_
                  refine AllReadyH.cons (o := _) rfl (fun K9 hK9 => ?_) AllReadyH.nil
                  refine wp_app1 _ _ rfl w8.heap.size u _ _ rfl oJ ⟨sg, 0, none⟩ 1 y rfl rJ (by omega) (by have := HKP.out.1; have := HJQ.out; have := kJ.bl.size; omega) ?_
                  intro v' w3 ho3 hb3
                  have ht3 := tJ.below hb3 (by omega)
                  obtain ⟨p3, c3, rfl⟩ := own_shape ho3
                  refine hK9.out _ _ (cell_below hHeld hb3 (by omega)) (fun hHeld => ?_)
                  clear hK9 K9
                  try simp only [Act.put, List.setIfInBounds_toArray, List.set_cons_zero, List.set_cons_succ]
                  refine wpAnyH_take (i := 8) (v := .pointer (some ⟨T, 3, none⟩)) rfl (by kernel_rfl) (by kernel_rfl) (by kernel_rfl) (fun _ _ _ h => h) (Or.inl ⟨by kernel_rfl, fun w hSw => by (go_simp)⟩) hHeld ?_
                  try simp only [Act.put, List.setIfInBounds_toArray, List.set_cons_zero, List.set_cons_succ]
                  have z3 := ht3.b4.2.2.2
                  have g3 := ht3.cells.2.2.2.2
                  have O3 := Lib.hid ho3
                  have T3 := Lib.hid ht3
                  have KJ := Lib.hid kJ
                  have B3 := Lib.hid hb3
                  have hTB : bl ≠ T := HNT.out
                  refine wpAnyH_ready (rs := [9]) (by kernel_rfl) (by simp) ?_
                  refine AllReadyH.cons (o := _) rfl (fun K9 hK9 => ?_) AllReadyH.nil
                  go_simp
                  refine hK9.out _ _ ((World.cell?_setCell_far _ _ _ _ (fun e => hTB e.symm)).trans hHeld) (fun hHeld => ?_)
                  clear hK9 K9
                  try simp only [Act.put, List.setIfInBounds_toArray, List.set_cons_zero, List.set_cons_succ]
                  refine wpAnyH_done (by kernel_rfl) ?_ _
                  clear z2 z3 g3 tI oI' tJ oJ kJ rJ hHeld ho3 ht3 hb3 hkI
                  go_wp2_with fail
                  go_roundw
                  case rel =>
                    refine ⟨k + 1, by omega, by go_num, _, T3.out.set3 _, own_set (own_cast (m := ((LV.take (k + 1)).filter (fun r => anyDefB L r)).length) (ys := ints ((LV.take (k + 1)).filter (fun r => anyDefB L r))) O3.out (by rw [HFS.out]; simp) (by rw [HFS.out])) ⟨T, 3, none⟩ _ (by show T < w8.heap.size; omega), (((HKP.out.bk HKQ.out).bk KJ.out).below B3.out).set, bk_set ((bk_tr (bk_tr HKB.out HKQ.out) KJ.out).bl.trans (Go.Joins.below_le B3.out (by have := K8.out.bl.size; omega))) _ _ (by show w1.heap.size ≤ T; rw [HT1.out]; omega)⟩
                  case measure => first | (simp [intOf]; done) | (simp [intOf]; omega)
        · obtain rfl : k = LV.length := by omega
          rw [List.take_length] at HOB
          obtain ⟨pu, cu, rfl⟩ := own_shape HOB.out
          obtain ⟨⟨z0, z1, z2, z3⟩, g0, g1, g2, g3⟩ := (HZ.out.keep (bk_tr J1.out hkw)).cells
          obtain ⟨c0, c1, c2, c3⟩ := ht.b4
          have n1 : ¬ w.heap.size + 1 = T := by omega
          have n2 : ¬ T = w.heap.size + 1 := by omega
          clear ht hown hkp hkw
          go_wp2_with fail
          clear c0 c1 c2 c3
          refine bodyPost_ret (v := .tuple #[.agg #[.int .i64 W, .int .i64 R, .slice pv L.length cv, .slice pu (LV.filter (fun r => anyDefB L r)).length cu], .int .i64 0]) (by simp [results, Try.results25, go_sem, z0, z1, z2, z3]) rfl ⟨pv, cv, pu, cu, rfl, ?_, ?_, ?_⟩
          · refine RI.own (B := T + 1) (e := 54) (n := L.length) ?_
            repeat (first | exact HKP.out.own O8.out (by omega) | refine own_set ?_ _ _ (by show w.heap.size + 1 < T + 1; omega))
          · refine RO.own (B := w8.heap.size) (e := 3) (n := (LV.filter (fun r => anyDefB L r)).length) ?_
            repeat (first | exact HOB.out | refine own_set ?_ _ _ (by show w.heap.size + 1 < w8.heap.size; omega))
          · repeat (first | exact bk_tr K1.out HKB.out | refine bk_set ?_ _ _ (by show w.heap.size ≤ w.heap.size + 1; omega))
end Go.Proofs.Ytjmmaaphadeokaa
