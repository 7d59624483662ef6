/- read: the walk. -/
import Derived.Test.YtneidfbgdgegjaaGreatDoorRQ
namespace Go.Proofs.YtneidfbgdgegjaaGreatDoor
open Go.RowKit Go.Shelf
set_option linter.unusedVariables false
set_option linter.unusedSimpArgs false
attribute [local go_sem] Oper.semAt_some
theorem info42 : (Tryz.prog.info? 42).map (fun i => (i.zero, i.size, i.bytes)) = some (some (.agg #[.int .i64 0, .int .i64 0, .int .i64 0, .int .i64 0, .int .i64 0, .int .u64 0]), 6, 48) := by kernel_rfl
theorem cells6_one (i : I6) : ∀ u ∈ cells6 i, u.oneCell' = true := by
  intro u hu
  simp [cells6] at hu
  rcases hu with rfl | rfl | rfl | rfl | rfl | rfl <;> rfl
set_option maxRecDepth 100000 in
set_option maxHeartbeats 4000000 in
theorem read56 (s : ByteArray) (hs : s.size ≤ 100000) (w : World) (ht : Tb w) : Calls Tryz.prog 56 #[.string s] w (RdP w s) := by
  have HT := Lib.hid ht
  clear ht
  have k0 := bk_alloc (bk_alloc (bk_alloc (BK.refl w) (.cells #[.int .i64 0, .int .i64 0, .slice none 0 0, .slice none 0 0] 34)) (.cells #[.int .i64 0] 3)) (.cells #[.bool false] 4)
  have z0 : (((w.alloc (.cells #[.int .i64 0, .int .i64 0, .slice none 0 0, .slice none 0 0] 34)).alloc (.cells #[.int .i64 0] 3)).alloc (.cells #[.bool false] 4)).heap[w.heap.size]? = some (.cells #[.int .i64 0, .int .i64 0, .slice none 0 0, .slice none 0 0] 34 (0, 0)) := (heap_alloc_old _ _ (by simp; omega)).trans ((heap_alloc_old _ _ (by simp)).trans (heap_alloc_new w _))
  have z1 : (((w.alloc (.cells #[.int .i64 0, .int .i64 0, .slice none 0 0, .slice none 0 0] 34)).alloc (.cells #[.int .i64 0] 3)).alloc (.cells #[.bool false] 4)).heap[w.heap.size + 1]? = some (.cells #[.int .i64 0] 3 (0, 0)) := (heap_alloc_old _ _ (by simp)).trans (by have := heap_alloc_new (w.alloc (.cells #[.int .i64 0, .int .i64 0, .slice none 0 0, .slice none 0 0] 34)) (.cells #[.int .i64 0] 3); rwa [sz1] at this)
  have z2 := heap_alloc_new ((w.alloc (.cells #[.int .i64 0, .int .i64 0, .slice none 0 0, .slice none 0 0] 34)).alloc (.cells #[.int .i64 0] 3)) (.cells #[.bool false] 4)
  rw [sz1, sz1] at z2
  have hz : (((w.alloc (.cells #[.int .i64 0, .int .i64 0, .slice none 0 0, .slice none 0 0] 34)).alloc (.cells #[.int .i64 0] 3)).alloc (.cells #[.bool false] 4)).heap.size = w.heap.size + 3 := by simp
  refine (callsIn_wide (n := 6)).1 ?_
  refine callsIn_of_wp_marks Tryz.func56 rfl trivial ?_ rfl
  refine wpIn_wide.2 ?_
  simp only [Tryz.ntmps56, List.size_toArray, List.length_cons, List.length_nil, Nat.reduceAdd, Nat.reduceSub, Array.replicate_succ, Array.replicate_zero, List.push_toArray, List.append_toArray, List.nil_append, List.cons_append]
  go_upto_region 2 with (fail)
  generalize ((w.alloc (.cells #[.int .i64 0, .int .i64 0, .slice none 0 0, .slice none 0 0] 34)).alloc (.cells #[.int .i64 0] 3)).alloc (.cells #[.bool false] 4) = w3 at k0 z0 z1 z2 hz ⊢
  go_wp2_with (go_at_call 74; refine (lin74 _ _).mono ?_; rintro e w5 ⟨rfl, rfl⟩)
  have k2 := Boxed.new w3 9 (.string s)
  have k6 := bk_alloc k0 (.cells #[.string s] 9)
  have hn6 : (w3.alloc (.cells #[.string s] 9)).heap.size = w.heap.size + 4 := by rw [sz1, hz]
  have y0 := (heap_alloc_old w3 (.cells #[.string s] 9) (by rw [hz]; omega)).trans z0
  have y1 := (heap_alloc_old w3 (.cells #[.string s] 9) (by rw [hz]; omega)).trans z1
  have y2 := (heap_alloc_old w3 (.cells #[.string s] 9) (by rw [hz]; omega)).trans z2
  rw [hz] at k2
  clear z0 z1 z2 k0
  generalize w3.alloc (.cells #[.string s] 9) = w6 at k2 k6 hn6 y0 y1 y2 ⊢
  clear hz
  have hw6 : w.heap.size ≤ w6.heap.size := by omega
  have I0 : IVr w w6.heap.size [] w6 := ⟨0, 0, .slice none 0 0, .slice none 0 0, [], [], false, ⟨y0, y1, y2, World.ownsRow_nil _ _ _ _, World.ownsRow_nil _ _ _ _, k6⟩, .inl ⟨rfl, rfl, rfl, rfl⟩, Nat.le_refl _, Nat.zero_le _⟩
  have K6 := Lib.hid k6
  clear k6 y0 y1 y2
  refine (wpIn_wide (n := 6)).1 ?_
  refine rf_law rfl (by omega) (gf := 92) (lb := #[.pointer (some ⟨w.heap.size + 3, 0, none⟩)]) rfl trivial (enters_of Tryz.func92 (by kernel_rfl) rfl)
    (lin_st (w.heap.size + 3) s (by omega) w6 k2) K1.trans (fun W l o hl => World.putObj_heap_other (by omega)) (fun _ => rfl)
    (fun A B hv k o hk ho => by
      rcases hv with rfl | ⟨v, rfl⟩
      · exact ho
      · exact (heap_setCell_other A ⟨w.heap.size + 3, 0, none⟩ k v (fun e => by have e : k = w.heap.size + 3 := e; omega)).trans ho)
    (IVr w w6.heap.size) (IXr w) (IVr.from hw6) (IXr.from hw6) (fun pre A B h hv => IVr.sl rfl (by omega) pre A B h hv) I0
    (fun x => { tmps := #[.string s, undef, .pointer (some ⟨w.heap.size, 0, none⟩), .pointer (some ⟨w.heap.size + 1, 0, none⟩), .pointer (some ⟨w.heap.size + 1 + 1, 0, none⟩), .string x.1, undef, .string s, .func (.func 92) #[] #[.pointer (some ⟨w.heap.size + 3, 0, none⟩)], .string x.1, undef, undef, undef, undef, undef, undef, undef, undef, undef, undef, undef, undef, undef, undef, undef, undef, undef, undef, undef, undef, undef, undef, undef, undef, undef, undef, undef, undef, undef, undef, undef, undef, undef, undef, undef, undef, undef, undef, undef, undef, undef, undef, undef, undef, undef, undef, undef, undef, undef, undef, undef, undef, undef, undef, undef, undef, undef], defers := [] })
    ?assign ?body ?done ?stop
  case assign =>
    intro l x X K' hK'
    dsimp only [encB]
    gi_wp2
    exact hK'
  case body =>
    rintro l pre x X hl hlX hI hlt
    obtain ⟨W, R, vi, vo, acc, out, en, hm, hp, ha, ho⟩ := hI
    obtain ⟨pi, ci, rfl⟩ := own_shape hm.ri
    obtain ⟨po, co, rfl⟩ := own_shape hm.ro
    have hN : w.heap.size + 3 < w6.heap.size := by omega
    have HN := Lib.hid hN
    have HPL := Lib.hid (show pre.length < 100000 by have := lnT_len (bl s); rw [bl_len] at this; omega)
    have HXS := Lib.hid (show w6.heap.size ≤ X.heap.size by omega)
    have HXL := Lib.hid (show w.heap.size + 3 < X.heap.size by omega)
    have HM := Lib.hid hm
    have HP := Lib.hid hp
    have HA := Lib.hid ha
    have HO := Lib.hid ho
    have H9 := Lib.hid (show 9 ≤ w.heap.size from by obtain ⟨tp, p, h3⟩ := HT.out.rng; exact World.block_lt_of_cell? w _ h3)
    have c1 := cell_of_row X (w.heap.size + 1) 0 _ 3 (0, 0) hm.ln
    have f1 := frozen_of_row X (w.heap.size + 1) 0 _ 3 hm.ln
    have hpl : ((pre.length : Nat) : Int) ≤ 100000 := by have := HPL.out; omega
    have TR := Lib.hid (fun W => trim76 x.1 (by have := x.2; omega) W)
    have HX := Lib.hid (show bl (⟨(trm (bl x.1)).toArray⟩ : ByteArray) = trm (bl x.1) from rfl)
    have HTS := Lib.hid (show (⟨(trm (bl x.1)).toArray⟩ : ByteArray).size ≤ 100000 from Nat.le_trans (trm_len _) x.2)
    have HLS := Lib.hid (lsX_snoc pre x)
    rw [← HX.out] at HLS
    clear hm hp ha ho hN hl hlX hlt
    clear hn6 hw6
    generalize (⟨(trm (bl x.1)).toArray⟩ : ByteArray) = t at TR HTS HLS
    clear HX
    gi_upto_region 5 with (fail)
    have M1 := Lib.hid (HM.out.setL HN.out (pre.length + 1))
    have S1 := Lib.hid ((st_set X (w.heap.size + 1) 0 (.int .i64 ((pre.length + 1 : Nat) : Int))).mono (fun k e => show GG w.heap.size (.slice pi acc.length ci) (.slice po out.length co) k from .inr (.inl e)))
    rw [show (((pre.length + 1 : Nat)) : Int) = (pre.length : Int) + 1 from by omega] at M1 S1
    have L1 := Lib.hid (show X.heap.size ≤ (X.setCell ⟨w.heap.size + 1, 0, none⟩ (.int .i64 ((pre.length : Int) + 1))).heap.size from S1.out.size)
    generalize X.setCell ⟨w.heap.size + 1, 0, none⟩ (.int .i64 ((pre.length : Int) + 1)) = X1 at M1 S1 L1 ⊢
    clear c1 f1
    have k3 := bk_alloc (bk_alloc (BK.refl X1) (.cells ((toks t).map Value.string).toArray 9)) (.cells #[.slice (some ⟨X1.heap.size, 0, none⟩) (toks t).length (toks t).length, .bool false] 105)
    have M3 := Lib.hid (M1.out.keep k3)
    have S3 := Lib.hid (S1.out.trans (St.bk k3))
    have R3 := Lib.hid (show RS ((X1.alloc (.cells ((toks t).map Value.string).toArray 9)).alloc (.cells #[.slice (some ⟨X1.heap.size, 0, none⟩) (toks t).length (toks t).length, .bool false] 105)) (X1.heap.size + 1) (toks t) false from ⟨_, _, by have := toks_le t; have := HTS.out; omega, by
      have := heap_alloc_new (X1.alloc (.cells ((toks t).map Value.string).toArray 9)) (.cells #[.slice (some ⟨X1.heap.size, 0, none⟩) (toks t).length (toks t).length, .bool false] 105)
      rw [sz1] at this
      exact this, (rt_new X1 (toks t)).st (F := fun _ => False) (St.bk (bk_alloc (BK.refl _) _)) (fun _ _ _ h => h)⟩)
    have hSM : Sm (toks t) := fun u hu => by
      have h1 := List.mem_map_of_mem (f := bl) hu
      rw [toks_sp] at h1
      rw [← spc32] at h1
      have := spc_mem 32 (bl t) _ h1
      rw [bl_len, bl_len] at this
      exact Nat.le_trans this (by have := HTS.out; omega)
    have HSM := Lib.hid hSM
    have HNE := Lib.hid (show toks t ≠ [] from fun e => by have := toks_len t; rw [e] at this; simp at this)
    have HTL := Lib.hid (show (toks t).length ≤ 100001 by have := HTS.out; have := toks_le t; omega)
    have HSP := Lib.hid (toks_sp t)
    have SPL := Lib.hid (fun W => split75 t (by have := HTS.out; omega) W)
    clear k3 hSM
    gi_upto_region 8 with (first
      | (refine ⟨trivial, ?_⟩; gi_at_call 75; refine (CallsIn.inRound l (callsIn_wide.2 (SPL.out _))).mono ?_; rintro e w' ⟨rfl, rfl⟩)
      | (refine ⟨trivial, ?_⟩; gi_at_call 76; refine (CallsIn.inRound l (callsIn_wide.2 (TR.out _))).mono ?_; rintro e w' ⟨rfl, rfl⟩))
    generalize (X1.alloc (.cells ((toks t).map Value.string).toArray 9)).alloc (.cells #[.slice (some ⟨X1.heap.size, 0, none⟩) (toks t).length (toks t).length, .bool false] 105) = X3 at M3 S3 R3 ⊢
    obtain ⟨r, hr⟩ : ∃ r, r = X1.heap.size + 1 := ⟨_, rfl⟩
    have HRX := Lib.hid (show X.heap.size < r from by have := L1.out; omega)
    rw [← hr] at R3 ⊢
    clear hr SPL TR HTS
    have HW9 := Lib.hid (show 9 ≤ r from by have := H9.out; have := HXL.out; have := HRX.out; omega)
    have HRN := Lib.hid (show r ≠ w.heap.size from by have := HXL.out; have := HRX.out; omega)
    have HT3 := Lib.hid (HT.out.keep M3.out.bk)
    generalize toks t = ts at R3 HSM HNE HTL HSP ⊢
    generalize hLX : sp (bl t) = L at HSP
    have HLX := Lib.hid hLX
    clear hLX
    have HI := Lib.hid (show ∀ k, (Value.slice pi acc.length ci).ownBlock = some k → k < X.heap.size from fun k hk => (HM.out.ri.lt k hk).2)
    have HOB := Lib.hid (show ∀ k, (Value.slice po out.length co).ownBlock = some k → k < X.heap.size from fun k hk => (HM.out.ro.lt k hk).2)
    have c1 := cell_of_row X3 (w.heap.size + 1) 0 _ 3 (0, 0) M3.out.ln
    rw [show (((pre.length + 1 : Nat)) : Int) = (pre.length : Int) + 1 from by omega] at c1
    by_cases hp0 : pre.length = 0
    · have HP0 := Lib.hid hp0
      have hd : (((pre.length : Int) + 1) == 1) = true := by rw [beq_iff_eq]; omega
      clear hp0
      gi_wp2_with fail
      refine ⟨trivial, ?_⟩
      have C := head77 X3 r w.heap.size ts false R3.out HSM.out HW9.out H9.out HRN.out HT3.out W R _ _ M3.out.c
      refine (CallsIn.inRound l (callsIn_wide.2 C)).mono ?_
      clear C
      rintro e X4 ⟨rfl, W', R', r4, c4, i1, i2, m1, m2, s4⟩
      have R4 := Lib.hid r4
      have M4 := Lib.hid (M3.out.far HN.out s4 (by
        rintro k (e | e)
        · subst e
          exact .inr ⟨by have := HXL.out; have := HRX.out; omega, fun h => by have := HI.out _ h; have := HRX.out; omega, fun h => by have := HOB.out _ h; have := HRX.out; omega⟩
        · exact .inl e) c4)
      have S4 := Lib.hid (St.tr S3.out s4 (by
        rintro k hk (e | e)
        · subst e; have := HRX.out; omega
        · exact .inl e))
      have HM1 := Lib.hid m1
      have HM2 := Lib.hid m2
      clear r4 c4 i1 i2 m1 m2 s4 c1 hd
      have hpre : pre = [] := List.eq_nil_of_length_eq_zero HP0.out
      have HE := Lib.hid (show en = false ∧ acc = [] ∧ out = [] from by
        rcases HP.out with ⟨_, h1, h2, h3⟩ | ⟨h1, _⟩ | ⟨h1, _⟩
        · exact ⟨h1, h2, h3⟩
        · exact absurd (by rw [hpre]; rfl) h1
        · exact absurd (by rw [hpre]; rfl) h1)
      have HLS2 := Lib.hid (show lsX (pre ++ [x]) = [bl t] by rw [HLS.out, hpre]; rfl)
      have HBAD := Lib.hid (show (headBad ts = true ∨ ts.drop 4 ≠ []) → BadI (lsX (pre ++ [x])) from fun hb => by
        rw [HLS2.out]
        refine bad_head ?_
        rw [HLX.out, ← HSP.out]
        cases hh : headO (ts.map bl) with
        | none => rfl
        | some q =>
          obtain ⟨h1, h2⟩ := (head_ok ts).2 (by rw [hh]; rfl)
          rcases hb with hb | hb
          · rw [h1] at hb; cases hb
          · exact absurd h2 hb)
      have HOK0 := Lib.hid (show headBad ts = false → ts.drop 4 = [] → RdI (lsX (pre ++ [x])) en W' R' acc out from fun h1 h2 => by
        obtain ⟨q, hq⟩ := Option.isSome_iff_exists.1 ((head_ok ts).1 ⟨h1, h2⟩)
        obtain ⟨v1, v2⟩ := head_val hq
        rw [HLS2.out, HE.out.1, HE.out.2.1, HE.out.2.2]
        refine rd_head ?_
        rw [HLX.out, ← HSP.out, hq, HM1.out _ v1, HM2.out _ v2])
      clear hpre
      have R5 := Lib.hid (show RS X4 r (ts.drop 4) (headBad ts) by have := R4.out; rwa [Bool.false_or] at this)
      obtain ⟨pr, cr, _, hrd⟩ := R5.out
      have k0 := cell_of_row X4 r 0 _ 105 (0, 0) hrd.blk
      have k1 := cell_of_row X4 r 1 _ 105 (0, 0) hrd.blk
      clear hrd
      cases hbF : headBad ts with
      | true =>
        have HBF := Lib.hid hbF
        rw [hbF] at k1
        clear hbF
        have BI := Lib.hid (HBAD.out (.inl HBF.out))
        have ML := Lib.hid (show X4.heap[w.heap.size + 1]? = some (.cells #[.int .i64 ((pre.length : Int) + 1)] 3 (0, 0)) from by have := M4.out.ln; rwa [show (((pre.length + 1 : Nat)) : Int) = (pre.length : Int) + 1 from by omega] at this)
        have RW := Lib.hid (retW_all (line := (pre.length : Int) + 1) M4.out.c ML.out M4.out.bk S4.out)
        unfold retW at RW
        have d0 := cell_of_row X4 w.heap.size 0 _ 34 (0, 0) M4.out.c
        have d1 := cell_of_row X4 w.heap.size 1 _ 34 (0, 0) M4.out.c
        have d2 := cell_of_row X4 w.heap.size 2 _ 34 (0, 0) M4.out.c
        have d3 := cell_of_row X4 w.heap.size 3 _ 34 (0, 0) M4.out.c
        have d4 := cell_of_row X4 (w.heap.size + 1) 0 _ 3 (0, 0) ML.out
        have g0 := frozen_of_row X4 w.heap.size 0 _ 34 M4.out.c
        have g1 := frozen_of_row X4 w.heap.size 1 _ 34 M4.out.c
        have g2 := frozen_of_row X4 w.heap.size 2 _ 34 M4.out.c
        have g3 := frozen_of_row X4 w.heap.size 3 _ 34 M4.out.c
        have g4 := frozen_of_row X4 (w.heap.size + 1) 0 _ 3 ML.out
        gi_upto_region 15 with (fail)
        clear k0 k1
        gi_region
        all_goals
          clear d0 d1 d2 d3 d4 g0 g1 g2 g3 g4
          generalize hZ : World.drew _ = Z at RW ⊢
          clear hZ
          gi_wp2
          exact ret_close HM.out HN.out RW.out.2.2.2 RW.out.1 RW.out.2.1 RW.out.2.2.1 BI.out
      | false =>
        have HBF := Lib.hid hbF
        rw [hbF] at k1
        clear hbF
        cases htF : ts.drop 4 with
        | cons u us =>
          have HTF := Lib.hid htF
          rw [htF] at k0
          clear htF
          have hus : (0 : Int) < ((us.length + 1 : Nat) : Int) := by omega
          have BI := Lib.hid (HBAD.out (.inr (by rw [HTF.out]; simp)))
          have ML := Lib.hid (show X4.heap[w.heap.size + 1]? = some (.cells #[.int .i64 ((pre.length : Int) + 1)] 3 (0, 0)) from by have := M4.out.ln; rwa [show (((pre.length + 1 : Nat)) : Int) = (pre.length : Int) + 1 from by omega] at this)
          have RW := Lib.hid (retW_all (line := (pre.length : Int) + 1) M4.out.c ML.out M4.out.bk S4.out)
          unfold retW at RW
          have d0 := cell_of_row X4 w.heap.size 0 _ 34 (0, 0) M4.out.c
          have d1 := cell_of_row X4 w.heap.size 1 _ 34 (0, 0) M4.out.c
          have d2 := cell_of_row X4 w.heap.size 2 _ 34 (0, 0) M4.out.c
          have d3 := cell_of_row X4 w.heap.size 3 _ 34 (0, 0) M4.out.c
          have d4 := cell_of_row X4 (w.heap.size + 1) 0 _ 3 (0, 0) ML.out
          have g0 := frozen_of_row X4 w.heap.size 0 _ 34 M4.out.c
          have g1 := frozen_of_row X4 w.heap.size 1 _ 34 M4.out.c
          have g2 := frozen_of_row X4 w.heap.size 2 _ 34 M4.out.c
          have g3 := frozen_of_row X4 w.heap.size 3 _ 34 M4.out.c
          have g4 := frozen_of_row X4 (w.heap.size + 1) 0 _ 3 ML.out
          gi_upto_region 15 with (fail)
          clear k0 k1
          gi_region
          all_goals
            clear d0 d1 d2 d3 d4 g0 g1 g2 g3 g4
            generalize hZ : World.drew _ = Z at RW ⊢
            clear hZ
            gi_wp2
            exact ret_close HM.out HN.out RW.out.2.2.2 RW.out.1 RW.out.2.1 RW.out.2.2.1 BI.out
        | nil =>
          have HTF := Lib.hid htF
          rw [htF] at k0
          clear htF
          have HOK := Lib.hid (HOK0.out HBF.out HTF.out)
          gi_wp2_with fail
          exact norm_close HM.out rfl (by have := HN.out; omega) HXL.out S4.out M4.out HOK.out (by have := HA.out; omega) (HO.out)
    · have HP0 := Lib.hid hp0
      have HPN := Lib.hid (show lsX pre ≠ [] from fun e => HP0.out (by have := congrArg List.length e; rw [lsX_len] at this; simpa using this))
      have hd : (((pre.length : Int) + 1) == 1) = false := by rw [beq_eq_false_iff_ne]; omega
      clear hp0
      obtain ⟨t0, ts1, hts⟩ : ∃ t0 ts1, ts = t0 :: ts1 := by
        cases ts with
        | nil => exact absurd rfl HNE.out
        | cons a b => exact ⟨a, b, rfl⟩
      have HTS1 := Lib.hid hts
      obtain ⟨pr0, cr0, _, hrd0⟩ := R3.out
      have k0 := cell_of_row X3 r 0 _ 105 (0, 0) hrd0.blk
      obtain ⟨br, or, hpr, hx0⟩ := hrd0.row.get 0 (by rw [hts]; simp)
      subst hpr
      have hx1 : X3.cell? ⟨br, or, none⟩ = some (.string t0) := by
        have e : ts[0]'(by rw [hts]; simp) = t0 := by simp [hts]
        rw [e] at hx0
        exact hx0
      rw [hts] at k0
      have e0 : X3.cell? ⟨w.heap.size + 1 + 1, 0, none⟩ = some (.bool en) := by
        rw [show w.heap.size + 1 + 1 = w.heap.size + 2 from rfl, cell_of_row X3 (w.heap.size + 2) 0 _ 4 (0, 0) M3.out.en]; rfl
      have HB1 := Lib.hid (show (sp (bl t)).headD [] = bl t0 by rw [HLX.out, ← HSP.out, HTS1.out]; rfl)
      clear hrd0 hx0 hts
      by_cases hco : bl t0 = outL
      · have HCO := Lib.hid hco
        have hcmp : (t0.toList == [111, 117, 116]) = true := by rw [bl_eqL]; exact decide_eq_true hco
        clear hco
        gi_wp2_with fail
        refine ⟨trivial, ?_⟩
        have C := require78 X3 r ts false R3.out (!en)
        refine (CallsIn.inRound l (callsIn_wide.2 C)).mono ?_
        clear C
        rintro e X4 ⟨rfl, r4, s4⟩
        have R4 := Lib.hid r4
        have M4 := Lib.hid (M3.out.far HN.out s4 (by
          intro k e
          have e : k = r := e
          subst e
          exact .inr ⟨by have := HXL.out; have := HRX.out; omega, fun h => by have := HI.out _ h; have := HRX.out; omega, fun h => by have := HOB.out _ h; have := HRX.out; omega⟩) (M3.out.c.st s4 (fun e => HRN.out e.symm)))
        have S4 := Lib.hid (St.tr S3.out s4 (by
          intro k hk e
          have e : k = r := e
          subst e; have := HRX.out; omega))
        have HT4 := Lib.hid (HT3.out.st s4 (by
          intro k hk e
          have e : k = r := e
          have := HW9.out; omega))
        clear r4 s4 c1 hd k0 hx1 e0 hcmp
        gi_wp2_with fail
        refine ⟨trivial, ?_⟩
        have C := out79 X4 r w.heap.size w6.heap.size ts (false || !(!en)) R4.out HSM.out (by have := HTL.out; omega) HW9.out H9.out HRN.out HT4.out W R _ _ M4.out.c out (by have := HO.out; omega) (by have := HN.out; have := H9.out; omega) (by have := S4.out.size; have := HXS.out; omega) M4.out.ro
        refine (CallsIn.inRound l (callsIn_wide.2 C)).mono ?_
        clear C
        rintro e X5 ⟨rfl, out', vo', r5, c5, o5, s5, g5, a5, l5⟩
        obtain ⟨po', co', rfl⟩ := own_shape o5
        have R5 := Lib.hid r5
        have M5 := Lib.hid (M4.out.outs HN.out (by have := HXL.out; have := HRX.out; omega) (fun h => by have := HI.out _ h; have := HRX.out; omega) s5 c5 o5)
        have S5 := Lib.hid (St.tr S4.out s5 (by
          rintro k hk (e | e | e)
          · subst e; have := HRX.out; omega
          · exact .inl e
          · exact .inr (.inr (.inr (.inr e)))))
        have HAC := Lib.hid a5
        have HLN := Lib.hid l5
        clear r5 c5 o5 s5 g5 a5 l5
        have e5 : X5.cell? ⟨w.heap.size + 1 + 1, 0, none⟩ = some (.bool en) := by
          rw [show w.heap.size + 1 + 1 = w.heap.size + 2 from rfl, cell_of_row X5 (w.heap.size + 2) 0 _ 4 (0, 0) M5.out.en]; rfl
        have f5 : X5.frozen? ⟨w.heap.size + 1 + 1, 0, none⟩ = false := frozen_of_row X5 (w.heap.size + 2) 0 _ 4 M5.out.en
        gi_upto_region 14 with (fail)
        have M6 := Lib.hid (show RM w (X5.setCell ⟨w.heap.size + 1 + 1, 0, none⟩ (.bool true)) _ _ _ _ _ _ _ _ _ from M5.out.setE HN.out true)
        have S6 := Lib.hid (show St _ X (X5.setCell ⟨w.heap.size + 1 + 1, 0, none⟩ (.bool true)) from St.tr S5.out (st_set X5 (w.heap.size + 2) 0 (.bool true)) (fun k _ e => .inr (.inr (.inl e))))
        have R6 := Lib.hid (show RS (X5.setCell ⟨w.heap.size + 1 + 1, 0, none⟩ (.bool true)) _ _ _ from R5.out.st (st_set X5 (w.heap.size + 2) 0 (.bool true)) (fun e => by have := HXL.out; have := HRX.out; have e : r = w.heap.size + 2 := e; omega) (isB_tag M5.out.en (by decide)))
        generalize X5.setCell ⟨w.heap.size + 1 + 1, 0, none⟩ (.bool true) = X6 at M6 S6 R6 ⊢
        clear e5 f5
        have HHD := Lib.hid (show ((hdB ts).toList == [111, 117, 116]) = true by rw [bl_eqL]; rw [HTS1.out]; exact decide_eq_true HCO.out)
        have HTLm := Lib.hid (show ts.tail.map bl = (sp (bl t)).tail by rw [HLX.out, ← HSP.out, List.map_tail])
        have HPURE := Lib.hid (fun (h : RdI (lsX pre) false W R acc out) => rd_out HPN.out h (x := bl t) (by rw [HB1.out]; exact HCO.out))
        have HBAD := Lib.hid (show ((false || !(!en)) || !((hdB ts).toList == [111, 117, 116]) || (regsO (ts.tail.map bl)).isNone) = true ∨ ([] : List ByteArray) ≠ [] → BadI (lsX (pre ++ [x])) from fun hb => by
          rw [HLS.out]
          rcases hb with hb | hb
          · rw [HHD.out, HTLm.out] at hb
            cases hen : en with
            | true => have hp := HP.out; rw [hen] at hp; exact rd_more hp _
            | false =>
              have hp := HP.out
              rw [hen] at hp hb
              refine (HPURE.out hp).1 ?_
              cases hq : regsO (sp (bl t)).tail with
              | none => rfl
              | some q => rw [hq] at hb; simp at hb
          · exact absurd rfl hb)
        have HOK0 := Lib.hid (show ((false || !(!en)) || !((hdB ts).toList == [111, 117, 116]) || (regsO (ts.tail.map bl)).isNone) = false → ([] : List ByteArray) = [] → RdI (lsX (pre ++ [x])) true W R acc out' ∧ out'.length ≤ 200000 from fun hb _ => by
          rw [HLS.out]
          rw [HHD.out, HTLm.out] at hb
          cases hen : en with
          | true => rw [hen] at hb; simp at hb
          | false =>
            have hp := HP.out
            rw [hen] at hp hb
            cases hq : regsO (sp (bl t)).tail with
            | none => rw [hq] at hb; simp at hb
            | some q =>
              obtain ⟨h1, h2⟩ := (HPURE.out hp).2 q hq
              have h3 := HAC.out q (by rw [HTLm.out]; exact hq)
              have h4 := HLN.out
              rw [h1] at h3 h4
              rw [List.nil_append] at h3
              rw [h3] at h4 ⊢
              exact ⟨h2, by have := HTL.out; simp at h4; omega⟩)
        obtain ⟨pr, cr, _, hrd⟩ := R6.out
        have k0 := cell_of_row X6 r 0 _ 105 (0, 0) hrd.blk
        have k1 := cell_of_row X6 r 1 _ 105 (0, 0) hrd.blk
        clear hrd
        cases hbF : ((false || !(!en)) || !((hdB ts).toList == [111, 117, 116]) || (regsO (ts.tail.map bl)).isNone) with
        | true =>
          have HBF := Lib.hid hbF
          rw [hbF] at k1
          clear hbF
          have BI := Lib.hid (HBAD.out (.inl HBF.out))
          have ML := Lib.hid (show X6.heap[w.heap.size + 1]? = some (.cells #[.int .i64 ((pre.length : Int) + 1)] 3 (0, 0)) from by have := M6.out.ln; rwa [show (((pre.length + 1 : Nat)) : Int) = (pre.length : Int) + 1 from by omega] at this)
          have RW := Lib.hid (retW_all (line := (pre.length : Int) + 1) M6.out.c ML.out M6.out.bk S6.out)
          unfold retW at RW
          have d0 := cell_of_row X6 w.heap.size 0 _ 34 (0, 0) M6.out.c
          have d1 := cell_of_row X6 w.heap.size 1 _ 34 (0, 0) M6.out.c
          have d2 := cell_of_row X6 w.heap.size 2 _ 34 (0, 0) M6.out.c
          have d3 := cell_of_row X6 w.heap.size 3 _ 34 (0, 0) M6.out.c
          have d4 := cell_of_row X6 (w.heap.size + 1) 0 _ 3 (0, 0) ML.out
          have g0 := frozen_of_row X6 w.heap.size 0 _ 34 M6.out.c
          have g1 := frozen_of_row X6 w.heap.size 1 _ 34 M6.out.c
          have g2 := frozen_of_row X6 w.heap.size 2 _ 34 M6.out.c
          have g3 := frozen_of_row X6 w.heap.size 3 _ 34 M6.out.c
          have g4 := frozen_of_row X6 (w.heap.size + 1) 0 _ 3 ML.out
          gi_upto_region 15 with (fail)
          clear k0 k1
          gi_region
          all_goals
            clear d0 d1 d2 d3 d4 g0 g1 g2 g3 g4
            generalize hZ : World.drew _ = Z at RW ⊢
            clear hZ
            gi_wp2
            exact ret_close HM.out HN.out RW.out.2.2.2 RW.out.1 RW.out.2.1 RW.out.2.2.1 BI.out
        | false =>
          have HBF := Lib.hid hbF
          rw [hbF] at k1
          clear hbF
          have HOK := Lib.hid (HOK0.out HBF.out rfl)
          gi_wp2_with fail
          exact norm_close HM.out rfl (by have := HN.out; omega) HXL.out S6.out M6.out HOK.out.1 (by have := HA.out; omega) (HOK.out.2)
      · have HCO := Lib.hid hco
        have hcmp : (t0.toList == [111, 117, 116]) = false := by rw [bl_eqL]; exact decide_eq_false hco
        clear hco
        gi_wp2_with fail
        refine ⟨trivial, ?_⟩
        have C := require78 X3 r ts false R3.out (!en)
        refine (CallsIn.inRound l (callsIn_wide.2 C)).mono ?_
        clear C
        rintro e X4 ⟨rfl, r4, s4⟩
        have R4 := Lib.hid r4
        have M4 := Lib.hid (M3.out.far HN.out s4 (by
          intro k e
          have e : k = r := e
          subst e
          exact .inr ⟨by have := HXL.out; have := HRX.out; omega, fun h => by have := HI.out _ h; have := HRX.out; omega, fun h => by have := HOB.out _ h; have := HRX.out; omega⟩) (M3.out.c.st s4 (fun e => HRN.out e.symm)))
        have S4 := Lib.hid (St.tr S3.out s4 (by
          intro k hk e
          have e : k = r := e
          subst e; have := HRX.out; omega))
        have HT4 := Lib.hid (HT3.out.st s4 (by
          intro k hk e
          have e : k = r := e
          have := HW9.out; omega))
        clear r4 s4 c1 hd k0 hx1 e0 hcmp
        gi_upto_region 7 with (fail)
        refine region_in (S := fun _ => True) (by kernel_rfl) (by kernel_rfl) trivial (fun hHeld => ?_)
        have R7 := Lib.hid (R4.out.keep (bk_drew (BK.refl X4)))
        have M7 := Lib.hid (M4.out.keep (bk_drew (BK.refl X4)))
        have S7 := Lib.hid (S4.out.trans (St.bk (bk_drew (BK.refl X4))))
        have HT7 := Lib.hid (HT4.out.keep (bk_drew (BK.refl X4)))
        generalize X4.drew = wI at hHeld R7 M7 S7 HT7 ⊢
        refine wpAnyH_take (i := 0) (v := .pointer (some ⟨w.heap.size, 2, none⟩)) rfl (by kernel_rfl) (by kernel_rfl) (by kernel_rfl) (fun _ _ _ h => h) (Or.inl ⟨by kernel_rfl, fun w hSw => by (go_simp)⟩) hHeld ?_
        try simp only [Act.put, List.setIfInBounds_toArray, List.set_cons_zero, List.set_cons_succ]
        refine wpAnyH_take (i := 2) (v := .pointer (some ⟨r, 0, none⟩)) rfl (by kernel_rfl) (by kernel_rfl) (by kernel_rfl) (fun _ _ _ h => h) (Or.inl ⟨by kernel_rfl, fun w hSw => by (go_simp)⟩) hHeld ?_
        try simp only [Act.put, List.setIfInBounds_toArray, List.set_cons_zero, List.set_cons_succ]
        refine wpAnyH_ready (rs := [1, 3]) (by kernel_rfl) (by simp) ?_
        refine AllReadyH.cons (o := _) rfl (fun K9 hK9 => ?_) (AllReadyH.cons (o := _) rfl (fun K9 hK9 => ?_) AllReadyH.nil)
        · have z7 := cell_of_row wI w.heap.size 2 _ 34 (0, 0) M7.out.c
          go_simp
          refine hK9.out _ _ trivial (fun hHeld => ?_)
          clear hK9 K9
          try simp only [Act.put, List.setIfInBounds_toArray, List.set_cons_zero, List.set_cons_succ]
          clear z7
          refine wpAnyH_ready (rs := [3]) (by kernel_rfl) (by simp) ?_
          refine AllReadyH.cons (o := _) rfl (fun K9 hK9 => ?_) AllReadyH.nil
          go_simp
          go_at_call 80
          have CC := ins80 wI r ts (false || !(!en)) R7.out HSM.out HW9.out HT7.out HNE.out
          refine CC.mono ?_
          clear CC
          rintro e wA ⟨i, ts', bad', rfl, r8, n8, s8⟩
          unfold av
          have R8 := Lib.hid r8
          have HIN := Lib.hid n8
          have M8 := Lib.hid (M7.out.far HN.out s8 (by
            intro k e
            have e : k = r := e
            subst e
            exact .inr ⟨by have := HXL.out; have := HRX.out; omega, fun h => by have := HI.out _ h; have := HRX.out; omega, fun h => by have := HOB.out _ h; have := HRX.out; omega⟩) (M7.out.c.st s8 (fun e => HRN.out e.symm)))
          have S8 := Lib.hid (St.tr S7.out s8 (by
            intro k hk e
            have e : k = r := e
            subst e; have := HRX.out; omega))
          clear r8 n8 s8
          
          refine hK9.out _ _ trivial (fun hHeld => ?_)
          clear hK9 K9
          try simp only [Act.put, List.setIfInBounds_toArray, List.set_cons_zero, List.set_cons_succ]
          refine wpAnyH_ready (rs := [4]) (by kernel_rfl) (by simp) ?_
          refine AllReadyH.cons (o := _) rfl (fun K9 hK9 => ?_) AllReadyH.nil
          go_simp
          refine hK9.out _ _ trivial (fun hHeld => ?_)
          clear hK9 K9
          try simp only [Act.put, List.setIfInBounds_toArray, List.set_cons_zero, List.set_cons_succ]
          have M9 := Lib.hid (M8.out.keep (bk_alloc (BK.refl wA) (.cells #[.int .i64 i.op, .int .i64 i.dst, .int .i64 i.a, .int .i64 i.b, .int .i64 i.c, .int .u64 i.imm] 42)))
          have R9 := Lib.hid (R8.out.keep (bk_alloc (BK.refl wA) (.cells #[.int .i64 i.op, .int .i64 i.dst, .int .i64 i.a, .int .i64 i.b, .int .i64 i.c, .int .u64 i.imm] 42)))
          have S9 := Lib.hid (S8.out.trans (St.bk (bk_alloc (BK.refl wA) (.cells #[.int .i64 i.op, .int .i64 i.dst, .int .i64 i.a, .int .i64 i.b, .int .i64 i.c, .int .u64 i.imm] 42))))
          have SRC := Lib.hid (show ∀ j u, (cells6 i)[j]? = some u → (wA.alloc (.cells #[.int .i64 i.op, .int .i64 i.dst, .int .i64 i.a, .int .i64 i.b, .int .i64 i.c, .int .u64 i.imm] 42)).cell? ((⟨wA.heap.size, 0, none⟩ : Addr).add j) = some u from World.news_of_block (heap_alloc_new wA (.cells #[.int .i64 i.op, .int .i64 i.dst, .int .i64 i.a, .int .i64 i.b, .int .i64 i.c, .int .u64 i.imm] 42)))
          generalize hsg : wA.heap.size = sg at SRC ⊢
          generalize wA.alloc (.cells #[.int .i64 i.op, .int .i64 i.dst, .int .i64 i.a, .int .i64 i.b, .int .i64 i.c, .int .u64 i.imm] 42) = wB at M9 R9 S9 SRC ⊢
          clear hsg
          refine wpAnyH_ready (rs := [5]) (by kernel_rfl) (by simp) ?_
          refine AllReadyH.cons (o := _) rfl (fun K9 hK9 => ?_) AllReadyH.nil
          obtain ⟨i0, hi0, hz0, hz1, hz2⟩ := info_parts info42
          refine wp_append_lies wB _ _ 31 rfl w6.heap.size 42 i0 _ 6 48 Tryz.underlying31 hi0 hz0 hz1 hz2 rfl (by decide) (.slice pi acc.length ci) acc.length (flat6 acc) rfl M9.out.ri ⟨sg, 0, none⟩ 1 1 (cells6 i) rfl rfl SRC.out (cells6_one i) (by omega) (by have := HA.out; have := HPL.out; unfold maxLen; omega) (by have := HA.out; have := HPL.out; omega) (by have := S9.out.size; have := HXS.out; omega) _ rfl ?_
          intro g3 c3 w3 ho3 hg3 hl3 hlt3
          have CX := Lib.hid (C4.st M9.out.c (st_grow hg3) (fun e => own_noC M9.out.ri M9.out.c (by decide) _ e rfl))
          have RX := Lib.hid (RS.st R9.out (st_grow hg3) (fun e => by have := HI.out _ e; have := HRX.out; omega) (own_no9 M9.out.ri))
          have SX := Lib.hid (st_grow hg3)
          have OX := Lib.hid (show w3.ownsRow w6.heap.size 42 6 (.slice (some ⟨g3, 0, none⟩) (acc ++ [i]).length c3) (acc ++ [i]).length (flat6 (acc ++ [i])) by
            rw [flat6_app, List.length_append]
            have e : flat6 [i] = cells6 i := by simp [flat6]
            rw [e]
            exact ho3)
          clear ho3 hg3 hl3 hlt3 hi0 hz0 hz1 hz2
          refine hK9.out _ _ trivial (fun hHeld => ?_)
          clear hK9 K9
          try simp only [Act.put, List.setIfInBounds_toArray, List.set_cons_zero, List.set_cons_succ]
          refine wpAnyH_take (i := 6) (v := .pointer (some ⟨w.heap.size, 2, none⟩)) rfl (by kernel_rfl) (by kernel_rfl) (by kernel_rfl) (fun _ _ _ h => h) (Or.inl ⟨by kernel_rfl, fun w hSw => by (go_simp)⟩) hHeld ?_
          try simp only [Act.put, List.setIfInBounds_toArray, List.set_cons_zero, List.set_cons_succ]
          have y3 := cell_of_row w3 w.heap.size 2 _ 34 (0, 0) CX.out
          have f3 := frozen_of_row w3 w.heap.size 2 _ 34 CX.out
          refine wpAnyH_ready (rs := [7]) (by kernel_rfl) (by simp) ?_
          refine AllReadyH.cons (o := _) rfl (fun K9 hK9 => ?_) AllReadyH.nil
          go_simp
          refine hK9.out _ _ trivial (fun hHeld => ?_)
          clear hK9 K9
          try simp only [Act.put, List.setIfInBounds_toArray, List.set_cons_zero, List.set_cons_succ]
          refine wpAnyH_done (by kernel_rfl) ?_ _
          clear y3 f3 hHeld
          dsimp only [onlyN]
          have hsl : (Value.slice (some ⟨g3, 0, none⟩) (acc.length + 1) c3) = .slice (some ⟨g3, 0, none⟩) (acc ++ [i]).length c3 := by rw [List.length_append]; rfl
          have MX := Lib.hid (show RM w (w3.setCell ⟨w.heap.size, 2, none⟩ (.slice (some ⟨g3, 0, none⟩) (acc.length + 1) c3)) w6.heap.size W R (.slice (some ⟨g3, 0, none⟩) (acc.length + 1) c3) (.slice po out.length co) (acc ++ [i]) out (pre.length + 1) en from by
            rw [hsl]
            exact M9.out.inss HN.out (St.tr (SX.out.mono (fun k e => Or.inr e)) (st_set w3 w.heap.size 2 _) (fun k _ e => .inl e)) (CX.out.set2 _) (own_at OX.out (fun k hk => heap_setCell_other w3 ⟨w.heap.size, 2, none⟩ k _ (fun e => own_noC OX.out CX.out (by decide) k hk e))))
          have SF := Lib.hid (show St (GG w.heap.size (.slice pi acc.length ci) (.slice po out.length co)) X (w3.setCell ⟨w.heap.size, 2, none⟩ (.slice (some ⟨g3, 0, none⟩) (acc.length + 1) c3)) from St.tr (St.tr S9.out SX.out (fun k _ e => .inr (.inr (.inr (.inl e))))) (st_set w3 w.heap.size 2 _) (fun k _ e => .inl e))
          have RF := Lib.hid (RX.out.code HRN.out CX.out 2 (.slice (some ⟨g3, 0, none⟩) (acc.length + 1) c3))
          generalize w3.setCell ⟨w.heap.size, 2, none⟩ (.slice (some ⟨g3, 0, none⟩) (acc.length + 1) c3) = Y at MX SF RF ⊢
          clear hsl
          have HPURE := Lib.hid (fun (h : RdI (lsX pre) false W R acc out) => rd_ins HPN.out h (x := bl t) (by rw [HB1.out]; exact HCO.out))
          have HBAD := Lib.hid (show (bad' = true ∨ ts' ≠ []) → BadI (lsX (pre ++ [x])) from fun hb => by
            rw [HLS.out]
            cases hen : en with
            | true => have hp := HP.out; rw [hen] at hp; exact rd_more hp _
            | false =>
              have hp := HP.out
              rw [hen] at hp
              refine (HPURE.out hp).1 ?_
              rw [HLX.out, ← HSP.out]
              cases hq : insO (ts.map bl) with
              | none => rfl
              | some q =>
                obtain ⟨h1, h2⟩ := (HIN.out.ok (by rw [hen]; rfl)).2 (by rw [hq]; rfl)
                rcases hb with hb | hb
                · rw [h1] at hb; cases hb
                · exact absurd h2 hb)
          have HOK0 := Lib.hid (show bad' = false → ts' = [] → RdI (lsX (pre ++ [x])) en W R (acc ++ [i]) out from fun h1 h2 => by
            rw [HLS.out]
            cases hen : en with
            | true => have := HIN.out.bd (by rw [hen]; rfl); rw [h1] at this; cases this
            | false =>
              have hp := HP.out
              rw [hen] at hp
              obtain ⟨q, hq⟩ := Option.isSome_iff_exists.1 ((HIN.out.ok (by rw [hen]; rfl)).1 ⟨h1, h2⟩)
              have he := HIN.out.val q hq
              obtain ⟨h3, h4⟩ := (HPURE.out hp).2 q (by rw [HLX.out, ← HSP.out]; exact hq)
              rw [h3, he]
              exact h4)
          obtain ⟨pr, cr, _, hrd⟩ := RF.out
          have k0 := cell_of_row Y r 0 _ 105 (0, 0) hrd.blk
          have k1 := cell_of_row Y r 1 _ 105 (0, 0) hrd.blk
          clear hrd
          cases hbF : bad' with
          | true =>
            have HBF := Lib.hid hbF
            rw [hbF] at k1
            clear hbF
            have BI := Lib.hid (HBAD.out (.inl HBF.out))
            have ML := Lib.hid (show Y.heap[w.heap.size + 1]? = some (.cells #[.int .i64 ((pre.length : Int) + 1)] 3 (0, 0)) from by have := MX.out.ln; rwa [show (((pre.length + 1 : Nat)) : Int) = (pre.length : Int) + 1 from by omega] at this)
            have RW := Lib.hid (retW_all (line := (pre.length : Int) + 1) MX.out.c ML.out MX.out.bk SF.out)
            unfold retW at RW
            have d0 := cell_of_row Y w.heap.size 0 _ 34 (0, 0) MX.out.c
            have d1 := cell_of_row Y w.heap.size 1 _ 34 (0, 0) MX.out.c
            have d2 := cell_of_row Y w.heap.size 2 _ 34 (0, 0) MX.out.c
            have d3 := cell_of_row Y w.heap.size 3 _ 34 (0, 0) MX.out.c
            have d4 := cell_of_row Y (w.heap.size + 1) 0 _ 3 (0, 0) ML.out
            have g0 := frozen_of_row Y w.heap.size 0 _ 34 MX.out.c
            have g1 := frozen_of_row Y w.heap.size 1 _ 34 MX.out.c
            have g2 := frozen_of_row Y w.heap.size 2 _ 34 MX.out.c
            have g3 := frozen_of_row Y w.heap.size 3 _ 34 MX.out.c
            have g4 := frozen_of_row Y (w.heap.size + 1) 0 _ 3 ML.out
            gi_upto_region 15 with (fail)
            clear k0 k1
            gi_region
            all_goals
              clear d0 d1 d2 d3 d4 g0 g1 g2 g3 g4
              generalize hZ : World.drew _ = Z at RW ⊢
              clear hZ
              gi_wp2
              exact ret_close HM.out HN.out RW.out.2.2.2 RW.out.1 RW.out.2.1 RW.out.2.2.1 BI.out
          | false =>
            have HBF := Lib.hid hbF
            rw [hbF] at k1
            clear hbF
            cases htF : ts' with
            | cons u us =>
              have HTF := Lib.hid htF
              rw [htF] at k0
              clear htF
              have hus : (0 : Int) < ((us.length + 1 : Nat) : Int) := by omega
              have BI := Lib.hid (HBAD.out (.inr (by rw [HTF.out]; simp)))
              have ML := Lib.hid (show Y.heap[w.heap.size + 1]? = some (.cells #[.int .i64 ((pre.length : Int) + 1)] 3 (0, 0)) from by have := MX.out.ln; rwa [show (((pre.length + 1 : Nat)) : Int) = (pre.length : Int) + 1 from by omega] at this)
              have RW := Lib.hid (retW_all (line := (pre.length : Int) + 1) MX.out.c ML.out MX.out.bk SF.out)
              unfold retW at RW
              have d0 := cell_of_row Y w.heap.size 0 _ 34 (0, 0) MX.out.c
              have d1 := cell_of_row Y w.heap.size 1 _ 34 (0, 0) MX.out.c
              have d2 := cell_of_row Y w.heap.size 2 _ 34 (0, 0) MX.out.c
              have d3 := cell_of_row Y w.heap.size 3 _ 34 (0, 0) MX.out.c
              have d4 := cell_of_row Y (w.heap.size + 1) 0 _ 3 (0, 0) ML.out
              have g0 := frozen_of_row Y w.heap.size 0 _ 34 MX.out.c
              have g1 := frozen_of_row Y w.heap.size 1 _ 34 MX.out.c
              have g2 := frozen_of_row Y w.heap.size 2 _ 34 MX.out.c
              have g3 := frozen_of_row Y w.heap.size 3 _ 34 MX.out.c
              have g4 := frozen_of_row Y (w.heap.size + 1) 0 _ 3 ML.out
              gi_upto_region 15 with (fail)
              clear k0 k1
              gi_region
              all_goals
                clear d0 d1 d2 d3 d4 g0 g1 g2 g3 g4
                generalize hZ : World.drew _ = Z at RW ⊢
                clear hZ
                gi_wp2
                exact ret_close HM.out HN.out RW.out.2.2.2 RW.out.1 RW.out.2.1 RW.out.2.2.1 BI.out
            | nil =>
              have HTF := Lib.hid htF
              rw [htF] at k0
              clear htF
              have HOK := Lib.hid (HOK0.out HBF.out HTF.out)
              gi_wp2_with fail
              exact norm_close HM.out rfl (by have := HN.out; omega) HXL.out SF.out MX.out HOK.out (by have := HA.out; rw [List.length_append]; simp; omega) (HO.out)
        · go_simp
          go_at_call 80
          have CC := ins80 wI r ts (false || !(!en)) R7.out HSM.out HW9.out HT7.out HNE.out
          refine CC.mono ?_
          clear CC
          rintro e wA ⟨i, ts', bad', rfl, r8, n8, s8⟩
          unfold av
          have R8 := Lib.hid r8
          have HIN := Lib.hid n8
          have M8 := Lib.hid (M7.out.far HN.out s8 (by
            intro k e
            have e : k = r := e
            subst e
            exact .inr ⟨by have := HXL.out; have := HRX.out; omega, fun h => by have := HI.out _ h; have := HRX.out; omega, fun h => by have := HOB.out _ h; have := HRX.out; omega⟩) (M7.out.c.st s8 (fun e => HRN.out e.symm)))
          have S8 := Lib.hid (St.tr S7.out s8 (by
            intro k hk e
            have e : k = r := e
            subst e; have := HRX.out; omega))
          clear r8 n8 s8
          
          refine hK9.out _ _ trivial (fun hHeld => ?_)
          clear hK9 K9
          try simp only [Act.put, List.setIfInBounds_toArray, List.set_cons_zero, List.set_cons_succ]
          refine wpAnyH_ready (rs := [1, 4]) (by kernel_rfl) (by simp) ?_
          refine AllReadyH.cons (o := _) rfl (fun K9 hK9 => ?_) (AllReadyH.cons (o := _) rfl (fun K9 hK9 => ?_) AllReadyH.nil)
          · have z8 := cell_of_row wA w.heap.size 2 _ 34 (0, 0) M8.out.c
            go_simp
            refine hK9.out _ _ trivial (fun hHeld => ?_)
            clear hK9 K9
            try simp only [Act.put, List.setIfInBounds_toArray, List.set_cons_zero, List.set_cons_succ]
            clear z8
            refine wpAnyH_ready (rs := [4]) (by kernel_rfl) (by simp) ?_
            refine AllReadyH.cons (o := _) rfl (fun K9 hK9 => ?_) AllReadyH.nil
            go_simp
            refine hK9.out _ _ trivial (fun hHeld => ?_)
            clear hK9 K9
            try simp only [Act.put, List.setIfInBounds_toArray, List.set_cons_zero, List.set_cons_succ]
            have M9 := Lib.hid (M8.out.keep (bk_alloc (BK.refl wA) (.cells #[.int .i64 i.op, .int .i64 i.dst, .int .i64 i.a, .int .i64 i.b, .int .i64 i.c, .int .u64 i.imm] 42)))
            have R9 := Lib.hid (R8.out.keep (bk_alloc (BK.refl wA) (.cells #[.int .i64 i.op, .int .i64 i.dst, .int .i64 i.a, .int .i64 i.b, .int .i64 i.c, .int .u64 i.imm] 42)))
            have S9 := Lib.hid (S8.out.trans (St.bk (bk_alloc (BK.refl wA) (.cells #[.int .i64 i.op, .int .i64 i.dst, .int .i64 i.a, .int .i64 i.b, .int .i64 i.c, .int .u64 i.imm] 42))))
            have SRC := Lib.hid (show ∀ j u, (cells6 i)[j]? = some u → (wA.alloc (.cells #[.int .i64 i.op, .int .i64 i.dst, .int .i64 i.a, .int .i64 i.b, .int .i64 i.c, .int .u64 i.imm] 42)).cell? ((⟨wA.heap.size, 0, none⟩ : Addr).add j) = some u from World.news_of_block (heap_alloc_new wA (.cells #[.int .i64 i.op, .int .i64 i.dst, .int .i64 i.a, .int .i64 i.b, .int .i64 i.c, .int .u64 i.imm] 42)))
            generalize hsg : wA.heap.size = sg at SRC ⊢
            generalize wA.alloc (.cells #[.int .i64 i.op, .int .i64 i.dst, .int .i64 i.a, .int .i64 i.b, .int .i64 i.c, .int .u64 i.imm] 42) = wB at M9 R9 S9 SRC ⊢
            clear hsg
            refine wpAnyH_ready (rs := [5]) (by kernel_rfl) (by simp) ?_
            refine AllReadyH.cons (o := _) rfl (fun K9 hK9 => ?_) AllReadyH.nil
            obtain ⟨i0, hi0, hz0, hz1, hz2⟩ := info_parts info42
            refine wp_append_lies wB _ _ 31 rfl w6.heap.size 42 i0 _ 6 48 Tryz.underlying31 hi0 hz0 hz1 hz2 rfl (by decide) (.slice pi acc.length ci) acc.length (flat6 acc) rfl M9.out.ri ⟨sg, 0, none⟩ 1 1 (cells6 i) rfl rfl SRC.out (cells6_one i) (by omega) (by have := HA.out; have := HPL.out; unfold maxLen; omega) (by have := HA.out; have := HPL.out; omega) (by have := S9.out.size; have := HXS.out; omega) _ rfl ?_
            intro g3 c3 w3 ho3 hg3 hl3 hlt3
            have CX := Lib.hid (C4.st M9.out.c (st_grow hg3) (fun e => own_noC M9.out.ri M9.out.c (by decide) _ e rfl))
            have RX := Lib.hid (RS.st R9.out (st_grow hg3) (fun e => by have := HI.out _ e; have := HRX.out; omega) (own_no9 M9.out.ri))
            have SX := Lib.hid (st_grow hg3)
            have OX := Lib.hid (show w3.ownsRow w6.heap.size 42 6 (.slice (some ⟨g3, 0, none⟩) (acc ++ [i]).length c3) (acc ++ [i]).length (flat6 (acc ++ [i])) by
              rw [flat6_app, List.length_append]
              have e : flat6 [i] = cells6 i := by simp [flat6]
              rw [e]
              exact ho3)
            clear ho3 hg3 hl3 hlt3 hi0 hz0 hz1 hz2
            refine hK9.out _ _ trivial (fun hHeld => ?_)
            clear hK9 K9
            try simp only [Act.put, List.setIfInBounds_toArray, List.set_cons_zero, List.set_cons_succ]
            refine wpAnyH_take (i := 6) (v := .pointer (some ⟨w.heap.size, 2, none⟩)) rfl (by kernel_rfl) (by kernel_rfl) (by kernel_rfl) (fun _ _ _ h => h) (Or.inl ⟨by kernel_rfl, fun w hSw => by (go_simp)⟩) hHeld ?_
            try simp only [Act.put, List.setIfInBounds_toArray, List.set_cons_zero, List.set_cons_succ]
            have y3 := cell_of_row w3 w.heap.size 2 _ 34 (0, 0) CX.out
            have f3 := frozen_of_row w3 w.heap.size 2 _ 34 CX.out
            refine wpAnyH_ready (rs := [7]) (by kernel_rfl) (by simp) ?_
            refine AllReadyH.cons (o := _) rfl (fun K9 hK9 => ?_) AllReadyH.nil
            go_simp
            refine hK9.out _ _ trivial (fun hHeld => ?_)
            clear hK9 K9
            try simp only [Act.put, List.setIfInBounds_toArray, List.set_cons_zero, List.set_cons_succ]
            refine wpAnyH_done (by kernel_rfl) ?_ _
            clear y3 f3 hHeld
            dsimp only [onlyN]
            have hsl : (Value.slice (some ⟨g3, 0, none⟩) (acc.length + 1) c3) = .slice (some ⟨g3, 0, none⟩) (acc ++ [i]).length c3 := by rw [List.length_append]; rfl
            have MX := Lib.hid (show RM w (w3.setCell ⟨w.heap.size, 2, none⟩ (.slice (some ⟨g3, 0, none⟩) (acc.length + 1) c3)) w6.heap.size W R (.slice (some ⟨g3, 0, none⟩) (acc.length + 1) c3) (.slice po out.length co) (acc ++ [i]) out (pre.length + 1) en from by
              rw [hsl]
              exact M9.out.inss HN.out (St.tr (SX.out.mono (fun k e => Or.inr e)) (st_set w3 w.heap.size 2 _) (fun k _ e => .inl e)) (CX.out.set2 _) (own_at OX.out (fun k hk => heap_setCell_other w3 ⟨w.heap.size, 2, none⟩ k _ (fun e => own_noC OX.out CX.out (by decide) k hk e))))
            have SF := Lib.hid (show St (GG w.heap.size (.slice pi acc.length ci) (.slice po out.length co)) X (w3.setCell ⟨w.heap.size, 2, none⟩ (.slice (some ⟨g3, 0, none⟩) (acc.length + 1) c3)) from St.tr (St.tr S9.out SX.out (fun k _ e => .inr (.inr (.inr (.inl e))))) (st_set w3 w.heap.size 2 _) (fun k _ e => .inl e))
            have RF := Lib.hid (RX.out.code HRN.out CX.out 2 (.slice (some ⟨g3, 0, none⟩) (acc.length + 1) c3))
            generalize w3.setCell ⟨w.heap.size, 2, none⟩ (.slice (some ⟨g3, 0, none⟩) (acc.length + 1) c3) = Y at MX SF RF ⊢
            clear hsl
            have HPURE := Lib.hid (fun (h : RdI (lsX pre) false W R acc out) => rd_ins HPN.out h (x := bl t) (by rw [HB1.out]; exact HCO.out))
            have HBAD := Lib.hid (show (bad' = true ∨ ts' ≠ []) → BadI (lsX (pre ++ [x])) from fun hb => by
              rw [HLS.out]
              cases hen : en with
              | true => have hp := HP.out; rw [hen] at hp; exact rd_more hp _
              | false =>
                have hp := HP.out
                rw [hen] at hp
                refine (HPURE.out hp).1 ?_
                rw [HLX.out, ← HSP.out]
                cases hq : insO (ts.map bl) with
                | none => rfl
                | some q =>
                  obtain ⟨h1, h2⟩ := (HIN.out.ok (by rw [hen]; rfl)).2 (by rw [hq]; rfl)
                  rcases hb with hb | hb
                  · rw [h1] at hb; cases hb
                  · exact absurd h2 hb)
            have HOK0 := Lib.hid (show bad' = false → ts' = [] → RdI (lsX (pre ++ [x])) en W R (acc ++ [i]) out from fun h1 h2 => by
              rw [HLS.out]
              cases hen : en with
              | true => have := HIN.out.bd (by rw [hen]; rfl); rw [h1] at this; cases this
              | false =>
                have hp := HP.out
                rw [hen] at hp
                obtain ⟨q, hq⟩ := Option.isSome_iff_exists.1 ((HIN.out.ok (by rw [hen]; rfl)).1 ⟨h1, h2⟩)
                have he := HIN.out.val q hq
                obtain ⟨h3, h4⟩ := (HPURE.out hp).2 q (by rw [HLX.out, ← HSP.out]; exact hq)
                rw [h3, he]
                exact h4)
            obtain ⟨pr, cr, _, hrd⟩ := RF.out
            have k0 := cell_of_row Y r 0 _ 105 (0, 0) hrd.blk
            have k1 := cell_of_row Y r 1 _ 105 (0, 0) hrd.blk
            clear hrd
            cases hbF : bad' with
            | true =>
              have HBF := Lib.hid hbF
              rw [hbF] at k1
              clear hbF
              have BI := Lib.hid (HBAD.out (.inl HBF.out))
              have ML := Lib.hid (show Y.heap[w.heap.size + 1]? = some (.cells #[.int .i64 ((pre.length : Int) + 1)] 3 (0, 0)) from by have := MX.out.ln; rwa [show (((pre.length + 1 : Nat)) : Int) = (pre.length : Int) + 1 from by omega] at this)
              have RW := Lib.hid (retW_all (line := (pre.length : Int) + 1) MX.out.c ML.out MX.out.bk SF.out)
              unfold retW at RW
              have d0 := cell_of_row Y w.heap.size 0 _ 34 (0, 0) MX.out.c
              have d1 := cell_of_row Y w.heap.size 1 _ 34 (0, 0) MX.out.c
              have d2 := cell_of_row Y w.heap.size 2 _ 34 (0, 0) MX.out.c
              have d3 := cell_of_row Y w.heap.size 3 _ 34 (0, 0) MX.out.c
              have d4 := cell_of_row Y (w.heap.size + 1) 0 _ 3 (0, 0) ML.out
              have g0 := frozen_of_row Y w.heap.size 0 _ 34 MX.out.c
              have g1 := frozen_of_row Y w.heap.size 1 _ 34 MX.out.c
              have g2 := frozen_of_row Y w.heap.size 2 _ 34 MX.out.c
              have g3 := frozen_of_row Y w.heap.size 3 _ 34 MX.out.c
              have g4 := frozen_of_row Y (w.heap.size + 1) 0 _ 3 ML.out
              gi_upto_region 15 with (fail)
              clear k0 k1
              gi_region
              all_goals
                clear d0 d1 d2 d3 d4 g0 g1 g2 g3 g4
                generalize hZ : World.drew _ = Z at RW ⊢
                clear hZ
                gi_wp2
                exact ret_close HM.out HN.out RW.out.2.2.2 RW.out.1 RW.out.2.1 RW.out.2.2.1 BI.out
            | false =>
              have HBF := Lib.hid hbF
              rw [hbF] at k1
              clear hbF
              cases htF : ts' with
              | cons u us =>
                have HTF := Lib.hid htF
                rw [htF] at k0
                clear htF
                have hus : (0 : Int) < ((us.length + 1 : Nat) : Int) := by omega
                have BI := Lib.hid (HBAD.out (.inr (by rw [HTF.out]; simp)))
                have ML := Lib.hid (show Y.heap[w.heap.size + 1]? = some (.cells #[.int .i64 ((pre.length : Int) + 1)] 3 (0, 0)) from by have := MX.out.ln; rwa [show (((pre.length + 1 : Nat)) : Int) = (pre.length : Int) + 1 from by omega] at this)
                have RW := Lib.hid (retW_all (line := (pre.length : Int) + 1) MX.out.c ML.out MX.out.bk SF.out)
                unfold retW at RW
                have d0 := cell_of_row Y w.heap.size 0 _ 34 (0, 0) MX.out.c
                have d1 := cell_of_row Y w.heap.size 1 _ 34 (0, 0) MX.out.c
                have d2 := cell_of_row Y w.heap.size 2 _ 34 (0, 0) MX.out.c
                have d3 := cell_of_row Y w.heap.size 3 _ 34 (0, 0) MX.out.c
                have d4 := cell_of_row Y (w.heap.size + 1) 0 _ 3 (0, 0) ML.out
                have g0 := frozen_of_row Y w.heap.size 0 _ 34 MX.out.c
                have g1 := frozen_of_row Y w.heap.size 1 _ 34 MX.out.c
                have g2 := frozen_of_row Y w.heap.size 2 _ 34 MX.out.c
                have g3 := frozen_of_row Y w.heap.size 3 _ 34 MX.out.c
                have g4 := frozen_of_row Y (w.heap.size + 1) 0 _ 3 ML.out
                gi_upto_region 15 with (fail)
                clear k0 k1
                gi_region
                all_goals
                  clear d0 d1 d2 d3 d4 g0 g1 g2 g3 g4
                  generalize hZ : World.drew _ = Z at RW ⊢
                  clear hZ
                  gi_wp2
                  exact ret_close HM.out HN.out RW.out.2.2.2 RW.out.1 RW.out.2.1 RW.out.2.2.1 BI.out
              | nil =>
                have HTF := Lib.hid htF
                rw [htF] at k0
                clear htF
                have HOK := Lib.hid (HOK0.out HBF.out HTF.out)
                gi_wp2_with fail
                exact norm_close HM.out rfl (by have := HN.out; omega) HXL.out SF.out MX.out HOK.out (by have := HA.out; rw [List.length_append]; simp; omega) (HO.out)
          · go_simp
            refine hK9.out _ _ trivial (fun hHeld => ?_)
            clear hK9 K9
            try simp only [Act.put, List.setIfInBounds_toArray, List.set_cons_zero, List.set_cons_succ]
            have M9 := Lib.hid (M8.out.keep (bk_alloc (BK.refl wA) (.cells #[.int .i64 i.op, .int .i64 i.dst, .int .i64 i.a, .int .i64 i.b, .int .i64 i.c, .int .u64 i.imm] 42)))
            have R9 := Lib.hid (R8.out.keep (bk_alloc (BK.refl wA) (.cells #[.int .i64 i.op, .int .i64 i.dst, .int .i64 i.a, .int .i64 i.b, .int .i64 i.c, .int .u64 i.imm] 42)))
            have S9 := Lib.hid (S8.out.trans (St.bk (bk_alloc (BK.refl wA) (.cells #[.int .i64 i.op, .int .i64 i.dst, .int .i64 i.a, .int .i64 i.b, .int .i64 i.c, .int .u64 i.imm] 42))))
            have SRC := Lib.hid (show ∀ j u, (cells6 i)[j]? = some u → (wA.alloc (.cells #[.int .i64 i.op, .int .i64 i.dst, .int .i64 i.a, .int .i64 i.b, .int .i64 i.c, .int .u64 i.imm] 42)).cell? ((⟨wA.heap.size, 0, none⟩ : Addr).add j) = some u from World.news_of_block (heap_alloc_new wA (.cells #[.int .i64 i.op, .int .i64 i.dst, .int .i64 i.a, .int .i64 i.b, .int .i64 i.c, .int .u64 i.imm] 42)))
            generalize hsg : wA.heap.size = sg at SRC ⊢
            generalize wA.alloc (.cells #[.int .i64 i.op, .int .i64 i.dst, .int .i64 i.a, .int .i64 i.b, .int .i64 i.c, .int .u64 i.imm] 42) = wB at M9 R9 S9 SRC ⊢
            clear hsg
            refine wpAnyH_ready (rs := [1]) (by kernel_rfl) (by simp) ?_
            refine AllReadyH.cons (o := _) rfl (fun K9 hK9 => ?_) AllReadyH.nil
            have z9 := cell_of_row wB w.heap.size 2 _ 34 (0, 0) M9.out.c
            go_simp
            refine hK9.out _ _ trivial (fun hHeld => ?_)
            clear hK9 K9
            try simp only [Act.put, List.setIfInBounds_toArray, List.set_cons_zero, List.set_cons_succ]
            clear z9
            refine wpAnyH_ready (rs := [5]) (by kernel_rfl) (by simp) ?_
            refine AllReadyH.cons (o := _) rfl (fun K9 hK9 => ?_) AllReadyH.nil
            obtain ⟨i0, hi0, hz0, hz1, hz2⟩ := info_parts info42
            refine wp_append_lies wB _ _ 31 rfl w6.heap.size 42 i0 _ 6 48 Tryz.underlying31 hi0 hz0 hz1 hz2 rfl (by decide) (.slice pi acc.length ci) acc.length (flat6 acc) rfl M9.out.ri ⟨sg, 0, none⟩ 1 1 (cells6 i) rfl rfl SRC.out (cells6_one i) (by omega) (by have := HA.out; have := HPL.out; unfold maxLen; omega) (by have := HA.out; have := HPL.out; omega) (by have := S9.out.size; have := HXS.out; omega) _ rfl ?_
            intro g3 c3 w3 ho3 hg3 hl3 hlt3
            have CX := Lib.hid (C4.st M9.out.c (st_grow hg3) (fun e => own_noC M9.out.ri M9.out.c (by decide) _ e rfl))
            have RX := Lib.hid (RS.st R9.out (st_grow hg3) (fun e => by have := HI.out _ e; have := HRX.out; omega) (own_no9 M9.out.ri))
            have SX := Lib.hid (st_grow hg3)
            have OX := Lib.hid (show w3.ownsRow w6.heap.size 42 6 (.slice (some ⟨g3, 0, none⟩) (acc ++ [i]).length c3) (acc ++ [i]).length (flat6 (acc ++ [i])) by
              rw [flat6_app, List.length_append]
              have e : flat6 [i] = cells6 i := by simp [flat6]
              rw [e]
              exact ho3)
            clear ho3 hg3 hl3 hlt3 hi0 hz0 hz1 hz2
            refine hK9.out _ _ trivial (fun hHeld => ?_)
            clear hK9 K9
            try simp only [Act.put, List.setIfInBounds_toArray, List.set_cons_zero, List.set_cons_succ]
            refine wpAnyH_take (i := 6) (v := .pointer (some ⟨w.heap.size, 2, none⟩)) rfl (by kernel_rfl) (by kernel_rfl) (by kernel_rfl) (fun _ _ _ h => h) (Or.inl ⟨by kernel_rfl, fun w hSw => by (go_simp)⟩) hHeld ?_
            try simp only [Act.put, List.setIfInBounds_toArray, List.set_cons_zero, List.set_cons_succ]
            have y3 := cell_of_row w3 w.heap.size 2 _ 34 (0, 0) CX.out
            have f3 := frozen_of_row w3 w.heap.size 2 _ 34 CX.out
            refine wpAnyH_ready (rs := [7]) (by kernel_rfl) (by simp) ?_
            refine AllReadyH.cons (o := _) rfl (fun K9 hK9 => ?_) AllReadyH.nil
            go_simp
            refine hK9.out _ _ trivial (fun hHeld => ?_)
            clear hK9 K9
            try simp only [Act.put, List.setIfInBounds_toArray, List.set_cons_zero, List.set_cons_succ]
            refine wpAnyH_done (by kernel_rfl) ?_ _
            clear y3 f3 hHeld
            dsimp only [onlyN]
            have hsl : (Value.slice (some ⟨g3, 0, none⟩) (acc.length + 1) c3) = .slice (some ⟨g3, 0, none⟩) (acc ++ [i]).length c3 := by rw [List.length_append]; rfl
            have MX := Lib.hid (show RM w (w3.setCell ⟨w.heap.size, 2, none⟩ (.slice (some ⟨g3, 0, none⟩) (acc.length + 1) c3)) w6.heap.size W R (.slice (some ⟨g3, 0, none⟩) (acc.length + 1) c3) (.slice po out.length co) (acc ++ [i]) out (pre.length + 1) en from by
              rw [hsl]
              exact M9.out.inss HN.out (St.tr (SX.out.mono (fun k e => Or.inr e)) (st_set w3 w.heap.size 2 _) (fun k _ e => .inl e)) (CX.out.set2 _) (own_at OX.out (fun k hk => heap_setCell_other w3 ⟨w.heap.size, 2, none⟩ k _ (fun e => own_noC OX.out CX.out (by decide) k hk e))))
            have SF := Lib.hid (show St (GG w.heap.size (.slice pi acc.length ci) (.slice po out.length co)) X (w3.setCell ⟨w.heap.size, 2, none⟩ (.slice (some ⟨g3, 0, none⟩) (acc.length + 1) c3)) from St.tr (St.tr S9.out SX.out (fun k _ e => .inr (.inr (.inr (.inl e))))) (st_set w3 w.heap.size 2 _) (fun k _ e => .inl e))
            have RF := Lib.hid (RX.out.code HRN.out CX.out 2 (.slice (some ⟨g3, 0, none⟩) (acc.length + 1) c3))
            generalize w3.setCell ⟨w.heap.size, 2, none⟩ (.slice (some ⟨g3, 0, none⟩) (acc.length + 1) c3) = Y at MX SF RF ⊢
            clear hsl
            have HPURE := Lib.hid (fun (h : RdI (lsX pre) false W R acc out) => rd_ins HPN.out h (x := bl t) (by rw [HB1.out]; exact HCO.out))
            have HBAD := Lib.hid (show (bad' = true ∨ ts' ≠ []) → BadI (lsX (pre ++ [x])) from fun hb => by
              rw [HLS.out]
              cases hen : en with
              | true => have hp := HP.out; rw [hen] at hp; exact rd_more hp _
              | false =>
                have hp := HP.out
                rw [hen] at hp
                refine (HPURE.out hp).1 ?_
                rw [HLX.out, ← HSP.out]
                cases hq : insO (ts.map bl) with
                | none => rfl
                | some q =>
                  obtain ⟨h1, h2⟩ := (HIN.out.ok (by rw [hen]; rfl)).2 (by rw [hq]; rfl)
                  rcases hb with hb | hb
                  · rw [h1] at hb; cases hb
                  · exact absurd h2 hb)
            have HOK0 := Lib.hid (show bad' = false → ts' = [] → RdI (lsX (pre ++ [x])) en W R (acc ++ [i]) out from fun h1 h2 => by
              rw [HLS.out]
              cases hen : en with
              | true => have := HIN.out.bd (by rw [hen]; rfl); rw [h1] at this; cases this
              | false =>
                have hp := HP.out
                rw [hen] at hp
                obtain ⟨q, hq⟩ := Option.isSome_iff_exists.1 ((HIN.out.ok (by rw [hen]; rfl)).1 ⟨h1, h2⟩)
                have he := HIN.out.val q hq
                obtain ⟨h3, h4⟩ := (HPURE.out hp).2 q (by rw [HLX.out, ← HSP.out]; exact hq)
                rw [h3, he]
                exact h4)
            obtain ⟨pr, cr, _, hrd⟩ := RF.out
            have k0 := cell_of_row Y r 0 _ 105 (0, 0) hrd.blk
            have k1 := cell_of_row Y r 1 _ 105 (0, 0) hrd.blk
            clear hrd
            cases hbF : bad' with
            | true =>
              have HBF := Lib.hid hbF
              rw [hbF] at k1
              clear hbF
              have BI := Lib.hid (HBAD.out (.inl HBF.out))
              have ML := Lib.hid (show Y.heap[w.heap.size + 1]? = some (.cells #[.int .i64 ((pre.length : Int) + 1)] 3 (0, 0)) from by have := MX.out.ln; rwa [show (((pre.length + 1 : Nat)) : Int) = (pre.length : Int) + 1 from by omega] at this)
              have RW := Lib.hid (retW_all (line := (pre.length : Int) + 1) MX.out.c ML.out MX.out.bk SF.out)
              unfold retW at RW
              have d0 := cell_of_row Y w.heap.size 0 _ 34 (0, 0) MX.out.c
              have d1 := cell_of_row Y w.heap.size 1 _ 34 (0, 0) MX.out.c
              have d2 := cell_of_row Y w.heap.size 2 _ 34 (0, 0) MX.out.c
              have d3 := cell_of_row Y w.heap.size 3 _ 34 (0, 0) MX.out.c
              have d4 := cell_of_row Y (w.heap.size + 1) 0 _ 3 (0, 0) ML.out
              have g0 := frozen_of_row Y w.heap.size 0 _ 34 MX.out.c
              have g1 := frozen_of_row Y w.heap.size 1 _ 34 MX.out.c
              have g2 := frozen_of_row Y w.heap.size 2 _ 34 MX.out.c
              have g3 := frozen_of_row Y w.heap.size 3 _ 34 MX.out.c
              have g4 := frozen_of_row Y (w.heap.size + 1) 0 _ 3 ML.out
              gi_upto_region 15 with (fail)
              clear k0 k1
              gi_region
              all_goals
                clear d0 d1 d2 d3 d4 g0 g1 g2 g3 g4
                generalize hZ : World.drew _ = Z at RW ⊢
                clear hZ
                gi_wp2
                exact ret_close HM.out HN.out RW.out.2.2.2 RW.out.1 RW.out.2.1 RW.out.2.2.1 BI.out
            | false =>
              have HBF := Lib.hid hbF
              rw [hbF] at k1
              clear hbF
              cases htF : ts' with
              | cons u us =>
                have HTF := Lib.hid htF
                rw [htF] at k0
                clear htF
                have hus : (0 : Int) < ((us.length + 1 : Nat) : Int) := by omega
                have BI := Lib.hid (HBAD.out (.inr (by rw [HTF.out]; simp)))
                have ML := Lib.hid (show Y.heap[w.heap.size + 1]? = some (.cells #[.int .i64 ((pre.length : Int) + 1)] 3 (0, 0)) from by have := MX.out.ln; rwa [show (((pre.length + 1 : Nat)) : Int) = (pre.length : Int) + 1 from by omega] at this)
                have RW := Lib.hid (retW_all (line := (pre.length : Int) + 1) MX.out.c ML.out MX.out.bk SF.out)
                unfold retW at RW
                have d0 := cell_of_row Y w.heap.size 0 _ 34 (0, 0) MX.out.c
                have d1 := cell_of_row Y w.heap.size 1 _ 34 (0, 0) MX.out.c
                have d2 := cell_of_row Y w.heap.size 2 _ 34 (0, 0) MX.out.c
                have d3 := cell_of_row Y w.heap.size 3 _ 34 (0, 0) MX.out.c
                have d4 := cell_of_row Y (w.heap.size + 1) 0 _ 3 (0, 0) ML.out
                have g0 := frozen_of_row Y w.heap.size 0 _ 34 MX.out.c
                have g1 := frozen_of_row Y w.heap.size 1 _ 34 MX.out.c
                have g2 := frozen_of_row Y w.heap.size 2 _ 34 MX.out.c
                have g3 := frozen_of_row Y w.heap.size 3 _ 34 MX.out.c
                have g4 := frozen_of_row Y (w.heap.size + 1) 0 _ 3 ML.out
                gi_upto_region 15 with (fail)
                clear k0 k1
                gi_region
                all_goals
                  clear d0 d1 d2 d3 d4 g0 g1 g2 g3 g4
                  generalize hZ : World.drew _ = Z at RW ⊢
                  clear hZ
                  gi_wp2
                  exact ret_close HM.out HN.out RW.out.2.2.2 RW.out.1 RW.out.2.1 RW.out.2.2.1 BI.out
              | nil =>
                have HTF := Lib.hid htF
                rw [htF] at k0
                clear htF
                have HOK := Lib.hid (HOK0.out HBF.out HTF.out)
                gi_wp2_with fail
                exact norm_close HM.out rfl (by have := HN.out; omega) HXL.out SF.out MX.out HOK.out (by have := HA.out; rw [List.length_append]; simp; omega) (HO.out)
  case done =>
    rintro D ys X hD hS hI hK
    obtain ⟨W, R, vi, vo, acc, out, en, hm, hp, ha, ho⟩ := hI
    obtain ⟨pi, ci, rfl⟩ := own_shape hm.ri
    obtain ⟨po, co, rfl⟩ := own_shape hm.ro
    have hls : lsX ys = lns (bl s) := by unfold lsX; rw [hS]; exact trm_lns _
    have HYS := Lib.hid (show ys.length ≤ s.size from by
      have := congrArg List.length hS
      rw [bls_len] at this
      have h2 := lnT_len (bl s)
      rw [bl_len] at h2
      omega)
    have hyl : (ys.length : Int) ≤ 100000 := by have := HYS.out; omega
    rw [hls] at hp
    have HLY := Lib.hid (show (lns (bl s)).length = ys.length from by rw [← hls, lsX_len])
    have HM := Lib.hid hm
    have HP := Lib.hid hp
    have HA := Lib.hid ha
    have HO := Lib.hid ho
    have HK := Lib.hid hK
    have HD := Lib.hid hD
    have HN := Lib.hid (show w.heap.size + 3 < w6.heap.size from by omega)
    have e0 : X.cell? ⟨w.heap.size + 1 + 1, 0, none⟩ = some (.bool en) := by
      rw [show w.heap.size + 1 + 1 = w.heap.size + 2 from rfl, cell_of_row X (w.heap.size + 2) 0 _ 4 (0, 0) hm.en]; rfl
    clear hm hp ha ho hK hD hS hls hn6 hw6
    cases en with
    | false =>
      have RW := Lib.hid (retW_all (line := (ys.length : Int) + 1) HM.out.c HM.out.ln HM.out.bk (St.refl (GG w.heap.size (.slice pi acc.length ci) (.slice po out.length co)) X))
      unfold retW at RW
      have d0 := cell_of_row X w.heap.size 0 _ 34 (0, 0) HM.out.c
      have d1 := cell_of_row X w.heap.size 1 _ 34 (0, 0) HM.out.c
      have d2 := cell_of_row X w.heap.size 2 _ 34 (0, 0) HM.out.c
      have d3 := cell_of_row X w.heap.size 3 _ 34 (0, 0) HM.out.c
      have d4 := cell_of_row X (w.heap.size + 1) 0 _ 3 (0, 0) HM.out.ln
      have g0 := frozen_of_row X w.heap.size 0 _ 34 HM.out.c
      have g1 := frozen_of_row X w.heap.size 1 _ 34 HM.out.c
      have g2 := frozen_of_row X w.heap.size 2 _ 34 HM.out.c
      have g3 := frozen_of_row X w.heap.size 3 _ 34 HM.out.c
      have g4 := frozen_of_row X (w.heap.size + 1) 0 _ 3 HM.out.ln
      go_upto_region 17 with (fail)
      go_region
      all_goals
        clear d0 d1 d2 d3 d4 g0 g1 g2 g3 g4 e0
        generalize hZ : World.drew _ = Z at RW ⊢
        clear hZ
        have GD := Lib.hid ((keeps_gg HM.out HN.out RW.out.2.2.2).same D _ HD.out HK.out rfl)
        go_wp2_with fail
        refine ⟨by simp, .inl ⟨_, _, rfl, run_takeDeferred GD.out, ?_⟩⟩
        have hDn : w.heap.size + 3 < D := by have := HD.out; have := HN.out; omega
        have r0 : (Z.putObj D (.deferred none)).cell? ⟨w.heap.size, 0, none⟩ = some (.int .i64 W) := (World.cell?_of_block (a := ⟨w.heap.size, 0, none⟩) (World.putObj_heap_other (by dsimp only; omega))).trans (by rw [cell_of_row Z w.heap.size 0 _ 34 (0, 0) RW.out.1]; rfl)
        have r1 : (Z.putObj D (.deferred none)).cell? ⟨w.heap.size, 1, none⟩ = some (.int .i64 R) := (World.cell?_of_block (a := ⟨w.heap.size, 1, none⟩) (World.putObj_heap_other (by dsimp only; omega))).trans (by rw [cell_of_row Z w.heap.size 1 _ 34 (0, 0) RW.out.1]; rfl)
        have r2 : (Z.putObj D (.deferred none)).cell? ⟨w.heap.size, 2, none⟩ = some (.slice pi acc.length ci) := (World.cell?_of_block (a := ⟨w.heap.size, 2, none⟩) (World.putObj_heap_other (by dsimp only; omega))).trans (by rw [cell_of_row Z w.heap.size 2 _ 34 (0, 0) RW.out.1]; rfl)
        have r3 : (Z.putObj D (.deferred none)).cell? ⟨w.heap.size, 3, none⟩ = some (.slice po out.length co) := (World.cell?_of_block (a := ⟨w.heap.size, 3, none⟩) (World.putObj_heap_other (by dsimp only; omega))).trans (by rw [cell_of_row Z w.heap.size 3 _ 34 (0, 0) RW.out.1]; rfl)
        have r4 : (Z.putObj D (.deferred none)).cell? ⟨w.heap.size + 1, 0, none⟩ = some (.int .i64 ((ys.length : Int) + 1)) := (World.cell?_of_block (a := ⟨w.heap.size + 1, 0, none⟩) (World.putObj_heap_other (by dsimp only; omega))).trans (by rw [cell_of_row Z (w.heap.size + 1) 0 _ 3 (0, 0) RW.out.2.1]; rfl)
        have rB : BK w (Z.putObj D (.deferred none)) := RW.out.2.2.1.bl.grown (grownBy_putObj' Z D (.deferred none)) RW.out.2.2.1.bl.size (fun k e => by cases e; omega)
        refine ⟨.tuple #[.agg #[.int .i64 W, .int .i64 R, .slice pi acc.length ci, .slice po out.length co], .int .i64 ((ys.length : Int) + 1)], by simp [results, Tryz.results56, go_sem, r0, r1, r2, r3, r4], ?_⟩
        exact ⟨W, R, pi, po, _, ci, _, co, ys.length + 1, rfl, rB, .inl ⟨ys.length + 1, by rw [rd_end HP.out, HLY.out], rfl, by omega⟩⟩
    | true =>
      have RW := Lib.hid (retW_plain (line := 0) HM.out.c HM.out.ln HM.out.bk (St.refl (GG w.heap.size (.slice pi acc.length ci) (.slice po out.length co)) X))
      have RR := Lib.hid (rows_ret HM.out HN.out (line := 0))
      unfold retW at RW RR
      have d0 := cell_of_row X w.heap.size 0 _ 34 (0, 0) HM.out.c
      have d1 := cell_of_row X w.heap.size 1 _ 34 (0, 0) HM.out.c
      have d2 := cell_of_row X w.heap.size 2 _ 34 (0, 0) HM.out.c
      have d3 := cell_of_row X w.heap.size 3 _ 34 (0, 0) HM.out.c
      have d4 := cell_of_row X (w.heap.size + 1) 0 _ 3 (0, 0) HM.out.ln
      have g0 := frozen_of_row X w.heap.size 0 _ 34 HM.out.c
      have g1 := frozen_of_row X w.heap.size 1 _ 34 HM.out.c
      have g2 := frozen_of_row X w.heap.size 2 _ 34 HM.out.c
      have g3 := frozen_of_row X w.heap.size 3 _ 34 HM.out.c
      have g4 := frozen_of_row X (w.heap.size + 1) 0 _ 3 HM.out.ln
      go_wp2_with fail
      generalize hZ : World.setCell _ ⟨w.heap.size + 1, 0, none⟩ (.int .i64 0) = Z at RW RR ⊢
      clear hZ
      have GD := Lib.hid ((keeps_gg HM.out HN.out RW.out.2.2.2).same D _ HD.out HK.out rfl)
      clear d0 d1 d2 d3 d4 g0 g1 g2 g3 g4 e0
      refine ⟨by simp, .inl ⟨_, _, rfl, run_takeDeferred GD.out, ?_⟩⟩
      have hDn : w.heap.size + 3 < D := by have := HD.out; have := HN.out; omega
      have r0 : (Z.putObj D (.deferred none)).cell? ⟨w.heap.size, 0, none⟩ = some (.int .i64 W) := (World.cell?_of_block (a := ⟨w.heap.size, 0, none⟩) (World.putObj_heap_other (by dsimp only; omega))).trans (by rw [cell_of_row Z w.heap.size 0 _ 34 (0, 0) RW.out.1]; rfl)
      have r1 : (Z.putObj D (.deferred none)).cell? ⟨w.heap.size, 1, none⟩ = some (.int .i64 R) := (World.cell?_of_block (a := ⟨w.heap.size, 1, none⟩) (World.putObj_heap_other (by dsimp only; omega))).trans (by rw [cell_of_row Z w.heap.size 1 _ 34 (0, 0) RW.out.1]; rfl)
      have r2 : (Z.putObj D (.deferred none)).cell? ⟨w.heap.size, 2, none⟩ = some (.slice pi acc.length ci) := (World.cell?_of_block (a := ⟨w.heap.size, 2, none⟩) (World.putObj_heap_other (by dsimp only; omega))).trans (by rw [cell_of_row Z w.heap.size 2 _ 34 (0, 0) RW.out.1]; rfl)
      have r3 : (Z.putObj D (.deferred none)).cell? ⟨w.heap.size, 3, none⟩ = some (.slice po out.length co) := (World.cell?_of_block (a := ⟨w.heap.size, 3, none⟩) (World.putObj_heap_other (by dsimp only; omega))).trans (by rw [cell_of_row Z w.heap.size 3 _ 34 (0, 0) RW.out.1]; rfl)
      have r4 : (Z.putObj D (.deferred none)).cell? ⟨w.heap.size + 1, 0, none⟩ = some (.int .i64 0) := (World.cell?_of_block (a := ⟨w.heap.size + 1, 0, none⟩) (World.putObj_heap_other (by dsimp only; omega))).trans (by rw [cell_of_row Z (w.heap.size + 1) 0 _ 3 (0, 0) RW.out.2.1]; rfl)
      have rB : BK w (Z.putObj D (.deferred none)) := RW.out.2.2.1.bl.grown (grownBy_putObj' Z D (.deferred none)) RW.out.2.2.1.bl.size (fun k e => by cases e; omega)
      refine ⟨.tuple #[.agg #[.int .i64 W, .int .i64 R, .slice pi acc.length ci, .slice po out.length co], .int .i64 0], by simp [results, Tryz.results56, go_sem, r0, r1, r2, r3, r4], ?_⟩
      exact ⟨W, R, pi, po, _, ci, _, co, 0, rfl, rB, .inr ⟨acc, out, rd_done HP.out, rfl, rfl, rfl, RI.own (ownsRow_putObj (RR.out.1) _ GD.out rfl), RO.own (ownsRow_putObj (RR.out.2) _ GD.out rfl), by have := HA.out; have := HYS.out; omega, HO.out, fun b o e => by have := own_ge HM.out.ro e; have := HN.out; omega⟩⟩
  case stop =>
    rintro D pre X hD ⟨rest, hS⟩ ⟨⟨W, R, pi, po, ni, ci, no, co, hc⟩, hl, hb, hi⟩ hK
    have hls : lsX pre ++ rest.map trm = lns (bl s) := by unfold lsX; rw [← List.map_append, hS]; exact trm_lns _
    have hres := hi (rest.map trm)
    rw [hls, lsX_len] at hres
    have hDn : w.heap.size + 3 < D := by omega
    have r0 : (X.putObj D (.deferred none)).cell? ⟨w.heap.size, 0, none⟩ = some (.int .i64 W) := (World.cell?_of_block (a := ⟨w.heap.size, 0, none⟩) (World.putObj_heap_other (by dsimp only; omega))).trans (by rw [cell_of_row X w.heap.size 0 _ 34 (0, 0) hc]; rfl)
    have r1 : (X.putObj D (.deferred none)).cell? ⟨w.heap.size, 1, none⟩ = some (.int .i64 R) := (World.cell?_of_block (a := ⟨w.heap.size, 1, none⟩) (World.putObj_heap_other (by dsimp only; omega))).trans (by rw [cell_of_row X w.heap.size 1 _ 34 (0, 0) hc]; rfl)
    have r2 : (X.putObj D (.deferred none)).cell? ⟨w.heap.size, 2, none⟩ = some (.slice pi ni ci) := (World.cell?_of_block (a := ⟨w.heap.size, 2, none⟩) (World.putObj_heap_other (by dsimp only; omega))).trans (by rw [cell_of_row X w.heap.size 2 _ 34 (0, 0) hc]; rfl)
    have r3 : (X.putObj D (.deferred none)).cell? ⟨w.heap.size, 3, none⟩ = some (.slice po no co) := (World.cell?_of_block (a := ⟨w.heap.size, 3, none⟩) (World.putObj_heap_other (by dsimp only; omega))).trans (by rw [cell_of_row X w.heap.size 3 _ 34 (0, 0) hc]; rfl)
    have r4 : (X.putObj D (.deferred none)).cell? ⟨w.heap.size + 1, 0, none⟩ = some (.int .i64 (pre.length : Int)) := (World.cell?_of_block (a := ⟨w.heap.size + 1, 0, none⟩) (World.putObj_heap_other (by dsimp only; omega))).trans (by rw [cell_of_row X (w.heap.size + 1) 0 _ 3 (0, 0) hl]; rfl)
    have rB : BK w (X.putObj D (.deferred none)) := hb.bl.grown (grownBy_putObj' X D (.deferred none)) hb.bl.size (fun k e => by cases e; omega)
    have HRES := Lib.hid hres
    have RB := Lib.hid rB
    have R0 := Lib.hid r0
    have R1 := Lib.hid r1
    have R2 := Lib.hid r2
    have R3 := Lib.hid r3
    have R4 := Lib.hid r4
    have HKK := Lib.hid hK
    clear hc hl hb hi hres r0 r1 r2 r3 r4 rB hK hS hls hn6 hw6
    gi_wp2
    refine ⟨by simp, .inl ⟨_, _, rfl, run_takeDeferred HKK.out, ?_⟩⟩
    have r0 := R0.out
    have r1 := R1.out
    have r2 := R2.out
    have r3 := R3.out
    have r4 := R4.out
    refine ⟨.tuple #[.agg #[.int .i64 W, .int .i64 R, .slice pi ni ci, .slice po no co], .int .i64 (pre.length : Int)], by simp [results, Tryz.results56, go_sem, r0, r1, r2, r3, r4], ?_⟩
    exact ⟨W, R, pi, po, ni, ci, no, co, pre.length, rfl, RB.out, .inl ⟨pre.length, HRES.out, rfl, prog_pos HRES.out⟩⟩
end Go.Proofs.YtneidfbgdgegjaaGreatDoor
