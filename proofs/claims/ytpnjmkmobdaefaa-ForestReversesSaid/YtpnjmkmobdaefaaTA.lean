/- The reference's search: the walk. -/
import Derived.Test.YtpnjmkmobdaefaaT
import Derived.Deep.DeepCutAuto
import Derived.StillTailTactics
namespace Go.Proofs.Ytpnjmkmobdaefaa
open Go.RowKit Go.Maps
set_option linter.unusedVariables false
set_option linter.unusedSimpArgs false

set_option maxRecDepth 100000 in
set_option maxHeartbeats 4000000 in
theorem walk_step (M : List L3) (hwf : WFR M.reverse) (hM : M.length ≤ 1000) (p : Option Addr) (c cu ub : Nat) (b : Int) (u : List Bool)
    (IH : ∀ (u' : List Bool) (x' : Int) (w' : World), nfree u' < nfree u → u'.length = M.length → RL w' p c M → US w' ub u' → Calls Try.prog 35 #[.slice p M.length c, .slice (some ⟨ub, 0, none⟩) M.length cu, .int .i64 x', .int .i64 b] w' (WKP w' M u' x' b ub))
    (x : Int) (w : World) (hu : u.length = M.length) (hr : RL w p c M) (hus : US w ub u) : Calls Try.prog 35 #[.slice p M.length c, .slice (some ⟨ub, 0, none⟩) M.length cu, .int .i64 x, .int .i64 b] w (WKP w M u x b ub) := by
  have HIH := Lib.hid IH
  have HR := Lib.hid hr
  have HU := Lib.hid hus
  have HL := Lib.hid hu
  have HW := Lib.hid hwf
  clear IH hr hus hu hwf
  generalize hn : M.length = n at *
  have HN := Lib.hid hn
  clear hn
  by_cases hxb : x = b
  · subst hxb
    go_enter Try.func35, Try.ntmps35
    go_wp2_with fail
    go_ret2
    exact ⟨some [], u, _, rfl, WSp.self M u x, World.ownsRow_nil _ _ _ _, HU.out, Step.refl _ _⟩
  · have HX := Lib.hid hxb
    have hxf : (x == b) = false := by simpa using hxb
    clear hxb
    go_enter Try.func35, Try.ntmps35
    go_wp2_with fail
    go_loopw [10] (fun a wr => ∃ i : Nat, ∃ uc, i ≤ n ∧ a = .int .i64 i ∧ LI M u x b i uc ∧ US wr ub uc ∧ Step w wr (ubF ub) (ubF ub)) (fun a _ => n - (intOf a).toNat)
    case atStart => exact ⟨0, u, by omega, rfl, LI.start M u x b, HU.out, Step.refl _ _⟩
    case round =>
      obtain ⟨i, uc, hi, rfl, hLI, hUS, hS⟩ := hrel
      have LIH := Lib.hid hLI
      have UH' := Lib.hid hUS
      have SH := Lib.hid hS
      have RH := Lib.hid (HR.out.step HU.out hS)
      have UL := Lib.hid (hLI.len.trans HL.out)
      clear hLI hUS hS
      by_cases e : i = n
      · subst e
        go_wp2_with fail
        go_ret2
        exact ⟨none, uc, _, rfl, LI.done (by rw [HN.out]; exact LIH.out) HX.out, World.ownsRow_nil _ _ _ _, UH'.out, SH.out⟩
      · have hlt : (i : Int) < (n : Int) := by omega
        have hiM : i < M.length := by rw [HN.out]; omega
        have hiu : i < uc.length := by rw [UL.out]; omega
        have cu0 := UH'.out.cell i
        rw [List.getElem?_map, List.getElem?_eq_getElem hiu] at cu0
        simp only [Option.map_some] at cu0
        have FRV := Lib.hid (show fr uc i ↔ uc[i] = false from by unfold fr; rw [List.getD_eq_getElem?_getD, List.getElem?_eq_getElem hiu]; simp)
        generalize uc[i] = ui at cu0 FRV
        cases ui with
        | true =>
          clear hiM hiu
          go_wp2_with fail
          go_roundw
          case rel => exact ⟨i + 1, uc, by omega, by go_num, LIH.out.skip1 (fun h => by have := FRV.out.1 h; cases this), UH'.out, SH.out⟩
          case measure => simp [intOf]; omega
        | false =>
          have FR := Lib.hid (FRV.out.2 rfl)
          clear FRV
          obtain ⟨lb, lo, rfl, hA⟩ := RH.out.get i hiM
          have HA := Lib.hid hA
          obtain ⟨A0, A1, A2⟩ := hA
          have ML := Lib.hid (List.getElem?_eq_getElem hiM)
          generalize M[i] = l at *
          obtain ⟨la, lb', ly⟩ := l
          dsimp only at *
          clear hiM hiu
          have KB := Lib.hid (bk_alloc (BK.refl wr) (.cells #[.int .i64 la, .int .i64 lb', .int .i64 ly] 44))
          have T25 := Lib.hid (turned25 la lb' ly)
          by_cases eb : lb' = x
          · subst eb
            go_wp2_with fail
            refine (T25.out _).mono ?_
            rintro e w1 ⟨rfl, hb1⟩
            have B1 := Lib.hid hb1
            have hbx := (bk_block hb1 (by simp : wr.heap.size < _)).trans (heap_alloc_new wr (.cells #[.int .i64 la, .int .i64 lb', .int .i64 ly] 44))
            have x0 := cell_of_row w1 wr.heap.size 0 _ 44 (0, 0) hbx
            have x1 := cell_of_row w1 wr.heap.size 1 _ 44 (0, 0) hbx
            have x2 := cell_of_row w1 wr.heap.size 2 _ 44 (0, 0) hbx
            have f0 := frozen_of_row w1 wr.heap.size 0 _ 44 hbx
            have f1 := frozen_of_row w1 wr.heap.size 1 _ 44 hbx
            have f2 := frozen_of_row w1 wr.heap.size 2 _ 44 hbx
            have HBX := Lib.hid hbx
            clear hb1 hbx
            go_upto_region 10 with (fail)
            have BB := Lib.hid (show (((w1.setCell ⟨wr.heap.size, 0, none⟩ (.int .i64 lb')).setCell ⟨wr.heap.size, 1, none⟩ (.int .i64 la)).setCell ⟨wr.heap.size, 2, none⟩ (.int .i64 ly)).heap[wr.heap.size]? = some (.cells (c3 ⟨lb', la, ly⟩) 44 (0, 0)) from by
              rw [heap_setCell_same _ wr.heap.size 2 _ 44 _ (heap_setCell_same _ wr.heap.size 1 _ 44 _ (heap_setCell_same w1 wr.heap.size 0 _ 44 _ HBX.out))]; rfl)
            have KK := Lib.hid (bk_set (bk_set (bk_set (bk_tr KB.out B1.out) ⟨wr.heap.size, 0, none⟩ (.int .i64 lb') (Nat.le_refl _)) ⟨wr.heap.size, 1, none⟩ (.int .i64 la) (Nat.le_refl _)) ⟨wr.heap.size, 2, none⟩ (.int .i64 ly) (Nat.le_refl _))
            clear x0 x1 x2 f0 f1 f2 A0 A1 A2 T25
            generalize ((w1.setCell ⟨wr.heap.size, 0, none⟩ (.int .i64 lb')).setCell ⟨wr.heap.size, 1, none⟩ (.int .i64 la)).setCell ⟨wr.heap.size, 2, none⟩ (.int .i64 ly) = wk at BB KK ⊢
            have UW := Lib.hid (UH'.out.bk KK.out)
            have cu1 := cellBk cu0 KK.out
            have fu1 := UW.out.free i
            have b0 := cell_of_row wk wr.heap.size 0 _ 44 (0, 0) BB.out
            have b1 := cell_of_row wk wr.heap.size 1 _ 44 (0, 0) BB.out
            have b2 := cell_of_row wk wr.heap.size 2 _ 44 (0, 0) BB.out
            unfold c3 at b0 b1 b2
            have hsu : wr.heap.size ≠ ub := by have := UH'.out.lt; omega
            have U2 := Lib.hid (UW.out.set i)
            have S2 := Lib.hid (SH.out.trans ((Step.bk KK.out).trans (step_set i (.bool true))))
            have bx2 := (heap_setCell_other wk ⟨ub, i, none⟩ wr.heap.size (.bool true) hsu).trans BB.out
            have BX2 := Lib.hid bx2
            have II := Lib.hid (HIH.out (uc.set i true) la (wk.setCell ⟨ub, i, none⟩ (.bool true)) (Nat.lt_of_lt_of_le (nfree_set FR.out) (nfree_le LIH.out.len LIH.out.mono)) (by rw [List.length_set]; exact UL.out) (HR.out.step HU.out S2.out) U2.out)
            have x1 := cell_of_row _ wr.heap.size 1 _ 44 (0, 0) bx2
            unfold c3 at x1
            clear bx2
            go_wp2_with fail
            refine II.out.mono ?_
            rintro e w5 ⟨r2, u2, v2, rfl, hws, how, hus, hst⟩
            have HWS := Lib.hid hws
            have HUS := Lib.hid hus
            have HST := Lib.hid hst
            have LT := Lib.hid (show wr.heap.size < (wk.setCell ⟨ub, i, none⟩ (.bool true)).heap.size from (Array.getElem?_eq_some_iff.1 BX2.out).1)
            have bx5 := (hst.block wr.heap.size LT.out hsu).trans BX2.out
            have y0 := cell_of_row w5 wr.heap.size 0 _ 44 (0, 0) bx5
            have y1 := cell_of_row w5 wr.heap.size 1 _ 44 (0, 0) bx5
            have y2 := cell_of_row w5 wr.heap.size 2 _ 44 (0, 0) bx5
            unfold c3 at y0 y1 y2
            have HO := Lib.hid how
            have H5 := Lib.hid (show w.heap.size ≤ w5.heap.size from (S2.out.trans hst).size)
            obtain ⟨p2, c2, rfl⟩ := own_shape how
            clear hws hus hst bx5 how cu1 fu1 b0 b1 b2 x1 II
            cases r2 with
            | none =>
              simp only [Option.isSome_none, Option.getD_none, List.length_nil]
              go_wp2_with fail
              go_roundw
              case rel => exact ⟨i + 1, u2, by omega, by go_num, LIH.out.fail HW.out ML.out (.inr ⟨rfl, rfl⟩) FR.out HWS.out, HUS.out, S2.out.trans HST.out⟩
              case measure => simp [intOf]; omega
            | some pth =>
              simp only [Option.isSome_some, Option.getD_some] at HO ⊢
              have hpl : pth.length ≤ 1000 := by have := HWS.out.small; have := HN.out; omega
              go_wp2_with (at_builtin; refine wpList_app3 rfl _ _ rfl w5.heap.size _ [⟨lb', la, ly⟩] rfl (own_fresh3 w5 ⟨lb', la, ly⟩) p2 c2 pth rfl ((RL.own HO.out).keep (bk_alloc (BK.refl w5) _)) (by simp; omega) (by simp) ?_)
              intro v' w6 ho6 hb6
              have HO6 := Lib.hid ho6
              have HB6 := Lib.hid (show BK w5 w6 from Below.trans (bk_alloc (BK.refl w5) _) hb6)
              obtain ⟨p6, c6, rfl⟩ := own_shape ho6
              clear ho6 hb6
              go_wp2_with fail
              go_ret2
              exact ⟨some (⟨lb', la, ly⟩ :: pth), u2, _, rfl, LIH.out.found ML.out (.inr ⟨rfl, rfl⟩) FR.out HWS.out, own_mono HO6.out H5.out, HUS.out.bk HB6.out, (S2.out.trans HST.out).trans (Step.bk HB6.out)⟩
          · by_cases ea : la = x
            · subst ea
              have eb' : (lb' == la) = false := by simpa using eb
              go_upto_region 10 with (fail)
              have BB := Lib.hid (heap_alloc_new wr (.cells (c3 ⟨la, lb', ly⟩) 44))
              have KK := Lib.hid (bk_alloc (BK.refl wr) (.cells (c3 ⟨la, lb', ly⟩) 44))
              unfold c3 at KK
              rw [show c3 ⟨la, lb', ly⟩ = #[.int .i64 la, .int .i64 lb', .int .i64 ly] from rfl] at BB
              clear A0 A1 A2 T25
              generalize wr.alloc (.cells #[.int .i64 la, .int .i64 lb', .int .i64 ly] 44) = wk at BB KK ⊢
              have UW := Lib.hid (UH'.out.bk KK.out)
              have cu1 := cellBk cu0 KK.out
              have fu1 := UW.out.free i
              have b0 := cell_of_row wk wr.heap.size 0 _ 44 (0, 0) BB.out
              have b1 := cell_of_row wk wr.heap.size 1 _ 44 (0, 0) BB.out
              have b2 := cell_of_row wk wr.heap.size 2 _ 44 (0, 0) BB.out
              have hsu : wr.heap.size ≠ ub := by have := UH'.out.lt; omega
              have U2 := Lib.hid (UW.out.set i)
              have S2 := Lib.hid (SH.out.trans ((Step.bk KK.out).trans (step_set i (.bool true))))
              have bx2 := (heap_setCell_other wk ⟨ub, i, none⟩ wr.heap.size (.bool true) hsu).trans BB.out
              have BX2 := Lib.hid bx2
              have II := Lib.hid (HIH.out (uc.set i true) lb' (wk.setCell ⟨ub, i, none⟩ (.bool true)) (Nat.lt_of_lt_of_le (nfree_set FR.out) (nfree_le LIH.out.len LIH.out.mono)) (by rw [List.length_set]; exact UL.out) (HR.out.step HU.out S2.out) U2.out)
              have x1 := cell_of_row _ wr.heap.size 1 _ 44 (0, 0) bx2
              clear bx2
              go_wp2_with fail
              refine II.out.mono ?_
              rintro e w5 ⟨r2, u2, v2, rfl, hws, how, hus, hst⟩
              have HWS := Lib.hid hws
              have HUS := Lib.hid hus
              have HST := Lib.hid hst
              have LT := Lib.hid (show wr.heap.size < (wk.setCell ⟨ub, i, none⟩ (.bool true)).heap.size from (Array.getElem?_eq_some_iff.1 BX2.out).1)
              have bx5 := (hst.block wr.heap.size LT.out hsu).trans BX2.out
              have y0 := cell_of_row w5 wr.heap.size 0 _ 44 (0, 0) bx5
              have y1 := cell_of_row w5 wr.heap.size 1 _ 44 (0, 0) bx5
              have y2 := cell_of_row w5 wr.heap.size 2 _ 44 (0, 0) bx5
              have HO := Lib.hid how
              have H5 := Lib.hid (show w.heap.size ≤ w5.heap.size from (S2.out.trans hst).size)
              obtain ⟨p2, c2, rfl⟩ := own_shape how
              clear hws hus hst bx5 how cu1 fu1 b0 b1 b2 x1 II
              cases r2 with
              | none =>
                simp only [Option.isSome_none, Option.getD_none, List.length_nil]
                go_wp2_with fail
                go_roundw
                case rel => exact ⟨i + 1, u2, by omega, by go_num, LIH.out.fail HW.out ML.out (.inl ⟨rfl, rfl⟩) FR.out HWS.out, HUS.out, S2.out.trans HST.out⟩
                case measure => simp [intOf]; omega
              | some pth =>
                simp only [Option.isSome_some, Option.getD_some] at HO ⊢
                have hpl : pth.length ≤ 1000 := by have := HWS.out.small; have := HN.out; omega
                go_wp2_with (at_builtin; refine wpList_app3 rfl _ _ rfl w5.heap.size _ [⟨la, lb', ly⟩] rfl (own_fresh3 w5 ⟨la, lb', ly⟩) p2 c2 pth rfl ((RL.own HO.out).keep (bk_alloc (BK.refl w5) _)) (by simp; omega) (by simp) ?_)
                intro v' w6 ho6 hb6
                have HO6 := Lib.hid ho6
                have HB6 := Lib.hid (show BK w5 w6 from Below.trans (bk_alloc (BK.refl w5) _) hb6)
                obtain ⟨p6, c6, rfl⟩ := own_shape ho6
                clear ho6 hb6
                go_wp2_with fail
                go_ret2
                exact ⟨some (⟨la, lb', ly⟩ :: pth), u2, _, rfl, LIH.out.found ML.out (.inl ⟨rfl, rfl⟩) FR.out HWS.out, own_mono HO6.out H5.out, HUS.out.bk HB6.out, (S2.out.trans HST.out).trans (Step.bk HB6.out)⟩
            · have eb' : (lb' == x) = false := by simpa using eb
              have ea' : (la == x) = false := by simpa using ea
              go_wp2_with fail
              go_roundw
              case rel => exact ⟨i + 1, uc, by omega, by go_num, LIH.out.skip2 ML.out ea eb, UH'.out.bk KB.out, SH.out.alloc _⟩
              case measure => simp [intOf]; omega
end Go.Proofs.Ytpnjmkmobdaefaa
