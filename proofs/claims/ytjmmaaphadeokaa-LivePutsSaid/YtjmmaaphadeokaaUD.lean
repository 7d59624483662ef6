/- The examples of the document. -/
import Derived.Test.YtjmmaaphadeokaaUC
namespace Go.Proofs.Ytjmmaaphadeokaa
open Go.RowKit Go.Shelf
set_option linter.unusedVariables false
set_option linter.unusedSimpArgs false
def i1 : I6 := ⟨1, 0, 0, 0, 0, 1⟩
def i2 : I6 := ⟨1, 0, 0, 0, 0, 2⟩
theorem ex_chk : chkE 8 1 [i1, i2] [0] = 0 := by decide +kernel
theorem ex_rem : removeL [0] [i1, i2] = [i2] := rfl
theorem ex_d0 : deadAt 8 1 [i1, i2] [0] 0 = true := by
  unfold deadAt
  rw [dif_pos ⟨ex_chk, by omega, by simp⟩]
  decide +kernel
theorem ex_d1 : deadAt 8 1 [i1, i2] [0] 1 = false := by
  unfold deadAt
  rw [dif_pos ⟨ex_chk, by omega, by simp⟩]
  decide +kernel
theorem ex_inp : inpL 8 1 [i1, i2] [0] = [] := by
  unfold inpL
  rw [if_pos ex_chk]
  decide +kernel
def C12 : Array Value := #[.int .i64 1, .int .i64 0, .int .i64 0, .int .i64 0, .int .i64 0, .int .u64 1, .int .i64 1, .int .i64 0, .int .i64 0, .int .i64 0, .int .i64 0, .int .u64 2]
theorem ri_ex {w : World} {g : Nat} {t : TypeId} (h : w.heap[g]? = some (.cells C12 t (0, 0))) : RI w (some ⟨g, 0, none⟩) 2 [i1, i2] := by
  refine ⟨fun h => (by cases h), Nat.le_refl _, fun k hk => ⟨g, 0, rfl, ?_⟩⟩
  match k, hk with
  | 0, _ => refine ⟨?_, ?_, ?_, ?_, ?_, ?_⟩ <;> (rw [cell_of_row w _ _ _ _ _ h]; rfl)
  | 1, _ => refine ⟨?_, ?_, ?_, ?_, ?_, ?_⟩ <;> (rw [cell_of_row w _ _ _ _ _ h]; rfl)
theorem ro_ex {w : World} {g : Nat} {t : TypeId} (h : w.heap[g]? = some (.cells #[.int .i64 0] t (0, 0))) : RO w (some ⟨g, 0, none⟩) 1 [0] := by
  refine ⟨fun h => (by cases h), Nat.le_refl _, fun k hk => ⟨g, 0, rfl, ?_⟩⟩
  match k, hk with
  | 0, _ => rw [cell_of_row w _ _ _ _ _ h]; rfl
def CX (g1 g2 : Nat) : Value := .agg #[.int .i64 8, .int .i64 1, .slice (some ⟨g1, 0, none⟩) 2 2, .slice (some ⟨g2, 0, none⟩) 1 1]
set_option maxRecDepth 100000 in
set_option maxHeartbeats 2000000 in
theorem lives11 (w : World) : Calls Try.prog 11 #[] w fun e w' => e = .returned (.bool true) ∧ BK w w' := by
  have h0 : (((w.alloc (.cells #[.int .i64 1, .int .i64 0, .int .i64 0, .int .i64 0, .int .i64 0, .int .u64 1, .int .i64 1, .int .i64 0, .int .i64 0, .int .i64 0, .int .i64 0, .int .u64 2] 54)).alloc (.cells #[.int .i64 0] 3)).alloc (.cells #[.int .i64 8, .int .i64 1, .slice (some ⟨w.heap.size, 0, none⟩) 2 2, .slice (some ⟨w.heap.size + 1, 0, none⟩) 1 1] 25)).heap[w.heap.size]? = some (.cells #[.int .i64 1, .int .i64 0, .int .i64 0, .int .i64 0, .int .i64 0, .int .u64 1, .int .i64 1, .int .i64 0, .int .i64 0, .int .i64 0, .int .i64 0, .int .u64 2] 54 (0, 0)) :=
    (heap_alloc_old _ _ (by simp; omega)).trans ((heap_alloc_old _ _ (by simp)).trans (heap_alloc_new w _))
  have h1 : (((w.alloc (.cells #[.int .i64 1, .int .i64 0, .int .i64 0, .int .i64 0, .int .i64 0, .int .u64 1, .int .i64 1, .int .i64 0, .int .i64 0, .int .i64 0, .int .i64 0, .int .u64 2] 54)).alloc (.cells #[.int .i64 0] 3)).alloc (.cells #[.int .i64 8, .int .i64 1, .slice (some ⟨w.heap.size, 0, none⟩) 2 2, .slice (some ⟨w.heap.size + 1, 0, none⟩) 1 1] 25)).heap[w.heap.size + 1]? = some (.cells #[.int .i64 0] 3 (0, 0)) := by
    have e := heap_alloc_new (w.alloc (.cells #[.int .i64 1, .int .i64 0, .int .i64 0, .int .i64 0, .int .i64 0, .int .u64 1, .int .i64 1, .int .i64 0, .int .i64 0, .int .i64 0, .int .i64 0, .int .u64 2] 54)) (.cells #[.int .i64 0] 3)
    rw [sz1] at e
    exact (heap_alloc_old _ _ (by simp)).trans e
  have h2 := W4.new ((w.alloc (.cells #[.int .i64 1, .int .i64 0, .int .i64 0, .int .i64 0, .int .i64 0, .int .u64 1, .int .i64 1, .int .i64 0, .int .i64 0, .int .i64 0, .int .i64 0, .int .u64 2] 54)).alloc (.cells #[.int .i64 0] 3)) (.int .i64 8) (.int .i64 1) (.slice (some ⟨w.heap.size, 0, none⟩) 2 2) (.slice (some ⟨w.heap.size + 1, 0, none⟩) 1 1)
  rw [sz1, sz1] at h2
  have k0 := bk_alloc (bk_alloc (bk_alloc (BK.refl w) (.cells #[.int .i64 1, .int .i64 0, .int .i64 0, .int .i64 0, .int .i64 0, .int .u64 1, .int .i64 1, .int .i64 0, .int .i64 0, .int .i64 0, .int .i64 0, .int .u64 2] 54)) (.cells #[.int .i64 0] 3)) (.cells #[.int .i64 8, .int .i64 1, .slice (some ⟨w.heap.size, 0, none⟩) 2 2, .slice (some ⟨w.heap.size + 1, 0, none⟩) 1 1] 25)
  go_enter Try.func11, Try.ntmps11
  go_upto_region 2 with (fail)
  generalize ((w.alloc (.cells #[.int .i64 1, .int .i64 0, .int .i64 0, .int .i64 0, .int .i64 0, .int .u64 1, .int .i64 1, .int .i64 0, .int .i64 0, .int .i64 0, .int .i64 0, .int .u64 2] 54)).alloc (.cells #[.int .i64 0] 3)).alloc (.cells #[.int .i64 8, .int .i64 1, .slice (some ⟨w.heap.size, 0, none⟩) 2 2, .slice (some ⟨w.heap.size + 1, 0, none⟩) 1 1] 25) = w0 at h0 h1 h2 k0 ⊢
  have HI := Lib.hid (ri_ex h0)
  have HO := Lib.hid (ro_ex h1)
  have HW := Lib.hid h2
  have K0 := Lib.hid k0
  have HR := Lib.hid (fun (wc : World) (hb : BK w0 wc) => remove19 8 1 (some ⟨w.heap.size, 0, none⟩) (some ⟨w.heap.size + 1, 0, none⟩) 2 1 [i1, i2] [0] wc ((ri_ex h0).keep hb) ((ro_ex h1).keep hb) (by simp) (by simp))
  have HD := Lib.hid (fun (x : Int) (wc : World) (hb : BK w0 wc) => dead21 8 1 (some ⟨w.heap.size, 0, none⟩) (some ⟨w.heap.size + 1, 0, none⟩) 2 1 [i1, i2] [0] wc ((ri_ex h0).keep hb) ((ro_ex h1).keep hb) (by simp) (by simp) x)
  have HN := Lib.hid (fun (wc : World) (hb : BK w0 wc) => inputs16 8 1 (some ⟨w.heap.size, 0, none⟩) (some ⟨w.heap.size + 1, 0, none⟩) 2 1 [i1, i2] [0] wc ((ri_ex h0).keep hb) ((ro_ex h1).keep hb) (by simp) (by simp))
  have hf := h2.b4
  obtain ⟨c0, c1, c2, c3⟩ := hf
  clear h0 h1 h2 k0
  go_wp2_with fail
  refine (HR.out w0 (BK.refl _)).mono ?_
  rintro e w1 (⟨-, p', pc', q', qc', rfl, hi1, ho1, hb1⟩ | ⟨h, -⟩)
  rotate_left
  · exact absurd ex_chk h
  rw [ex_rem] at hi1 ⊢
  have K1 := Lib.hid hb1
  obtain ⟨b, o, rfl, hc⟩ := hi1.get 0 (by simp)
  have HA := Lib.hid hc
  clear hi1 ho1 hb1 c0 c1 c2 c3 hc
  go_upto_region 3 with (fail)
  have hd := W4.new w1 (.int .i64 8) (.int .i64 1) (.slice (some ⟨b, o, none⟩) 1 pc') (.slice q' 1 qc')
  have k2 := bk_alloc K1.out (.cells #[.int .i64 8, .int .i64 1, .slice (some ⟨b, o, none⟩) 1 pc', .slice q' 1 qc'] 25)
  have hi5 : (w1.alloc (.cells #[.int .i64 8, .int .i64 1, .slice (some ⟨b, o, none⟩) 1 pc', .slice q' 1 qc'] 25)).cell? ⟨b, o + 5, none⟩ = some (.int .u64 2) := by
    have h := (HA.out.keep (bk_alloc (BK.refl w1) (.cells #[.int .i64 8, .int .i64 1, .slice (some ⟨b, o, none⟩) 1 pc', .slice q' 1 qc'] 25))).2.2.2.2.2
    simpa [i2] using h
  have e1 : ([i2] : List I6).length = 1 := rfl
  have e2 : ([0] : List Int).length = 1 := rfl
  try rw [e1, e2]
  clear e1 e2
  have CD0 := Lib.hid (fun wc hb => by have := HD.out 0 wc hb; rw [ex_d0] at this; exact (show Calls Try.prog 21 #[.agg #[.int .i64 8, .int .i64 1, .slice (some ⟨w.heap.size, 0, none⟩) 2 2, .slice (some ⟨w.heap.size + 1, 0, none⟩) 1 1], .int .i64 0] wc (fun e w' => e = .returned (.bool true) ∧ BK wc w') from this))
  have CD1 := Lib.hid (fun wc hb => by have := HD.out 1 wc hb; rw [ex_d1] at this; exact (show Calls Try.prog 21 #[.agg #[.int .i64 8, .int .i64 1, .slice (some ⟨w.heap.size, 0, none⟩) 2 2, .slice (some ⟨w.heap.size + 1, 0, none⟩) 1 1], .int .i64 1] wc (fun e w' => e = .returned (.bool false) ∧ BK wc w') from this))
  have CN := Lib.hid (fun wc hb => by have := HN.out wc hb; rw [ex_inp] at this; exact (show Calls Try.prog 16 #[.agg #[.int .i64 8, .int .i64 1, .slice (some ⟨w.heap.size, 0, none⟩) 2 2, .slice (some ⟨w.heap.size + 1, 0, none⟩) 1 1]] wc (LP [] wc) from this))
  generalize hA : w1.alloc (.cells #[.int .i64 8, .int .i64 1, .slice (some ⟨b, o, none⟩) 1 pc', .slice q' 1 qc'] 25) = w2 at hd k2 hi5 ⊢
  clear hA
  generalize w1.heap.size = t2 at hd ⊢
  have HDD := Lib.hid hd
  have K2 := Lib.hid k2
  have HI5 := Lib.hid hi5
  have hlt5 : b < w2.heap.size := World.block_lt_of_cell? w2 _ hi5
  obtain ⟨c0, c1, c2, c3⟩ := HW.out.b4.keep k2
  clear hd k2 hi5 HA HI HO HR HD HN
  go_wp2_with fail
  refine (CD0.out w2 K2.out).mono ?_
  rintro e w3 ⟨rfl, hb3⟩
  have K3 := Lib.hid (bk_tr K2.out hb3)
  have J3 := Lib.hid hb3
  obtain ⟨d0, d1, d2, d3⟩ := HW.out.b4.keep K3.out
  clear hb3 c0 c1 c2 c3
  go_wp2_with fail
  refine (CD1.out w3 K3.out).mono ?_
  rintro e w4 ⟨rfl, hb4⟩
  have K4 := Lib.hid (bk_tr K3.out hb4)
  have J4 := Lib.hid (bk_tr J3.out hb4)
  obtain ⟨c0, c1, c2, c3⟩ := HW.out.b4.keep K4.out
  clear hb4 d0 d1 d2 d3
  go_wp2_with fail
  refine (CN.out w4 K4.out).mono ?_
  rintro e w5 ⟨v, rfl, ho5, hb5⟩
  have K5 := Lib.hid (bk_tr K4.out hb5)
  have J5 := Lib.hid (bk_tr J4.out hb5)
  obtain ⟨pv, cv, rfl⟩ := own_shape ho5
  obtain ⟨d0, d1, d2, d3⟩ := (HDD.out.keep J5.out).b4
  have d5 := (J5.out.bl.cell (p := ⟨b, o + 5, none⟩) hlt5).trans HI5.out
  clear hb5 ho5 c0 c1 c2 c3
  go_wp2_with fail
  go_ret
  exact ⟨rfl, bk_tr K0.out K5.out⟩
end Go.Proofs.Ytjmmaaphadeokaa
