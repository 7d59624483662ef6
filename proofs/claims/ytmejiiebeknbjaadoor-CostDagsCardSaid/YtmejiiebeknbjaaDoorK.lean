/- The cost of shared terms. -/
import Derived.Test.YtmejiiebeknbjaaDoorJ
import Derived.Laws.EntriesVeiled
namespace Go.Proofs.YtmejiiebeknbjaaDoor
open Go.RowKit Go.Maps
set_option linter.unusedVariables false
set_option linter.unusedSimpArgs false
theorem dg0 (w : World) (cs : List Int) : DG (((((w.alloc (.cells (ca cs) 23)).alloc (.cells #[.int .i64 0] 2)).alloc (.map #[] 0)).alloc (.cells #[.map (some (w.heap.size + 1 + 1))] 50)).alloc (.cells #[.func (Fn.func 26) #[] #[.pointer (some ⟨w.heap.size + 1 + 1 + 1 + 1, 0, none⟩), .pointer (some ⟨w.heap.size + 1 + 1 + 1, 0, none⟩), .pointer (some ⟨w.heap.size + 1, 0, none⟩), .pointer (some ⟨w.heap.size, 0, none⟩)]] 43)) (w.heap.size + 1 + 1 + 1 + 1) (w.heap.size + 1 + 1 + 1) (w.heap.size + 1) w.heap.size (w.heap.size + 1 + 1) cs [] := by
  have s1 : (w.alloc (.cells (ca cs) 23)).heap.size = w.heap.size + 1 := by simp
  have s2 : ((w.alloc (.cells (ca cs) 23)).alloc (.cells #[.int .i64 0] 2)).heap.size = w.heap.size + 1 + 1 := by simp
  have s3 : (((w.alloc (.cells (ca cs) 23)).alloc (.cells #[.int .i64 0] 2)).alloc (.map #[] 0)).heap.size = w.heap.size + 1 + 1 + 1 := by simp
  have s4 : ((((w.alloc (.cells (ca cs) 23)).alloc (.cells #[.int .i64 0] 2)).alloc (.map #[] 0)).alloc (.cells #[.map (some (w.heap.size + 1 + 1))] 50)).heap.size = w.heap.size + 1 + 1 + 1 + 1 := by simp
  have hc : (((((w.alloc (.cells (ca cs) 23)).alloc (.cells #[.int .i64 0] 2)).alloc (.map #[] 0)).alloc (.cells #[.map (some (w.heap.size + 1 + 1))] 50)).alloc (.cells #[.func (Fn.func 26) #[] #[.pointer (some ⟨w.heap.size + 1 + 1 + 1 + 1, 0, none⟩), .pointer (some ⟨w.heap.size + 1 + 1 + 1, 0, none⟩), .pointer (some ⟨w.heap.size + 1, 0, none⟩), .pointer (some ⟨w.heap.size, 0, none⟩)]] 43)).heap[w.heap.size]? = some (.cells (ca cs) 23 (0, 0)) := by
    rw [heap_alloc_old _ _ (by rw [s4]; omega), heap_alloc_old _ _ (by rw [s3]; omega), heap_alloc_old _ _ (by rw [s2]; omega), heap_alloc_old _ _ (by rw [s1]; omega)]
    exact heap_alloc_new w _
  have hs : (((((w.alloc (.cells (ca cs) 23)).alloc (.cells #[.int .i64 0] 2)).alloc (.map #[] 0)).alloc (.cells #[.map (some (w.heap.size + 1 + 1))] 50)).alloc (.cells #[.func (Fn.func 26) #[] #[.pointer (some ⟨w.heap.size + 1 + 1 + 1 + 1, 0, none⟩), .pointer (some ⟨w.heap.size + 1 + 1 + 1, 0, none⟩), .pointer (some ⟨w.heap.size + 1, 0, none⟩), .pointer (some ⟨w.heap.size, 0, none⟩)]] 43)).heap[w.heap.size + 1]? = some (.cells #[.int .i64 0] 2 (0, 0)) := by
    rw [heap_alloc_old _ _ (by rw [s4]; omega), heap_alloc_old _ _ (by rw [s3]; omega), heap_alloc_old _ _ (by rw [s2]; omega), ← s1]
    exact heap_alloc_new _ _
  have hq : (((((w.alloc (.cells (ca cs) 23)).alloc (.cells #[.int .i64 0] 2)).alloc (.map #[] 0)).alloc (.cells #[.map (some (w.heap.size + 1 + 1))] 50)).alloc (.cells #[.func (Fn.func 26) #[] #[.pointer (some ⟨w.heap.size + 1 + 1 + 1 + 1, 0, none⟩), .pointer (some ⟨w.heap.size + 1 + 1 + 1, 0, none⟩), .pointer (some ⟨w.heap.size + 1, 0, none⟩), .pointer (some ⟨w.heap.size, 0, none⟩)]] 43)).heap[w.heap.size + 1 + 1 + 1]? = some (.cells #[.map (some (w.heap.size + 1 + 1))] 50 (0, 0)) := by
    rw [heap_alloc_old _ _ (by rw [s4]; omega), ← s3]
    exact heap_alloc_new _ _
  have hn : (((((w.alloc (.cells (ca cs) 23)).alloc (.cells #[.int .i64 0] 2)).alloc (.map #[] 0)).alloc (.cells #[.map (some (w.heap.size + 1 + 1))] 50)).alloc (.cells #[.func (Fn.func 26) #[] #[.pointer (some ⟨w.heap.size + 1 + 1 + 1 + 1, 0, none⟩), .pointer (some ⟨w.heap.size + 1 + 1 + 1, 0, none⟩), .pointer (some ⟨w.heap.size + 1, 0, none⟩), .pointer (some ⟨w.heap.size, 0, none⟩)]] 43)).heap[w.heap.size + 1 + 1 + 1 + 1]? = some (.cells #[.func (Fn.func 26) #[] #[.pointer (some ⟨w.heap.size + 1 + 1 + 1 + 1, 0, none⟩), .pointer (some ⟨w.heap.size + 1 + 1 + 1, 0, none⟩), .pointer (some ⟨w.heap.size + 1, 0, none⟩), .pointer (some ⟨w.heap.size, 0, none⟩)]] 43 (0, 0)) := by
    rw [← s4]
    exact heap_alloc_new _ _
  have hm : (((w.alloc (.cells (ca cs) 23)).alloc (.cells #[.int .i64 0] 2)).alloc (.map #[] 0)).ownsMap Tryd.prog 53 (plainElem Tryd.prog 3) (w.heap.size + 1 + 1) 0 (.map ([] : List (Lit × DataW Unit))) := by
    rw [← s2]; exact World.ownsMap_made _ _ _ _
  refine ⟨by rw [cell_of_row _ _ _ _ _ _ hn]; rfl, by rw [cell_of_row _ _ _ _ _ _ hq]; rfl, by rw [cell_of_row _ _ _ _ _ _ hs]; rfl, ?_, hc, ⟨.map [], (hm.alloc _).alloc _, md_nil⟩, by omega, by omega, by omega⟩
  simp only [World.frozen?, hs]
  rfl
set_option maxRecDepth 100000 in
set_option maxHeartbeats 2000000 in
theorem dag18 (cs : List Int) (hcs : cs.length = 32) (ts : List T) (w : World) (p : Option Addr) (c : Nat) (hr : Row w p c ts) (htb : Tb w) (hsz : sizeL ts ≤ 1000) :
    Calls Tryd.prog 18 #[.agg (ca cs), .slice p ts.length c] w fun e w' => e = .returned (.int .i64 (sumC cs (subsL [] ts))) ∧ BK w w' := by
  have hmm := @run_makeMap Tryd.prog
  have hlen := hr.len
  unfold maxLen at hlen
  have HR := Lib.hid (fun wc (hb : BK w wc) => hr.keep hb)
  have HT := Lib.hid htb
  have hX : ((((w.alloc (.cells (ca cs) 23)).alloc (.cells #[.int .i64 0] 2)).alloc (.map #[] 0)).alloc (.cells #[.map (some (w.heap.size + 1 + 1))] 50)).heap.size = w.heap.size + 1 + 1 + 1 + 1 := by simp
  have hc : (((((w.alloc (.cells (ca cs) 23)).alloc (.cells #[.int .i64 0] 2)).alloc (.map #[] 0)).alloc (.cells #[.map (some (w.heap.size + 1 + 1))] 50)).alloc (.cells #[.nilFunc] 43)).cell? ⟨w.heap.size + 1 + 1 + 1 + 1, 0, none⟩ = some .nilFunc := by rw [← hX, World.cell?_alloc_new]; rfl
  have hf : (((((w.alloc (.cells (ca cs) 23)).alloc (.cells #[.int .i64 0] 2)).alloc (.map #[] 0)).alloc (.cells #[.map (some (w.heap.size + 1 + 1))] 50)).alloc (.cells #[.nilFunc] 43)).frozen? ⟨w.heap.size + 1 + 1 + 1 + 1, 0, none⟩ = false := by rw [← hX, World.frozen?_alloc_new]
  have hdg := Lib.hid (dg0 w cs)
  have hbk : BK w (((((w.alloc (.cells (ca cs) 23)).alloc (.cells #[.int .i64 0] 2)).alloc (.map #[] 0)).alloc (.cells #[.map (some (w.heap.size + 1 + 1))] 50)).alloc (.cells #[.func (Fn.func 26) #[] #[.pointer (some ⟨w.heap.size + 1 + 1 + 1 + 1, 0, none⟩), .pointer (some ⟨w.heap.size + 1 + 1 + 1, 0, none⟩), .pointer (some ⟨w.heap.size + 1, 0, none⟩), .pointer (some ⟨w.heap.size, 0, none⟩)]] 43)) := bk_alloc (bk_alloc (bk_alloc (bk_alloc (bk_alloc (BK.refl w) _) _) _) _) _
  have HBK := Lib.hid hbk
  clear hX hr htb hbk
  go_enter Tryd.func18, Tryd.ntmps18
  go_wp2_with fail
  clear hc hf
  generalize (((((w.alloc (.cells (ca cs) 23)).alloc (.cells #[.int .i64 0] 2)).alloc (.map #[] 0)).alloc (.cells #[.map (some (w.heap.size + 1 + 1))] 50)).alloc (.cells #[.func (Fn.func 26) #[] #[.pointer (some ⟨w.heap.size + 1 + 1 + 1 + 1, 0, none⟩), .pointer (some ⟨w.heap.size + 1 + 1 + 1, 0, none⟩), .pointer (some ⟨w.heap.size + 1, 0, none⟩), .pointer (some ⟨w.heap.size, 0, none⟩)]] 43)) = w0 at hdg HBK ⊢
  clear hmm
  go_loopw [14] (fun x wr => ∃ k : Nat, k ≤ ts.length ∧ x = .int .i64 k ∧ DG wr (w.heap.size + 1 + 1 + 1 + 1) (w.heap.size + 1 + 1 + 1) (w.heap.size + 1) w.heap.size (w.heap.size + 1 + 1) cs (subsL [] (ts.take k)) ∧ BK w wr) (fun x _ => ts.length - (intOf x).toNat)
  case atStart => exact ⟨0, Nat.zero_le _, rfl, by simpa [subsL_nil] using hdg.out, HBK.out⟩
  case round =>
    obtain ⟨k, hk, rfl, hd, hkw⟩ := hrel
    have HD := Lib.hid hd
    have HK := Lib.hid hkw
    by_cases hlt : k < ts.length
    · obtain ⟨b, o, op2, wd2, vl2, nm2, us, q, d, rfl, htk, hc5, hw5, hr5⟩ := (HR.out w (BK.refl _)).get hlt
      obtain ⟨c0, c1, c2, c3, c4⟩ := hc5.keep hkw
      have y1 := Lib.cell?_alloc_some (.cells #[.int .i64 op2, .int .i64 wd2, .int .u64 vl2, .string nm2, .slice q us.length d] 34) hd.n
      obtain ⟨l0, hl0, hl0'⟩ := subsL_ext (ts.take k) []
      have hz1 := sizeL_get ts k hlt
      have hlenS : (subsL [] (ts.take k)).length + size ts[k] ≤ 1000 := by rw [hl0, List.length_append]; simp; omega
      have hsn := Lib.hid (subsL_snoc [] ts k hlt)
      have k2 := Lib.hid (bk_alloc (BK.refl wr) (.cells #[.int .i64 op2, .int .i64 wd2, .int .u64 vl2, .string nm2, .slice q us.length d] 34))
      have HC := Lib.hid (dag26 cs hcs ts[k] op2 wd2 vl2 nm2 us htk w _ q d _ _ _ _ _ (subsL [] (ts.take k)) hr5 hw5 HT.out (bk_tr hkw k2.out) (hd.keep k2.out) (closedL_subs _ _ closed_nil) hlenS (by omega) (by omega))
      rw [← hsn.out] at HC
      clear hd hkw hc5 hw5 hr5 htk hl0 hl0' hz1 hlenS
      go_wp2_with fail
      refine HC.out.mono ?_
      rintro e w2 ⟨rfl, hd2, hf2⟩
      clear c0 c1 c2 c3 c4 y1
      have D2 := Lib.hid hd2
      have K2 := Lib.hid (hf2.bel w (bk_tr HK.out k2.out) (by omega) (by omega))
      clear hd2 hf2
      go_wp2_with fail
      go_roundw
      case rel => exact ⟨k + 1, by omega, by go_num, D2.out, K2.out⟩
      case measure => simp [intOf]; omega
    · obtain rfl : k = ts.length := by omega
      rw [List.take_length] at hd
      have hs := hd.s
      generalize hsv : sumC cs (subsL [] ts) = sv at hs
      have HV := Lib.hid hsv
      clear hd hkw hsv
      go_wp2_with fail
      go_ret
      exact ⟨ret_int' HV.out.symm, HK.out⟩
end Go.Proofs.YtmejiiebeknbjaaDoor
