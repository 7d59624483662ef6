/- The reference's moved. -/
import Derived.Test.YtnlpiaejfmdckaaDoorSK
namespace Go.Proofs.YtnlpiaejfmdckaaDoor
open Go.RowKit
set_option linter.unusedVariables false
set_option linter.unusedSimpArgs false
set_option maxRecDepth 100000 in
set_option maxHeartbeats 8000000 in
theorem moved48 (kk : Int) (rf : List Int) (ru : Int) (sb : List U) (opa wda : Int) (vla : Nat) (nma : ByteArray) (tsa : List T) (opb wdb : Int) (vlb : Nat) (nmb : ByteArray) (tsb : List T) (p1 : Option Addr) (c1 : Nat) (p2 : Option Addr) (c2 : Nat) (p3 : Option Addr) (c3 : Nat) (p4 : Option Addr) (c4 : Nat) (l : List Int) (hl : l.length ≤ 100000) (hr : rf.length ≤ 100000) (w : World) (p : Option Addr) (c : Nat) (hp : RowI (mem 0 w) w p c l) (hq : RowI (mem 0 w) w p1 c1 rf) :
    Calls Tryd.prog 48 #[.agg #[.int .i64 kk, .slice p1 rf.length c1, .int .i64 ru, .slice p2 sb.length c2, .int .i64 opa, .int .i64 wda, .int .u64 vla, .string nma, .slice p3 tsa.length c3, .int .i64 opb, .int .i64 wdb, .int .u64 vlb, .string nmb, .slice p4 tsb.length c4], .slice p l.length c] w fun e w' =>
      (∃ q d, e = .returned (.agg #[.int .i64 kk, .slice q rf.length d, .int .i64 ru, .slice p2 sb.length c2, .int .i64 opa, .int .i64 wda, .int .u64 vla, .string nma, .slice p3 tsa.length c3, .int .i64 opb, .int .i64 wdb, .int .u64 vlb, .string nmb, .slice p4 tsb.length c4]) ∧ RowI (mem w.heap.size w') w' q d (rf.map fun r => (lsN r l : Int))) ∧ BK w w' := by
  obtain ⟨h1, h2, h3⟩ := two_boxes w #[.int .i64 kk, .slice p1 rf.length c1, .int .i64 ru, .slice p2 sb.length c2, .int .i64 opa, .int .i64 wda, .int .u64 vla, .string nma, .slice p3 tsa.length c3, .int .i64 opb, .int .i64 wdb, .int .u64 vlb, .string nmb, .slice p4 tsb.length c4] #[.int .i64 0, .slice none 0 0, .int .i64 0, .slice none 0 0, .int .i64 0, .int .i64 0, .int .u64 0, .string ⟨#[]⟩, .slice none 0 0, .int .i64 0, .int .i64 0, .int .u64 0, .string ⟨#[]⟩, .slice none 0 0] 44 44
  have K1 := Lib.hid h1
  have N1 := Lib.hid h2
  have M1 := Lib.hid h3
  have S1 := Lib.hid (show ((w.alloc (.cells #[.int .i64 kk, .slice p1 rf.length c1, .int .i64 ru, .slice p2 sb.length c2, .int .i64 opa, .int .i64 wda, .int .u64 vla, .string nma, .slice p3 tsa.length c3, .int .i64 opb, .int .i64 wdb, .int .u64 vlb, .string nmb, .slice p4 tsb.length c4] 44)).alloc (.cells #[.int .i64 0, .slice none 0 0, .int .i64 0, .slice none 0 0, .int .i64 0, .int .i64 0, .int .u64 0, .string ⟨#[]⟩, .slice none 0 0, .int .i64 0, .int .i64 0, .int .u64 0, .string ⟨#[]⟩, .slice none 0 0] 44)).heap.size = w.heap.size + 2 from by rw [sz1, sz1])
  clear h1 h2 h3
  have HP := Lib.hid (hp.bk K1.out (Nat.le_refl _))
  have HQ := Lib.hid (hq.bk K1.out (Nat.le_refl _))
  have HL := Lib.hid (And.intro hl hr)
  clear hp hq hl hr
  go_enter Tryd.func48, Tryd.ntmps48
  go_wp2_with fail
  generalize ((w.alloc (.cells #[.int .i64 kk, .slice p1 rf.length c1, .int .i64 ru, .slice p2 sb.length c2, .int .i64 opa, .int .i64 wda, .int .u64 vla, .string nma, .slice p3 tsa.length c3, .int .i64 opb, .int .i64 wdb, .int .u64 vlb, .string nmb, .slice p4 tsb.length c4] 44)).alloc (.cells #[.int .i64 0, .slice none 0 0, .int .i64 0, .slice none 0 0, .int .i64 0, .int .i64 0, .int .u64 0, .string ⟨#[]⟩, .slice none 0 0, .int .i64 0, .int .i64 0, .int .u64 0, .string ⟨#[]⟩, .slice none 0 0] 44)) = w1 at *
  go_loopw [5, 6] (fun xv iv wr => ∃ (k : Nat) (acc : List Int), k ≤ rf.length ∧ iv = .int .i64 (k : Int) ∧ acc = (rf.take k).map (fun r => (lsN r l : Int)) ∧ LI w1.heap.size wr xv acc ∧ BK w1 wr) (fun _ iv _ => rf.length - (intOf iv).toNat)
  case atStart => exact ⟨0, [], Nat.zero_le _, rfl, rfl, LI.nil _ _, BK.refl _⟩
  case round =>
    obtain ⟨k, acc, hk, rfl, hacc, hli, hb⟩ := hrel
    have AC := Lib.hid hacc
    have LL := Lib.hid hli
    have KB := Lib.hid hb
    have NR := Lib.hid ((bk_block hb (Array.getElem?_eq_some_iff.1 N1.out).1).trans N1.out)
    have MR := Lib.hid ((bk_block hb (Array.getElem?_eq_some_iff.1 M1.out).1).trans M1.out)
    clear hacc hli hb
    obtain ⟨pv, cv, rfl⟩ := LL.out.shape
    have x1 := cell_of_row wr w.heap.size 1 _ 44 (0, 0) NR.out
    by_cases e : k = rf.length
    · have hd : decide (k < rf.length) = false := by simp [e]
      have AL : acc.length = rf.length := by rw [AC.out, e]; simp
      have MZ := Lib.hid (show (wr.setCell ⟨w.heap.size, 1, none⟩ (.slice pv rf.length cv)).heap[w.heap.size + 1]? = _ from (heap_setCell_other wr ⟨w.heap.size, 1, none⟩ (w.heap.size + 1) (.slice pv rf.length cv) (by show w.heap.size + 1 ≠ w.heap.size; omega)).trans MR.out)
      have MF := Lib.hid (set14 MZ.out (.int .i64 kk) (.slice pv rf.length cv) (.int .i64 ru) (.slice p2 sb.length c2) (.int .i64 opa) (.int .i64 wda) (.int .u64 vla) (.string nma) (.slice p3 tsa.length c3) (.int .i64 opb) (.int .i64 wdb) (.int .u64 vlb) (.string nmb) (.slice p4 tsb.length c4))
      have SF := Lib.hid (set14_st (wr.setCell ⟨w.heap.size, 1, none⟩ (.slice pv rf.length cv)) (w.heap.size + 1) (.int .i64 kk) (.slice pv rf.length cv) (.int .i64 ru) (.slice p2 sb.length c2) (.int .i64 opa) (.int .i64 wda) (.int .u64 vla) (.string nma) (.slice p3 tsa.length c3) (.int .i64 opb) (.int .i64 wdb) (.int .u64 vlb) (.string nmb) (.slice p4 tsb.length c4))
      have RR := Lib.hid (LL.out.row)
      have KS := Lib.hid (bk_set (bk_tr K1.out KB.out) ⟨w.heap.size, 1, none⟩ (.slice pv rf.length cv) (Nat.le_refl _))
      have x0 := cell_of_row wr w.heap.size 0 _ 44 (0, 0) NR.out
      have y0 := cell_of_row wr (w.heap.size + 1) 0 _ 44 (0, 0) MR.out
      have g0 := frozen_of_row wr (w.heap.size + 1) 0 _ 44 MR.out
      have y1 := cell_of_row wr (w.heap.size + 1) 1 _ 44 (0, 0) MR.out
      have g1 := frozen_of_row wr (w.heap.size + 1) 1 _ 44 MR.out
      have x2 := cell_of_row wr w.heap.size 2 _ 44 (0, 0) NR.out
      have y2 := cell_of_row wr (w.heap.size + 1) 2 _ 44 (0, 0) MR.out
      have g2 := frozen_of_row wr (w.heap.size + 1) 2 _ 44 MR.out
      have x3 := cell_of_row wr w.heap.size 3 _ 44 (0, 0) NR.out
      have y3 := cell_of_row wr (w.heap.size + 1) 3 _ 44 (0, 0) MR.out
      have g3 := frozen_of_row wr (w.heap.size + 1) 3 _ 44 MR.out
      have x4 := cell_of_row wr w.heap.size 4 _ 44 (0, 0) NR.out
      have y4 := cell_of_row wr (w.heap.size + 1) 4 _ 44 (0, 0) MR.out
      have g4 := frozen_of_row wr (w.heap.size + 1) 4 _ 44 MR.out
      have x5 := cell_of_row wr w.heap.size 5 _ 44 (0, 0) NR.out
      have y5 := cell_of_row wr (w.heap.size + 1) 5 _ 44 (0, 0) MR.out
      have g5 := frozen_of_row wr (w.heap.size + 1) 5 _ 44 MR.out
      have x6 := cell_of_row wr w.heap.size 6 _ 44 (0, 0) NR.out
      have y6 := cell_of_row wr (w.heap.size + 1) 6 _ 44 (0, 0) MR.out
      have g6 := frozen_of_row wr (w.heap.size + 1) 6 _ 44 MR.out
      have x7 := cell_of_row wr w.heap.size 7 _ 44 (0, 0) NR.out
      have y7 := cell_of_row wr (w.heap.size + 1) 7 _ 44 (0, 0) MR.out
      have g7 := frozen_of_row wr (w.heap.size + 1) 7 _ 44 MR.out
      have x8 := cell_of_row wr w.heap.size 8 _ 44 (0, 0) NR.out
      have y8 := cell_of_row wr (w.heap.size + 1) 8 _ 44 (0, 0) MR.out
      have g8 := frozen_of_row wr (w.heap.size + 1) 8 _ 44 MR.out
      have x9 := cell_of_row wr w.heap.size 9 _ 44 (0, 0) NR.out
      have y9 := cell_of_row wr (w.heap.size + 1) 9 _ 44 (0, 0) MR.out
      have g9 := frozen_of_row wr (w.heap.size + 1) 9 _ 44 MR.out
      have x10 := cell_of_row wr w.heap.size 10 _ 44 (0, 0) NR.out
      have y10 := cell_of_row wr (w.heap.size + 1) 10 _ 44 (0, 0) MR.out
      have g10 := frozen_of_row wr (w.heap.size + 1) 10 _ 44 MR.out
      have x11 := cell_of_row wr w.heap.size 11 _ 44 (0, 0) NR.out
      have y11 := cell_of_row wr (w.heap.size + 1) 11 _ 44 (0, 0) MR.out
      have g11 := frozen_of_row wr (w.heap.size + 1) 11 _ 44 MR.out
      have x12 := cell_of_row wr w.heap.size 12 _ 44 (0, 0) NR.out
      have y12 := cell_of_row wr (w.heap.size + 1) 12 _ 44 (0, 0) MR.out
      have g12 := frozen_of_row wr (w.heap.size + 1) 12 _ 44 MR.out
      have x13 := cell_of_row wr w.heap.size 13 _ 44 (0, 0) NR.out
      have y13 := cell_of_row wr (w.heap.size + 1) 13 _ 44 (0, 0) MR.out
      have g13 := frozen_of_row wr (w.heap.size + 1) 13 _ 44 MR.out
      have f1 := frozen_of_row wr w.heap.size 1 _ 44 NR.out
      have ACE := Lib.hid (show acc = rf.map fun r => (lsN r l : Int) from by rw [AC.out, e, List.take_length])
      rw [AL]
      subst e
      go_wp2_with fail
      exact bodyPost_ret (v := .agg #[.int .i64 kk, .slice pv rf.length cv, .int .i64 ru, .slice p2 sb.length c2, .int .i64 opa, .int .i64 wda, .int .u64 vla, .string nma, .slice p3 tsa.length c3, .int .i64 opb, .int .i64 wdb, .int .u64 vlb, .string nmb, .slice p4 tsb.length c4]) (results_cell_row Tryd.results48 _ _ (w.heap.size + 1) 44 #[.int .i64 kk, .slice pv rf.length cv, .int .i64 ru, .slice p2 sb.length c2, .int .i64 opa, .int .i64 wda, .int .u64 vla, .string nma, .slice p3 tsa.length c3, .int .i64 opb, .int .i64 wdb, .int .u64 vlb, .string nmb, .slice p4 tsb.length c4] (0, 0) _ rfl MF.out Tryd.underlying44 rfl (by kernel_rfl)) rfl
        ⟨⟨pv, cv, rfl, by
          have h1 := RR.out
          rw [ACE.out] at h1
          exact h1.keep fun j hj => ⟨by
            have := hj.1
            rw [S1.out] at this
            exact (SF.out.block j (by have := hj.2; simpa [World.setCell] using this) (fun h => by have h : j = w.heap.size + 1 := h; omega)).trans (heap_setCell_other wr _ j _ (by show j ≠ w.heap.size; omega)), by
            have := hj.1
            rw [S1.out] at this
            omega, by have := hj.2; have h2 := SF.out.size; simp only [World.setCell, Array.size_modify] at h2 ⊢; omega⟩⟩,
          Step.bk_new KS.out SF.out (fun i hi => by have hi : i = w.heap.size + 1 := hi; omega)⟩
    · have hlt : k < rf.length := by omega
      have hd : decide (k < rf.length) = true := by simpa using hlt
      have hki : (k : Int) < (rf.length : Int) := by omega
      have ei : IntKind.i64.wrap ((k : Int) + 1) = (k : Int) + 1 := by have := HL.out; exact IntWalk.i64_in _ (by omega)
      have HLT := Lib.hid hlt
      obtain ⟨b, o, rfl, -, z0⟩ := (HQ.out.bk KB.out (Nat.le_refl _)).get hlt
      have C56 := Lib.hid (index56 l rf[k] HL.out.1 wr p c (HP.out.bk KB.out (Nat.le_refl _)))
      have AC2 := Lib.hid (show acc ++ [(lsN rf[k] l : Int)] = (rf.take (k + 1)).map (fun r => (lsN r l : Int)) from by rw [AC.out, List.take_add_one, List.getElem?_eq_getElem hlt, List.map_append]; rfl)
      have AL := Lib.hid (show acc.length ≤ 100000 from by rw [AC.out, List.length_map, List.length_take]; have := HL.out.2; omega)
      clear e
      generalize rf[k] = r at *
      generalize lsN r l = nn at *
      go_wp2_with fail
      refine C56.out.mono ?_
      rintro e w' ⟨rfl, rfl⟩
      go_wp2_with (at_builtin; go_must (refine wpList_pushI rfl _ _ rfl w1.heap.size _ acc rfl LL.out (nn : Int) rfl ?hlo ?hsm ?_))
      case hlo => exact bk_size KB.out
      case hsm => have := AL.out; omega
      intro g4 cap4 w5 hl5 hs5
      have K5 := Lib.hid (Step.bk_new KB.out hs5 (fun j hj => (LL.out.lt _ hj).1))
      have L5 := Lib.hid (show LI w1.heap.size w5 (.slice (some ⟨g4, 0, none⟩) (acc.length + 1) cap4) (acc ++ [(nn : Int)]) from hl5)
      clear hl5 hs5
      go_wp2_with fail
      go_roundw
      case rel => exact ⟨k + 1, acc ++ [(nn : Int)], by have := HLT.out; omega, by go_num, AC2.out, L5.out, K5.out⟩
      case measure => have := HLT.out; simp [intOf]; omega
end Go.Proofs.YtnlpiaejfmdckaaDoor
