/- The model in which every operator costs 1. -/
import Derived.Test.YtmejiiebeknbjaaDoorE
import Derived.Laws.CopyOwn
namespace Go.Proofs.YtmejiiebeknbjaaDoor
open Go.RowKit
set_option linter.unusedVariables false
set_option linter.unusedSimpArgs false
def isOpB (op : Int) : Bool := decide (0 < op ∧ op < 27)
set_option maxHeartbeats 400000 in
theorem isOp29 (op : Int) (w : World) : Calls Tryd.prog 29 #[.int .i64 op] w fun e w' => e = .returned (.bool (isOpB op)) ∧ w = w' := by
  go_enter Tryd.func29, Tryd.ntmps29
  go_wp2
  all_goals go_ret
  · exact ⟨ret_bool (by unfold isOpB; rw [Bool.eq_iff_iff]; simp; omega), rfl⟩
  · exact ⟨ret_bool (by unfold isOpB; symm; apply decide_eq_false; omega), rfl⟩
def upto (k : Nat) : List Int := (List.range k).map fun i : Nat => ((i : Int) + 1)
theorem upto_succ (k : Nat) : upto (k + 1) = upto k ++ [(k : Int) + 1] := by
  unfold upto; rw [List.range_succ, List.map_append]; rfl
theorem upto_len (k : Nat) : (upto k).length = k := by unfold upto; simp
theorem info24 : (Tryd.prog.info? 24).map (fun i => (i.zero, i.size, i.bytes)) = some (some (.int .i64 0), 1, 8) := by kernel_rfl
set_option maxHeartbeats 1000000 in
theorem ops24 (w : World) : Calls Tryd.prog 24 #[] w fun e w' => ∃ v, e = .returned v ∧ w'.ownsRow w.heap.size 24 1 v 26 ((upto 26).map (Value.int .i64)) ∧ BK w w' := by
  obtain ⟨i0, hi, hz0, hz1, hz2⟩ := info_parts info24
  go_enter Tryd.func24, Tryd.ntmps24
  go_wp2_with fail
  go_loopw [1, 2] (fun v i wr => ∃ k : Nat, k ≤ 26 ∧ i = .int .i64 ((k : Int) + 1) ∧ wr.ownsRow w.heap.size 24 1 v k ((upto k).map (Value.int .i64)) ∧ Below w.heap.size w wr) (fun v i _ => 27 - (intOf i).toNat)
  case atStart => exact ⟨0, by omega, rfl, World.ownsRow_nil _ _ _ _, Below.refl _ _⟩
  case round =>
    obtain ⟨k, hk, rfl, hown, hb⟩ := hrel
    by_cases hlt : k < 26
    · have hop : isOpB ((k : Int) + 1) = true := by unfold isOpB; apply decide_eq_true; omega
      go_wp2_with (first | (go_at_call 29; refine (isOp29 _ _).mono ?_; rintro e w' ⟨rfl, rfl⟩) | (at_builtin; refine wpList_append_own _ rfl _ _ 47 rfl w.heap.size 24 i0 (.int .i64 0) 1 8 Tryd.underlying47 hi hz0 hz1 hz2 rfl (by decide) _ _ _ rfl (hown.alloc _) ⟨wr.heap.size, 0, none⟩ 1 1 [.int .i64 ((k : Int) + 1)] rfl rfl ?c1 ?c2 ?c3 ?c4 ?c5 ?_))
      case c1 =>
        intro j u hj
        match j, hj with
        | 0, hj => simp at hj; subst hj; simp [Addr.add]
      case c2 => intro u hu; simp at hu; subst hu; rfl
      case c3 => unfold maxLen; omega
      case c4 => omega
      case c5 => have := hb.size; simp; omega
      · intro v' w1 hown' hgrow _
        have hb1 : Below w.heap.size w w1 := (hb.alloc hb.size _).grown hgrow (by have := hb.size; simp; omega) (fun r hr => (World.ownsRow.lt hown r hr).1)
        have ho1 : w1.ownsRow w.heap.size 24 1 v' (k + 1) ((upto (k + 1)).map (Value.int .i64)) := by rw [upto_succ, List.map_append]; exact hown'
        clear hown' hgrow hown hb
        go_wp2
        go_roundw
        case rel => exact ⟨k + 1, by omega, by simp, ho1, hb1⟩
        case measure => simp [intOf]; omega
    · have hop : isOpB ((k : Int) + 1) = false := by unfold isOpB; apply decide_eq_false; omega
      obtain rfl : k = 26 := by omega
      go_wp2_with (go_at_call 29; refine (isOp29 _ _).mono ?_; rintro e w' ⟨rfl, rfl⟩)
      go_ret
      exact ⟨_, rfl, hown, hb⟩
def uni (k : Nat) : List Int := (List.range 32).map fun j : Nat => if 1 ≤ j ∧ j ≤ k then 1 else 0
theorem uni_len (k : Nat) : (uni k).length = 32 := by simp [uni]
theorem uni_set (k : Nat) (h : k < 26) : (uni k).set (k + 1) 1 = uni (k + 1) := by
  have : ∀ k : Fin 26, (uni k.val).set (k.val + 1) 1 = uni (k.val + 1) := by decide +kernel
  exact this ⟨k, h⟩
theorem ca_set (l : List Int) (j : Nat) (x : Int) : (ca l).setIfInBounds j (.int .i64 x) = ca (l.set j x) := by simp [ca, List.map_set]
theorem uni_node (op : Int) : nodeC (uni 26) op = 1 := by
  unfold nodeC
  split
  · rfl
  · rename_i h
    obtain ⟨k, rfl⟩ : ∃ k : Nat, op = k := ⟨op.toNat, by omega⟩
    have : ∀ k : Fin 27, 1 ≤ k.val → min (max ((uni 26).getD k.val 0) 1) 1048576 = 1 := by decide +kernel
    simpa using this ⟨k, by omega⟩ (by show 1 ≤ k; omega)
theorem zeros23 : ca (uni 0) = #[.int .i64 0, .int .i64 0, .int .i64 0, .int .i64 0, .int .i64 0, .int .i64 0, .int .i64 0, .int .i64 0, .int .i64 0, .int .i64 0, .int .i64 0, .int .i64 0, .int .i64 0, .int .i64 0, .int .i64 0, .int .i64 0, .int .i64 0, .int .i64 0, .int .i64 0, .int .i64 0, .int .i64 0, .int .i64 0, .int .i64 0, .int .i64 0, .int .i64 0, .int .i64 0, .int .i64 0, .int .i64 0, .int .i64 0, .int .i64 0, .int .i64 0, .int .i64 0] := rfl
set_option maxRecDepth 100000 in
set_option maxHeartbeats 1000000 in
theorem uniform13 (w : World) : Calls Tryd.prog 13 #[] w fun e w' => e = .returned (.agg (ca (uni 26))) ∧ BK w w' := by
  go_enter Tryd.func13, Tryd.ntmps13
  go_wp2_with fail
  rw [← zeros23]
  have hk0 : BK w ((w.alloc (.cells (ca (uni 0)) 23)).alloc (.cells (ca (uni 0)) 23)) := bk_alloc (bk_alloc (BK.refl w) _) _
  have h0 : ((w.alloc (.cells (ca (uni 0)) 23)).alloc (.cells (ca (uni 0)) 23)).heap[w.heap.size]? = some (.cells (ca (uni 0)) 23 (0, 0)) := by
    rw [heap_alloc_old _ _ (by simp)]; exact heap_alloc_new w _
  have h1 : ((w.alloc (.cells (ca (uni 0)) 23)).alloc (.cells (ca (uni 0)) 23)).heap[w.heap.size + 1]? = some (.cells (ca (uni 0)) 23 (0, 0)) := by
    have := heap_alloc_new (w.alloc (.cells (ca (uni 0)) 23)) (.cells (ca (uni 0)) 23)
    simpa using this
  generalize (w.alloc (.cells (ca (uni 0)) 23)).alloc (.cells (ca (uni 0)) 23) = w0 at hk0 h0 h1 ⊢
  have HK0 := Lib.hid hk0
  have Z0 := Lib.hid h0
  have Z1 := Lib.hid h1
  have hl1 : w.heap.size + 1 < w0.heap.size := (Array.getElem?_eq_some_iff.1 h1).1
  clear hk0 h0 h1
  refine (ops24 w0).mono ?_
  rintro e w1 ⟨v, rfl, ho, hb⟩
  obtain ⟨g, cap, rfl, hlo, hcell⟩ : ∃ g cap, v = .slice (some ⟨g, 0, none⟩) 26 cap ∧ w0.heap.size ≤ g ∧ ∀ k, k < 26 → w1.cell? ⟨g, k, none⟩ = some (.int .i64 ((k : Int) + 1)) := by
    obtain ⟨g, cap, rfl, _⟩ := World.ownsRow.form ho (by omega)
    refine ⟨g, cap, rfl, (ho.lt g rfl).1, fun k hk => ?_⟩
    have := World.ownsRow.cells ho (g := g) rfl k (.int .i64 ((k : Int) + 1)) (by simp [upto, hk])
    rw [show (⟨g, 0, none⟩ : Addr).add k = ⟨g, 0 + k, none⟩ from Go.WideShapes.add_plain _ _ _, Nat.zero_add] at this
    exact this
  have b0 := (show Below w0.heap.size w0 w1 from hb).block w.heap.size (by omega)
  have b1 := (show Below w0.heap.size w0 w1 from hb).block (w.heap.size + 1) hl1
  rw [Z0.out] at b0
  rw [Z1.out] at b1
  have K1 := Lib.hid (bk_tr HK0.out hb)
  have B0 := Lib.hid b0
  have B1 := Lib.hid b1
  have CL := Lib.hid hcell
  clear ho hb hcell b0 b1
  go_wp2_with fail
  go_loopw [6] (fun x wr => ∃ k : Nat, k ≤ 26 ∧ x = .int .i64 k ∧ wr.heap[w.heap.size]? = some (.cells (ca (uni 0)) 23 (0, 0)) ∧ wr.heap[w.heap.size + 1]? = some (.cells (ca (uni k)) 23 (0, 0)) ∧ (∀ k, k < 26 → wr.cell? ⟨g, k, none⟩ = some (.int .i64 ((k : Int) + 1))) ∧ BK w wr) (fun x _ => 26 - (intOf x).toNat)
  case atStart => exact ⟨0, by omega, rfl, B0.out, B1.out, CL.out, K1.out⟩
  case round =>
    obtain ⟨k, hk, rfl, r0, r1, hc, hkw⟩ := hrel
    have HK := Lib.hid hkw
    have R0 := Lib.hid r0
    have R1 := Lib.hid r1
    have HC := Lib.hid hc
    by_cases hlt : k < 26
    · have d := hc k hlt
      have c1 : wr.cell? ⟨w.heap.size + 1, k + 1, none⟩ = some (.int .i64 ((uni k).getD (k + 1) 0)) := by rw [cell_of_row wr _ _ _ _ _ r1]; exact ca_get _ _ (by rw [uni_len]; omega)
      have f1 : wr.frozen? ⟨w.heap.size + 1, k + 1, none⟩ = false := by simp [World.frozen?, r1]
      have hs := heap_setCell_same wr (w.heap.size + 1) (k + 1) (ca (uni k)) 23 (.int .i64 1) r1
      rw [ca_set, uni_set k hlt] at hs
      have HS := Lib.hid hs
      clear r0 r1 hc hkw hs
      generalize (uni k).getD (k + 1) 0 = z at c1
      go_wp2_with fail
      go_roundw
      case rel => exact ⟨k + 1, by omega, by go_num, (Below.heap_setCell wr _ _ _ (by show w.heap.size ≠ w.heap.size + 1; omega)).trans R0.out, HS.out, fun j hj => by rw [World.cell?_of_block (a := ⟨g, j, none⟩) (Below.heap_setCell wr _ _ _ (by show g ≠ w.heap.size + 1; omega))]; exact HC.out j hj, bk_set HK.out _ _ (by simp)⟩
      case measure => simp [intOf]; omega
    · obtain rfl : k = 26 := by omega
      clear r0 r1 hc hkw
      have hs0 := setRow_heap wr w.heap.size (ca (uni 0)) (ca (uni 26)) 23 (0, 0) R0.out
      have HS := Lib.hid hs0
      clear hs0
      go_wp2_with (first | (with_reducible refine wpList_load_row rfl 23 _ rfl (w.heap.size + 1) rfl 23 (ca (uni 26)) (0, 0) _ R1.out Tryd.underlying23 rfl (by rw [ca_size, uni_len]; kernel_rfl) ?_) | (with_reducible refine wpList_store_row rfl 23 _ _ rfl w.heap.size (ca (uni 26)) rfl rfl 23 (ca (uni 0)) R0.out (by rw [ca_size, uni_len]; kernel_rfl) (by rw [ca_size, ca_size, uni_len, uni_len]) (by decide +kernel) ?_))
      refine bodyPost_ret (v := .agg (ca (uni 26))) (results_cell_row Tryd.results13 _ _ w.heap.size 23 (ca (uni 26)) (0, 0) _ rfl HS.out Tryd.underlying23 rfl (by rw [ca_size, uni_len]; kernel_rfl)) rfl ⟨rfl, below_setRow (show Below w.heap.size w wr from HK.out) (Nat.le_refl _) _⟩
end Go.Proofs.YtmejiiebeknbjaaDoor
