/- The law Uses. -/
import Derived.Test.YtneidfbgdgegjaaGreatDoorWL
import Derived.Test.YtneidfbgdgegjaaGreatDoorRX
namespace Go.Proofs.YtneidfbgdgegjaaGreatDoor
open Go.RowKit Go.Shelf
set_option linter.unusedVariables false
set_option linter.unusedSimpArgs false
set_option maxRecDepth 100000 in
set_option maxHeartbeats 4000000 in
theorem uses_law (i : I6) (w : World) (ht : Tb w) : Calls Tryz.prog 5 #[.agg #[.int .i64 i.op, .int .i64 i.dst, .int .i64 i.a, .int .i64 i.b, .int .i64 i.c, .int .u64 i.imm]] w fun e w' => e = .returned (.bool true) ∧ BK w w' := by
  have HT := Lib.hid ht
  have LV := Lib.hid (fun wc (hb : BK w wc) => live10 wc (ht.keep hb))
  have HK := Lib.hid (bk_alloc (BK.refl w) (.cells #[.int .i64 i.op, .int .i64 i.dst, .int .i64 i.a, .int .i64 i.b, .int .i64 i.c, .int .u64 i.imm] 42))
  have HN := Lib.hid (heap_alloc_new w (.cells #[.int .i64 i.op, .int .i64 i.dst, .int .i64 i.a, .int .i64 i.b, .int .i64 i.c, .int .u64 i.imm] 42))
  have HL := Lib.hid (uses_len i)
  have U1 := Lib.hid (fun W => uses58 i W)
  have U2 := Lib.hid (fun W => uses31 i W)
  have D1 := Lib.hid (fun W => def45 i W)
  have D2 := Lib.hid (fun W => def28 i W)
  clear ht
  go_enter Tryz.func5, Tryz.ntmps5
  go_upto_region 1 with (fail)
  generalize w.alloc (.cells #[.int .i64 i.op, .int .i64 i.dst, .int .i64 i.a, .int .i64 i.b, .int .i64 i.c, .int .u64 i.imm] 42) = w0 at HK HN ⊢
  generalize w.heap.size = c at HN ⊢
  have z0 := cell_of_row _ c 0 _ 42 (0, 0) HN.out
  have z1 := cell_of_row _ c 1 _ 42 (0, 0) HN.out
  have z2 := cell_of_row _ c 2 _ 42 (0, 0) HN.out
  have z3 := cell_of_row _ c 3 _ 42 (0, 0) HN.out
  have z4 := cell_of_row _ c 4 _ 42 (0, 0) HN.out
  have z5 := cell_of_row _ c 5 _ 42 (0, 0) HN.out
  have D := Lib.hid (D1.out w0)
  go_upto_region 2 with (go_at_call 27; refine D.out.mono ?_; rintro e w1 ⟨rfl, b1⟩)
  have K1 := Lib.hid (bk_tr HK.out b1)
  have N1 := Lib.hid ((bk_block b1 (Array.getElem?_eq_some_iff.1 HN.out).1).trans HN.out)
  clear b1 z0 z1 z2 z3 z4 z5 D
  have z0 := cell_of_row _ c 0 _ 42 (0, 0) N1.out
  have z1 := cell_of_row _ c 1 _ 42 (0, 0) N1.out
  have z2 := cell_of_row _ c 2 _ 42 (0, 0) N1.out
  have z3 := cell_of_row _ c 3 _ 42 (0, 0) N1.out
  have z4 := cell_of_row _ c 4 _ 42 (0, 0) N1.out
  have z5 := cell_of_row _ c 5 _ 42 (0, 0) N1.out
  have D := Lib.hid (D2.out w1)
  go_upto_region 3 with (go_at_call 28; refine D.out.mono ?_; rintro e w2 ⟨rfl, b2⟩)
  have K2 := Lib.hid (bk_drew (bk_tr K1.out b2))
  have N2 := Lib.hid (show w2.drew.heap[c]? = _ from (bk_block b2 (Array.getElem?_eq_some_iff.1 N1.out).1).trans N1.out)
  clear b2 z0 z1 z2 z3 z4 z5 D
  clear D1 D2
  generalize defV i = x
  generalize dfB i.op = y
  refine wp_region_held_drew (S := fun W' => W'.heap[c]? = some (.cells #[.int .i64 i.op, .int .i64 i.dst, .int .i64 i.a, .int .i64 i.b, .int .i64 i.c, .int .u64 i.imm] 42 (0, 0))) (by kernel_rfl) N2.out (fun hHeld => ?_)
  generalize w2.drew = w3 at hHeld N2 K2 ⊢
  refine wpAnyH_take (i := 0) (v := .int .i64 x) rfl (by kernel_rfl) (by kernel_rfl) (by kernel_rfl) (fun _ _ _ h => h) (Or.inl ⟨by kernel_rfl, fun w hSw => by (go_simp)⟩) hHeld ?_
  try simp only [Act.put, List.setIfInBounds_toArray, List.set_cons_zero, List.set_cons_succ]
  refine wpAnyH_take (i := 1) (v := .int .i64 x) rfl (by kernel_rfl) (by kernel_rfl) (by kernel_rfl) (fun _ _ _ h => h) (Or.inl ⟨by kernel_rfl, fun w hSw => by (go_simp)⟩) hHeld ?_
  try simp only [Act.put, List.setIfInBounds_toArray, List.set_cons_zero, List.set_cons_succ]
  refine wpAnyH_take (i := 2) (v := .bool true) rfl (by kernel_rfl) (by kernel_rfl) (by kernel_rfl) (fun _ _ _ h => h) (Or.inl ⟨by kernel_rfl, fun w hSw => by (go_simp)⟩) hHeld ?_
  try simp only [Act.put, List.setIfInBounds_toArray, List.set_cons_zero, List.set_cons_succ]
  refine wpAnyH_take (i := 3) (v := .bool true) rfl (by kernel_rfl) (by kernel_rfl) (by kernel_rfl) (fun _ _ _ h => h) (Or.inl ⟨by kernel_rfl, fun w hSw => by (go_simp)⟩) hHeld ?_
  try simp only [Act.put, List.setIfInBounds_toArray, List.set_cons_zero, List.set_cons_succ]
  refine wpAnyH_take (i := 4) (v := .bool y) rfl (by kernel_rfl) (by kernel_rfl) (by kernel_rfl) (fun _ _ _ h => h) (Or.inl ⟨by kernel_rfl, fun w hSw => by (go_simp)⟩) hHeld ?_
  try simp only [Act.put, List.setIfInBounds_toArray, List.set_cons_zero, List.set_cons_succ]
  refine wpAnyH_take (i := 5) (v := .bool y) rfl (by kernel_rfl) (by kernel_rfl) (by kernel_rfl) (fun _ _ _ h => h) (Or.inl ⟨by kernel_rfl, fun w hSw => by (go_simp)⟩) hHeld ?_
  try simp only [Act.put, List.setIfInBounds_toArray, List.set_cons_zero, List.set_cons_succ]
  refine wpAnyH_take (i := 6) (v := .bool true) rfl (by kernel_rfl) (by kernel_rfl) (by kernel_rfl) (fun _ _ _ h => h) (Or.inl ⟨by kernel_rfl, fun w hSw => by (go_simp)⟩) hHeld ?_
  try simp only [Act.put, List.setIfInBounds_toArray, List.set_cons_zero, List.set_cons_succ]
  refine wpAnyH_take (i := 7) (v := .bool true) rfl (by kernel_rfl) (by kernel_rfl) (by kernel_rfl) (fun _ _ _ h => h) (Or.inl ⟨by kernel_rfl, fun w hSw => by (go_simp)⟩) hHeld ?_
  try simp only [Act.put, List.setIfInBounds_toArray, List.set_cons_zero, List.set_cons_succ]
  refine wpAnyH_take (i := 8) (v := .bool true) rfl (by kernel_rfl) (by kernel_rfl) (by kernel_rfl) (fun _ _ _ h => h) (Or.inl ⟨by kernel_rfl, fun w hSw => by (go_simp)⟩) hHeld ?_
  try simp only [Act.put, List.setIfInBounds_toArray, List.set_cons_zero, List.set_cons_succ]
  refine wpAnyH_take (i := 9) (v := .agg #[.int .i64 i.op, .int .i64 i.dst, .int .i64 i.a, .int .i64 i.b, .int .i64 i.c, .int .u64 i.imm]) rfl (by kernel_rfl) (by kernel_rfl) (by kernel_rfl) (fun _ _ _ h => h) (Or.inl ⟨by kernel_rfl, fun w hSw => by (have z0 := cell_of_row _ c 0 _ 42 (0, 0) hSw; have z1 := cell_of_row _ c 1 _ 42 (0, 0) hSw; have z2 := cell_of_row _ c 2 _ 42 (0, 0) hSw; have z3 := cell_of_row _ c 3 _ 42 (0, 0) hSw; have z4 := cell_of_row _ c 4 _ 42 (0, 0) hSw; have z5 := cell_of_row _ c 5 _ 42 (0, 0) hSw; go_simp)⟩) hHeld ?_
  try simp only [Act.put, List.setIfInBounds_toArray, List.set_cons_zero, List.set_cons_succ]
  refine wpAnyH_take (i := 11) (v := .agg #[.int .i64 i.op, .int .i64 i.dst, .int .i64 i.a, .int .i64 i.b, .int .i64 i.c, .int .u64 i.imm]) rfl (by kernel_rfl) (by kernel_rfl) (by kernel_rfl) (fun _ _ _ h => h) (Or.inl ⟨by kernel_rfl, fun w hSw => by (have z0 := cell_of_row _ c 0 _ 42 (0, 0) hSw; have z1 := cell_of_row _ c 1 _ 42 (0, 0) hSw; have z2 := cell_of_row _ c 2 _ 42 (0, 0) hSw; have z3 := cell_of_row _ c 3 _ 42 (0, 0) hSw; have z4 := cell_of_row _ c 4 _ 42 (0, 0) hSw; have z5 := cell_of_row _ c 5 _ 42 (0, 0) hSw; go_simp)⟩) hHeld ?_
  try simp only [Act.put, List.setIfInBounds_toArray, List.set_cons_zero, List.set_cons_succ]
  refine wpAnyH_ready (rs := [10]) (by kernel_rfl) (by simp) ?_
  refine AllReadyH.cons (o := _) rfl (fun K9 hK9 => ?_) AllReadyH.nil
  go_simp
  go_at_call 30
  refine (U1.out w3).mono ?_
  rintro e w4 ⟨p4, c4, rfl, ro4, b4⟩
  have R4 := Lib.hid ro4
  have K4 := Lib.hid (bk_tr K2.out b4)
  have N4 := Lib.hid ((bk_block b4 (Array.getElem?_eq_some_iff.1 N2.out).1).trans N2.out)
  clear ro4 b4
  refine hK9.out _ _ N4.out (fun hHeld => ?_)
  clear hK9 K9
  try simp only [Act.put, List.setIfInBounds_toArray, List.set_cons_zero, List.set_cons_succ]
  refine wpAnyH_ready (rs := [12]) (by kernel_rfl) (by simp) ?_
  refine AllReadyH.cons (o := _) rfl (fun K9 hK9 => ?_) AllReadyH.nil
  go_simp
  go_at_call 31
  refine (U2.out w4).mono ?_
  rintro e w5 ⟨p5, c5, rfl, ro5, b5⟩
  have R5 := Lib.hid ro5
  have R4' := Lib.hid (R4.out.keep b5)
  have K5 := Lib.hid (bk_tr K4.out b5)
  have N5 := Lib.hid ((bk_block b5 (Array.getElem?_eq_some_iff.1 N4.out).1).trans N4.out)
  clear ro5 b5
  refine hK9.out _ _ N5.out (fun hHeld => ?_)
  clear hK9 K9
  try simp only [Act.put, List.setIfInBounds_toArray, List.set_cons_zero, List.set_cons_succ]
  refine wpAnyH_ready (rs := [13]) (by kernel_rfl) (by simp) ?_
  refine AllReadyH.cons (o := _) rfl (fun K9 hK9 => ?_) AllReadyH.nil
  go_simp
  go_at_call 29
  have CS := same29 (usesL i) (usesL i) p4 p5 c4 c5 w5 R4'.out R5.out (by have := HL.out; omega) (by have := HL.out; omega)
  rw [show eqL (usesL i) (usesL i) = true from by unfold eqL; simp] at CS
  refine CS.mono ?_
  rintro e w6 ⟨rfl, b6⟩
  have K6 := Lib.hid (bk_tr K5.out b6)
  have N6 := Lib.hid ((bk_block b6 (Array.getElem?_eq_some_iff.1 N5.out).1).trans N5.out)
  clear b6 CS
  refine hK9.out _ _ N6.out (fun hHeld => ?_)
  clear hK9 K9
  try simp only [Act.put, List.setIfInBounds_toArray, List.set_cons_zero, List.set_cons_succ]
  refine wpAnyH_take (i := 14) (v := .bool true) rfl (by kernel_rfl) (by kernel_rfl) (by kernel_rfl) (fun _ _ _ h => h) (Or.inl ⟨by kernel_rfl, fun w hSw => by (go_simp)⟩) hHeld ?_
  try simp only [Act.put, List.setIfInBounds_toArray, List.set_cons_zero, List.set_cons_succ]
  refine wpAnyH_take (i := 15) (v := .bool true) rfl (by kernel_rfl) (by kernel_rfl) (by kernel_rfl) (fun _ _ _ h => h) (Or.inl ⟨by kernel_rfl, fun w hSw => by (go_simp)⟩) hHeld ?_
  try simp only [Act.put, List.setIfInBounds_toArray, List.set_cons_zero, List.set_cons_succ]
  refine wpAnyH_ready (rs := [16]) (by kernel_rfl) (by simp) ?_
  refine AllReadyH.cons (o := _) rfl (fun K9 hK9 => ?_) AllReadyH.nil
  go_simp
  go_at_call 10
  refine (LV.out w6 K6.out).mono ?_
  rintro e w7 ⟨rfl, b7⟩
  have K7 := Lib.hid (bk_tr K6.out b7)
  have N7 := Lib.hid ((bk_block b7 (Array.getElem?_eq_some_iff.1 N6.out).1).trans N6.out)
  clear b7
  refine hK9.out _ _ N7.out (fun hHeld => ?_)
  clear hK9 K9
  try simp only [Act.put, List.setIfInBounds_toArray, List.set_cons_zero, List.set_cons_succ]
  refine wpAnyH_ready (rs := [17]) (by kernel_rfl) (by simp) ?_
  refine AllReadyH.cons (o := _) rfl (fun K9 hK9 => ?_) AllReadyH.nil
  go_simp
  refine hK9.out _ _ N7.out (fun hHeld => ?_)
  clear hK9 K9
  try simp only [Act.put, List.setIfInBounds_toArray, List.set_cons_zero, List.set_cons_succ]
  refine wpAnyH_ready (rs := [18]) (by kernel_rfl) (by simp) ?_
  refine AllReadyH.cons (o := _) rfl (fun K9 hK9 => ?_) AllReadyH.nil
  go_simp
  refine hK9.out _ _ N7.out (fun hHeld => ?_)
  clear hK9 K9
  try simp only [Act.put, List.setIfInBounds_toArray, List.set_cons_zero, List.set_cons_succ]
  refine wpAnyH_done (by kernel_rfl) ?_ _
  try simp only [Exit.then]
  clear hHeld
  go_wp2_with fail
  go_ret
  exact ⟨rfl, K7.out⟩
end Go.Proofs.YtneidfbgdgegjaaGreatDoor
