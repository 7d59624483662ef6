/- The examples of the document. -/
import Derived.Test.YtkicoaphchpngaaK
namespace Go.Proofs.Ytkicoaphchpngaa
open Go.RowKit Go.Lib Go.Sort
set_option linter.unusedVariables false
theorem FrM.below {w w' : World} {B bq mb c : Nat} {sv sv' : Value} {zs : List Int} (h : FrM w w' bq mb sv sv') (hq : QM w B bq mb c sv zs) : Below B w w' :=
  ⟨h.os, h.tape, h.output, h.size, fun k hk => h.block k (Nat.lt_trans (Nat.lt_of_lt_of_le hk hq.qs.low) hq.qs.lt) (by have := hq.qs.low; omega) (by have := hq.lowm; omega) (fun e => by have := (World.ownsRow.lt hq.qs.row k e.symm).1; omega)⟩
theorem below_drawn {B : Nat} {w w' w2 : World} (h : Below B w w') (hd : Drawn w' w2) : Below B w w2 := by
  obtain ⟨q, rfl⟩ := hd; exact ⟨h.os, h.tape, h.output, h.size, h.block⟩
theorem min_of {zs l : List Int} {m : Int} (hh : Heap zs.length zs) (hp : zs.Perm l) (hm : m ∈ l) (hle : ∀ y ∈ l, m ≤ y) : 0 < zs.length ∧ zs.getD 0 0 = m := by
  have h0 : m ∈ zs := hp.mem_iff.2 hm
  have hl : 0 < zs.length := List.length_pos_of_mem h0
  refine ⟨hl, ?_⟩
  obtain ⟨j, hj, e⟩ := List.mem_iff_getElem.1 h0
  have h1 := heap_min _ _ hh j hj
  have h2 : zs.getD 0 0 ∈ zs := by
    rw [List.getD_eq_getElem?_getD, List.getElem?_eq_getElem hl]; exact List.getElem_mem hl
  have h3 := hle _ (hp.mem_iff.1 h2)
  have h4 : zs.getD j 0 = m := by rw [List.getD_eq_getElem?_getD, List.getElem?_eq_getElem hj]; exact e
  omega
theorem QM.keep {w w' : World} {B bq mb c : Nat} {sv : Value} {zs : List Int} (h : QM w B bq mb c sv zs) (hb : Below w.heap.size w w') : QM w' B bq mb c sv zs := by
  have hg : w.grownBy w' none := ⟨hb.os, hb.tape, hb.output, hb.size, fun k hk _ => hb.block k hk⟩
  obtain ⟨D, hD, hW⟩ := h.map
  refine ⟨⟨(hb.block bq h.qs.lt).trans h.qs.blk, ?_, h.qs.low⟩, h.heap, h.nodup, ⟨D, World.ownsMap.kept hD hg (by simp), hW⟩, h.lowm⟩
  rcases h.qs.row.2 with ⟨h1, h2⟩ | ⟨g, cap, cur, h1, h2, h3, h4⟩
  · exact ⟨h.qs.row.1, .inl ⟨h1, h2⟩⟩
  · have hlt : g < w.heap.size := (Array.getElem?_eq_some_iff.1 h3).1
    exact ⟨h.qs.row.1, .inr ⟨g, cap, cur, h1, h2, (hb.block g hlt).trans h3, h4⟩⟩
theorem own_keep {w w' : World} {B n : Nat} {v : Value} {xs : List Value} (h : w.ownsRow B 3 1 v n xs) (hb : Below w.heap.size w w') : w'.ownsRow B 3 1 v n xs := by
  rcases h.2 with ⟨h1, h2⟩ | ⟨g, cap, cur, h1, h2, h3, h4⟩
  · exact ⟨h.1, .inl ⟨h1, h2⟩⟩
  · have hlt : g < w.heap.size := (Array.getElem?_eq_some_iff.1 h3).1
    exact ⟨h.1, .inr ⟨g, cap, cur, h1, h2, (hb.block g hlt).trans h3, h4⟩⟩
theorem below_alloc (w : World) (o : Obj) : Below w.heap.size w (w.alloc o) := (Below.refl _ _).alloc (Nat.le_refl _) o
theorem drawn_below {w w' : World} (hd : Drawn w w') : Below w.heap.size w w' := below_drawn (Below.refl _ _) hd
theorem below_up {a b c : World} (h : Below a.heap.size a b) (k : Below b.heap.size b c) : Below a.heap.size a c := h.trans (k.mono h.size)
theorem wf5 : (Lit.int .i64 5).wf = true := by decide
theorem wf2 : (Lit.int .i64 2).wf = true := by decide
theorem rd_lit (w : World) (zs : List Int) (n : Nat) (hn : zs.length = n) (h0 : 0 < n) : Rd (w.alloc (.cells (zs.map (Value.int .i64)).toArray 3)) (.slice (some ⟨w.heap.size, 0, none⟩) n n) zs := by
  subst hn
  refine Or.inr ⟨w.heap.size, 0, zs.length, rfl, h0, Nat.le_refl _, by show w.heap.size < (w.heap.push _).size; simp, fun k hk => ?_⟩
  rw [Nat.zero_add, World.cell?_alloc_new]; simp [hk]
set_option maxHeartbeats 4000000 in
theorem lives_any (w : World) : Calls Try.prog 10 #[] w fun e w' => e = .returned (.bool true) ∧ Below w.heap.size w w' := by
  go_enter Try.func10, Try.ntmps10
  go_wp2_with fail
  refine (new_any w.heap.size w (Nat.le_refl _)).mono ?_
  rintro e w1 ⟨rfl, hq1, hb1⟩
  generalize w.heap.size + 1 = bq at hq1 ⊢
  have hsz : w.heap.size ≤ w1.heap.size := hb1.size
  generalize hB : w.heap.size = B at hq1 hb1
  have hB' := Lib.hid hB
  clear hB
  go_wp2_with fail
  refine (qpush_new B bq B 0 _ [] 5 w1 wf5 hq1 (by simp) (by simp) (by omega)).mono ?_
  rintro e w2 ⟨rfl, sv2, z2, hq2, hp2, hf2⟩
  have hb2 := hb1.trans (hf2.below hq1)
  go_wp2_with fail
  refine (qpush_new B bq B 1 _ z2 2 w2 wf2 hq2 (by rw [hp2.mem_iff]; simp) (by rw [hp2.length_eq]; simp) (by omega)).mono ?_
  rintro e w3 ⟨rfl, sv3, z3, hq3, hp3, hf3⟩
  have hb3 := hb2.trans (hf3.below hq2)
  have hp3' : z3.Perm [5, 2] := hp3.trans (List.Perm.append_right [2] hp2)
  go_wp2_with fail
  refine (qpush_in B bq B 2 _ z3 5 w3 wf5 hq3 (by rw [hp3'.mem_iff]; simp)).mono ?_
  rintro e w4 ⟨rfl, rfl⟩
  obtain ⟨hz3, hm3⟩ := min_of (m := 2) hq3.heap hp3' (by simp) (by simp)
  have hpop := qpop_some B bq B 2 _ z3 w3 hq3 hz3 (by rw [hp3'.length_eq]; simp) (by rw [hm3]; exact wf2)
  rw [hm3] at hpop
  have hpop' := Lib.hid hpop
  clear hpop hm3
  go_wp2_with fail
  refine hpop'.out.mono ?_
  rintro e w5 ⟨rfl, sv5, z5, hq5, hp5, hf5⟩
  have hb5 := hb3.trans (hf5.below hq3)
  have hp5' : z5.Perm [5] := by
    have h1 : (2 :: z5).Perm [5, 2] := hp5.symm.trans hp3'
    have h2 : ([5, 2] : List Int).Perm (2 :: [5]) := List.Perm.swap 2 5 []
    exact (List.perm_cons 2).1 (h1.trans h2)
  obtain ⟨hz5, hm5⟩ := min_of (m := 5) hq5.heap hp5' (by simp) (by simp)
  have hpop := qpop_some B bq B 2 _ z5 w5 hq5 hz5 (by rw [hp5'.length_eq]; simp) (by rw [hm5]; exact wf5)
  rw [hm5] at hpop
  have hpop2 := Lib.hid hpop
  clear hpop hm5
  go_wp2_with fail
  refine hpop2.out.mono ?_
  rintro e w6 ⟨rfl, sv6, z6, hq6, hp6, hf6⟩
  have hb6 := hb5.trans (hf6.below hq5)
  have hz6 : z6 = [] := by
    have h1 : (5 :: z6).Perm [5] := hp6.symm.trans hp5'
    have := h1.length_eq
    exact List.eq_nil_of_length_eq_zero (by simpa using this)
  subst hz6
  go_wp2_with fail
  refine (qpop_none B bq B 2 _ w6 hq6).mono ?_
  rintro e w7 ⟨rfl, rfl⟩
  clear hb1 hb2 hb3 hb5 hf2 hf3 hf5 hf6 hq1 hq2 hq3 hq5 hp2 hp3 hp3' hp5 hp5' hp6 hpop' hpop2 hz3 hz5 z2 z3 z5 hsz
  go_wp2_with fail
  refine (of_any _ [3, 1, 3] _ (rd_lit w6 [3, 1, 3] 3 rfl (by omega)) (by simp)).mono ?_
  rintro e w7 ⟨v, rfl, hown, hb7⟩
  have e1 : ofL [3, 1, 3] = [1, 3] := by decide
  rw [e1] at hown
  have hB7 : Below w6.heap.size w6 w7 := below_up (below_alloc w6 _) hb7
  have hr1 : Rd (w7.alloc (.cells #[.int .i64 1, .int .i64 3] 3)) v [1, 3] := Rd.own (own_keep hown (below_alloc _ _))
  have hs1 := Lib.hid (same_any v _ [1, 3] [1, 3] _ hr1 (rd_lit w7 [1, 3] 2 rfl (by omega)) (by simp))
  clear e1 hown hb7 hr1
  go_wp2_with fail
  refine hs1.out.mono ?_
  rintro e w8 ⟨rfl, hd8⟩
  have hB8 : Below w6.heap.size w6 w8 := below_up (below_up hB7 (below_alloc _ _)) (drawn_below hd8)
  have e2 : sameB [1, 3] [1, 3] = true := by decide
  rw [e2]
  clear e2 hs1 hd8 hB7
  have hv1 := Lib.hid (valid_any _ [1, 3] _ (rd_lit w8 [1, 3] 2 rfl (by omega)) (by simp))
  go_wp2_with fail
  refine hv1.out.mono ?_
  rintro e w9 ⟨rfl, hd9⟩
  have hB9 : Below w6.heap.size w6 w9 := below_up (below_up hB8 (below_alloc _ _)) (drawn_below hd9)
  have e3 : validB [1, 3] = true := by decide
  rw [e3]
  clear e3 hv1 hd9 hB8
  have hv2 := Lib.hid (valid_any _ [3, 3] _ (rd_lit w9 [3, 3] 2 rfl (by omega)) (by simp))
  go_wp2_with fail
  refine hv2.out.mono ?_
  rintro e w10 ⟨rfl, hd10⟩
  have hB10 : Below w6.heap.size w6 w10 := below_up (below_up hB9 (below_alloc _ _)) (drawn_below hd10)
  have e4 : validB [3, 3] = false := by decide
  rw [e4]
  clear e4 hv2 hd10 hB9
  have hln := Lib.hid (qlen_any B bq B 2 _ [] w10 (hq6.keep hB10))
  go_wp2_with fail
  refine hln.out.mono ?_
  rintro e w11 ⟨rfl, rfl⟩
  go_wp2_with fail
  go_ret
  have hfin := hb6.trans (hB10.mono (by have := hq6.qs.low; have := hq6.qs.lt; omega))
  rw [← hB'.out] at hfin
  exact ⟨rfl, hfin⟩
end Go.Proofs.Ytkicoaphchpngaa
