/- Canon with the function of the law. -/
import Derived.Test.YtclefcjojlkcnaaDoorY
namespace Go.Proofs.YtclefcjojlkcnaaDoor
open Go.RowKit Go.Maps
set_option linter.unusedVariables false
set_option linter.unusedSimpArgs false
def mapF (ts zs : List Int) (k : Nat) : List Int := (zs.take k).map (findL ts)
theorem mapF_succ (ts zs : List Int) (k : Nat) (h : k < zs.length) : ints (mapF ts zs (k + 1)) = ints (mapF ts zs k) ++ [.int .i64 (findL ts (zs.getD k 0))] := by
  unfold mapF ints; rw [List.take_succ_eq_append_getElem h, List.map_append, List.map_append]; simp [List.getD_eq_getElem?_getD, h]
theorem take_snoc (zs : List Int) (k : Nat) (h : k < zs.length) : zs.take k ++ [zs.getD k 0] = zs.take (k + 1) := by
  rw [List.take_succ_eq_append_getElem h]; simp [List.getD_eq_getElem?_getD, h]
/-- the five cells of a block, by the block -/
theorem B5.at {w w' : World} {b : Nat} {x0 x1 x2 x3 x4 : Value} (h : B5 w b x0 x1 x2 x3 x4) (he : w'.heap[b]? = w.heap[b]?) : B5 w' b x0 x1 x2 x3 x4 := by
  obtain ⟨a0, a1, a2, a3, a4⟩ := h
  exact ⟨(World.cell?_of_block (a := ⟨b, 0, none⟩) he).trans a0, (World.cell?_of_block (a := ⟨b, 1, none⟩) he).trans a1, (World.cell?_of_block (a := ⟨b, 2, none⟩) he).trans a2, (World.cell?_of_block (a := ⟨b, 3, none⟩) he).trans a3, (World.cell?_of_block (a := ⟨b, 4, none⟩) he).trans a4⟩
theorem fz_at {w w' : World} {b : Nat} (h : ∀ k, w.frozen? ⟨b, k, none⟩ = false) (he : w'.heap[b]? = w.heap[b]?) : ∀ k, w'.frozen? ⟨b, k, none⟩ = false := fun k => (World.frozen?_of_block (a := ⟨b, k, none⟩) he).trans (h k)
/-- the list that is asked for, beside the list that is made -/
structure Asks (w : World) (A B : Nat) (va v : Value) (k : Nat) (L M : List Int) : Prop where
  cell : w.cell? ⟨A, 0, none⟩ = some va
  fz : w.frozen? ⟨A, 0, none⟩ = false
  own : w.ownsRow B 3 1 va k (ints L)
  row : w.ownsRow B 3 1 v k (ints M)
  ne : ∀ g, va.ownBlock = some g → v.ownBlock ≠ some g
theorem Asks.step {w w1 w9 : World} {A B : Nat} {va v : Value} {k : Nat} {L M : List Int} (a : Asks w A B va v k L M) {g c' : Nat} {z f : Int} (hAB : A < B) (hB : B ≤ w.heap.size)
    (c1 : w1.cell? ⟨A, 0, none⟩ = some (.slice (some ⟨g, 0, none⟩) (k + 1) c')) (f1 : w1.frozen? ⟨A, 0, none⟩ = false) (o1 : w1.ownsRow B 3 1 (.slice (some ⟨g, 0, none⟩) (k + 1) c') (k + 1) (ints (L ++ [z])))
    (hg : va.ownBlock = some g ∨ w.heap.size ≤ g) (hlt : g < w1.heap.size) {o : Obj} (hgrow : (w1.alloc o).grownBy w9 v.ownBlock) {g9 c9 : Nat}
    (hown9 : w9.ownsRow B 3 1 (.slice (some ⟨g9, 0, none⟩) (k + 1) c9) (k + 1) (ints (M ++ [f]))) (hat : v.ownBlock = some g9 ∨ g9 = w1.heap.size + 1) :
    Asks w9 A B (.slice (some ⟨g, 0, none⟩) (k + 1) c') (.slice (some ⟨g9, 0, none⟩) (k + 1) c9) (k + 1) (L ++ [z]) (M ++ [f]) := by
  have nA : some A ≠ v.ownBlock := fun e => by have := (a.row.lt A e.symm).1; omega
  have ng : v.ownBlock ≠ some g := by
    rcases hg with h | h
    · exact a.ne g h
    · intro e; have := (a.row.lt g e).2; omega
  have hA1 : A < w1.heap.size := World.block_lt_of_cell? w1 _ c1
  refine ⟨hgrow.cell (a := ⟨A, 0, none⟩) (Lib.cell?_alloc_some _ c1) nA, ?_, ?_, hown9, ?_⟩
  · exact (hgrow.frozen_far ⟨A, 0, none⟩ (by show A < _; simp; omega) nA).trans (((below_alloc w1 o).frozen (p := ⟨A, 0, none⟩) hA1).trans f1)
  · exact (o1.alloc o).kept hgrow (.inr (fun e => ng (by rw [← e]; rfl)))
  · intro j hj e
    simp [Value.ownBlock] at hj e
    subst hj
    rcases hat with h | h
    · exact ng (by rw [h, e])
    · omega
set_option maxRecDepth 100000 in
set_option maxHeartbeats 1000000 in
theorem canon20 (A tb : Nat) (op wd vl : Int) (name : ByteArray) (p q : Option Addr) (c cq : Nat) (zs ts : List Int) (wS w : World) (hS : BK wS w) (hSA : wS.heap.size ≤ A) (hAw : A < w.heap.size) (htS : tb < wS.heap.size)
    (hA : w.cell? ⟨A, 0, none⟩ = some (.slice none 0 0)) (hfA : w.frozen? ⟨A, 0, none⟩ = false) (hp : ∀ wc, BK wS wc → Ra wc p zs) (hq : ∀ wc, BK wS wc → Ra wc q ts) (hT : ∀ wc, BK wS wc → wc.cell? ⟨tb, 0, none⟩ = some (.slice q ts.length cq)) (hl : zs.length ≤ 1000) :
    Calls Tryd.prog 19 #[.agg #[.int .i64 op, .int .i64 wd, .int .u64 vl, .string name, .slice p zs.length c], .func (Fn.func 20) #[] #[.pointer (some ⟨A, 0, none⟩), .pointer (some ⟨tb, 0, none⟩)]] w fun e w' => ∃ p' c' va, e = .returned (.agg #[.int .i64 op, .int .i64 wd, .int .u64 vl, .string name, .slice p' zs.length c']) ∧ Asks w' A (w.heap.size + 2) va (.slice p' zs.length c') zs.length zs (mapF ts zs zs.length) ∧ BK wS w' := by
  obtain ⟨i3, hi3, hz3, hs3, hb3⟩ := info_parts info3
  have hk0 : BK w ((w.alloc (.cells #[.int .i64 op, .int .i64 wd, .int .u64 vl, .string name, .slice p zs.length c] 26)).alloc (.cells #[.int .i64 0, .int .i64 0, .int .u64 0, .string ⟨#[]⟩, .slice none 0 0] 26)) := bk_alloc (bk_alloc (BK.refl w) _) _
  have hx := (b5_new w (.int .i64 op) (.int .i64 wd) (.int .u64 vl) (.string name) (.slice p zs.length c) 26).keep (bk_alloc (BK.refl _) (.cells #[.int .i64 0, .int .i64 0, .int .u64 0, .string ⟨#[]⟩, .slice none 0 0] 26)) (by simp)
  have hfx := fz_keep (fz_new w #[.int .i64 op, .int .i64 wd, .int .u64 vl, .string name, .slice p zs.length c] 26) (bk_alloc (BK.refl _) (.cells #[.int .i64 0, .int .i64 0, .int .u64 0, .string ⟨#[]⟩, .slice none 0 0] 26)) (by simp)
  have hy := b5_new (w.alloc (.cells #[.int .i64 op, .int .i64 wd, .int .u64 vl, .string name, .slice p zs.length c] 26)) (.int .i64 0) (.int .i64 0) (.int .u64 0) (.string ⟨#[]⟩) (.slice none 0 0) 26
  have hfy := fz_new (w.alloc (.cells #[.int .i64 op, .int .i64 wd, .int .u64 vl, .string name, .slice p zs.length c] 26)) #[.int .i64 0, .int .i64 0, .int .u64 0, .string ⟨#[]⟩, .slice none 0 0] 26
  have hsz : ((w.alloc (.cells #[.int .i64 op, .int .i64 wd, .int .u64 vl, .string name, .slice p zs.length c] 26)).alloc (.cells #[.int .i64 0, .int .i64 0, .int .u64 0, .string ⟨#[]⟩, .slice none 0 0] 26)).heap.size = w.heap.size + 2 := by simp
  rw [show (w.alloc (.cells #[.int .i64 op, .int .i64 wd, .int .u64 vl, .string name, .slice p zs.length c] 26)).heap.size = w.heap.size + 1 by simp] at hy hfy
  have hA0 := ((show Below w.heap.size w _ from hk0).cell (p := ⟨A, 0, none⟩) hAw).trans hA
  have hfA0 := ((show Below w.heap.size w _ from hk0).frozen (p := ⟨A, 0, none⟩) hAw).trans hfA
  have hnf : ∀ w, (binOp .eql 36 (.func (Fn.func 20) #[] #[.pointer (some ⟨A, 0, none⟩), .pointer (some ⟨tb, 0, none⟩)]) .nilFunc).run Tryd.prog w = .ok (.bool false) w := fun w => by kernel_rfl
  have HP := Lib.hid hp
  have HQ := Lib.hid hq
  have HT := Lib.hid hT
  have HS := Lib.hid hS
  clear hp hq hT hA hfA hS
  go_enter Tryd.func19, Tryd.ntmps19
  go_wp2_with fail
  generalize (w.alloc (.cells #[.int .i64 op, .int .i64 wd, .int .u64 vl, .string name, .slice p zs.length c] 26)).alloc (.cells #[.int .i64 0, .int .i64 0, .int .u64 0, .string ⟨#[]⟩, .slice none 0 0] 26) = w0 at hk0 hx hfx hy hfy hsz hA0 hfA0 ⊢
  clear hnf
  have K0 := Lib.hid (bk_tr HS.out hk0)
  have X0 := Lib.hid (And.intro hx (And.intro hy (And.intro hfx hfy)))
  have Hz := Lib.hid hsz
  have A0 := Lib.hid (And.intro hA0 hfA0)
  clear hk0 hx hfx hy hfy hsz hA0 hfA0
  go_loopw [5, 13] (fun v x wr => ∃ (k : Nat) (va : Value), k ≤ zs.length ∧ x = .int .i64 k ∧ Asks wr A (w.heap.size + 2) va v k (zs.take k) (mapF ts zs k) ∧ (B5 wr w.heap.size (.int .i64 op) (.int .i64 wd) (.int .u64 vl) (.string name) (.slice p zs.length c) ∧ B5 wr (w.heap.size + 1) (.int .i64 0) (.int .i64 0) (.int .u64 0) (.string ⟨#[]⟩) (.slice none 0 0) ∧ (∀ k, wr.frozen? ⟨w.heap.size, k, none⟩ = false) ∧ ∀ k, wr.frozen? ⟨w.heap.size + 1, k, none⟩ = false) ∧ BK wS wr ∧ w.heap.size + 2 ≤ wr.heap.size) (fun _ x _ => zs.length - (intOf x).toNat)
  case atStart => exact ⟨0, .slice none 0 0, Nat.zero_le _, rfl, ⟨A0.out.1, A0.out.2, World.ownsRow_nil _ _ _ _, World.ownsRow_nil _ _ _ _, fun g h => by cases h⟩, X0.out, K0.out, by have := Hz.out; omega⟩
  case round =>
    obtain ⟨k, va, hk, rfl, hask, hbx, hkw, hsz2⟩ := hrel
    have HK := Lib.hid hkw
    have HAsk := Lib.hid hask
    have HB := Lib.hid hbx
    by_cases hlt : k < zs.length
    · obtain ⟨b, off, rfl, hlb, hcell⟩ := (HP.out wS (BK.refl _)) (by omega)
      have d := ((show Below wS.heap.size wS wr from hkw).cell (p := ⟨b, off + k, none⟩) hlb).trans (hcell k hlt)
      have hms := Lib.hid (mapF_succ ts zs k hlt)
      have hts := Lib.hid (take_snoc zs k hlt)
      have HC := Lib.hid (fun z => fun20 A tb va k (w.heap.size + 2) (zs.take k) q cq ts z wr hask.cell hask.fz hask.own (HT.out _ hkw) (fun wc h => HQ.out _ (bk_tr hkw h)) (fun wc h => HQ.out _ (h.bel wS hkw hSA (fun g hg => by have := (hask.own.lt g hg).1; have := bk_size HS.out; omega))) (by omega) hsz2 (by omega) (by omega) (by omega))
      clear hcell hask hbx hkw
      generalize zs.getD k 0 = z at d hms hts
      go_wp2_with fail
      refine (HC.out z).mono ?_
      rintro e w1 ⟨rfl, g, c1, p1, p2, p3, p4, p5, p6⟩
      have bl : ∀ j, j < w.heap.size + 2 → j ≠ A → w1.heap[j]? = wr.heap[j]? := fun j hj hne => p6.blk j (by omega) hne (fun e => by have := (HAsk.out.own.lt j e.symm).1; omega)
      have row1 := own_at (w' := w1) HAsk.out.row (fun j hj => p6.blk j (HAsk.out.row.lt j hj).2 (by have := (HAsk.out.row.lt j hj).1; omega) (fun e => HAsk.out.ne j e.symm hj))
      have kb1 : BK wS w1 := p6.bel wS HK.out hSA (fun g hg => by have := (HAsk.out.own.lt g hg).1; have := bk_size HS.out; omega)
      have bx1 := And.intro (HB.out.1.at (bl _ (by omega) (by omega))) (And.intro (HB.out.2.1.at (bl _ (by omega) (by omega))) (And.intro (fz_at HB.out.2.2.1 (bl _ (by omega) (by omega))) (fz_at HB.out.2.2.2 (bl _ (by omega) (by omega)))))
      have sz1 : w.heap.size + 2 ≤ w1.heap.size := by have := p6.size; omega
      have R1 := Lib.hid row1
      have KB1 := Lib.hid kb1
      have BX1 := Lib.hid bx1
      have PP := Lib.hid (And.intro p1 (And.intro p2 (And.intro p3 (And.intro p4 p5))))
      clear p1 p2 p3 p4 p5 p6 bl row1 kb1 bx1 d
      go_wp2_with (at_builtin; go_must (refine wpList_append_lies _ rfl _ _ 24 rfl (w.heap.size + 2) 3 i3 (.int .i64 0) 1 8 Tryd.underlying24 hi3 hz3 hs3 hb3 rfl (by decide) _ k _ rfl (R1.out.alloc _) ⟨w1.heap.size, 0, none⟩ 1 1 [.int .i64 (findL ts z)] rfl rfl (World.news_of_block (cs := #[.int .i64 (findL ts z)]) (t := 3) (fr := (0, 0)) (heap_alloc_new w1 _)) (by simp [Value.oneCell']) (by decide) (by unfold maxLen; omega) (by omega) (by simp; omega) (w1.heap.size + 1) (by simp) ?_))
      intro g9 c9 w9 hown9 hgrow hat hlt9
      rw [← ints_snoc] at hown9
      have a9 := HAsk.out.step (by omega) hsz2 PP.out.1 PP.out.2.1 PP.out.2.2.1 PP.out.2.2.2.1 PP.out.2.2.2.2 hgrow hown9 hat
      have hm : mapF ts zs k ++ [findL ts z] = mapF ts zs (k + 1) := by
        have := hms.out
        rw [← ints_snoc] at this
        unfold ints at this
        exact ((List.map_inj_right (by intro a b h; simpa using h)).1 this).symm
      rw [hts.out, hm] at a9
      have bl9 : ∀ j, j < w.heap.size + 2 → w9.heap[j]? = w1.heap[j]? := fun j hj => (hgrow.block j (by simp; omega) (fun e => by have := (R1.out.lt j e.symm).1; omega)).trans (heap_alloc_old w1 _ (by omega))
      have bx9 := And.intro (BX1.out.1.at (bl9 _ (by omega))) (And.intro (BX1.out.2.1.at (bl9 _ (by omega))) (And.intro (fz_at BX1.out.2.2.1 (bl9 _ (by omega))) (fz_at BX1.out.2.2.2 (bl9 _ (by omega)))))
      have kb9 : BK wS w9 := ((show Below wS.heap.size wS w1 from KB1.out).alloc (bk_size KB1.out) _).grown hgrow (by have := bk_size KB1.out; simp; omega) (fun r hr => by have := (R1.out.lt r hr).1; have := bk_size HS.out; omega)
      have A9 := Lib.hid a9
      have B9 := Lib.hid bx9
      have K9 := Lib.hid kb9
      have sz9 : w.heap.size + 2 ≤ w9.heap.size := by have := hgrow.size; simp at this; omega
      clear hown9 hgrow hat hlt9 a9 bl9 bx9 kb9
      go_wp2_with fail
      go_roundw
      case rel => exact ⟨k + 1, _, by omega, by go_num, A9.out, B9.out, K9.out, sz9⟩
      case measure => simp [intOf]; omega
    · obtain rfl : k = zs.length := by omega
      obtain ⟨p1, c1, rfl⟩ := own_shape hask.row
      obtain ⟨⟨x0, x1, x2, x3, x4⟩, ⟨y0, y1, y2, y3, y4⟩, fx, fy⟩ := hbx
      clear hask hkw
      go_wp2_with fail
      refine bodyPost_ret (v := .agg #[.int .i64 op, .int .i64 wd, .int .u64 vl, .string name, .slice p1 zs.length c1]) (by simp [results, Tryd.results19, go_sem, y0, y1, y2, y3, y4]) rfl ⟨p1, c1, va, rfl, ?_, ?_⟩
      · have h := HAsk.out
        rw [List.take_length] at h
        refine ⟨?_, ?_, ?_, ?_, h.ne⟩
        · have hc := h.cell
          have n1 : A ≠ w.heap.size := by omega
          have n2 : A ≠ w.heap.size + 1 := by omega
          have n3 : w.heap.size ≠ A := by omega
          have n4 : w.heap.size + 1 ≠ A := by omega
          go_simp
        · have hc := h.fz
          go_simp
        · exact own_set (own_set (own_set (own_set (own_set (own_set h.own _ _ (by simp; try omega)) _ _ (by simp; try omega)) _ _ (by simp; try omega)) _ _ (by simp; try omega)) _ _ (by simp; try omega)) _ _ (by simp; try omega)
        · exact own_set (own_set (own_set (own_set (own_set (own_set h.row _ _ (by simp; try omega)) _ _ (by simp; try omega)) _ _ (by simp; try omega)) _ _ (by simp; try omega)) _ _ (by simp; try omega)) _ _ (by simp; try omega)
      · exact bk_set (bk_set (bk_set (bk_set (bk_set (bk_set HK.out _ _ (by have := bk_size HS.out; simp; omega)) _ _ (by have := bk_size HS.out; simp; omega)) _ _ (by have := bk_size HS.out; simp; omega)) _ _ (by have := bk_size HS.out; simp; omega)) _ _ (by have := bk_size HS.out; simp; omega)) _ _ (by have := bk_size HS.out; simp; omega)
end Go.Proofs.YtclefcjojlkcnaaDoor
