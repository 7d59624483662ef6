/- Copies of terms. -/
import Derived.Test.YtnlpiaejfmdckaaDoorH
namespace Go.Proofs.YtnlpiaejfmdckaaDoor
open Go.RowKit
set_option linter.unusedVariables false
set_option linter.unusedSimpArgs false
/-- five cells written -/
def put5 (w : World) (g o : Nat) (x0 x1 x2 x3 x4 : Value) : World := ((((w.setCell ⟨g, o, none⟩ x0).setCell ⟨g, o + 1, none⟩ x1).setCell ⟨g, o + 2, none⟩ x2).setCell ⟨g, o + 3, none⟩ x3).setCell ⟨g, o + 4, none⟩ x4
theorem put5_size (w : World) (g o : Nat) (x0 x1 x2 x3 x4 : Value) : (put5 w g o x0 x1 x2 x3 x4).heap.size = w.heap.size := by simp [put5, World.setCell]
theorem put5_other {w : World} (g o : Nat) (x0 x1 x2 x3 x4 : Value) (k : Nat) (hk : k ≠ g) : (put5 w g o x0 x1 x2 x3 x4).heap[k]? = w.heap[k]? := by
  unfold put5
  rw [heap_setCell_other _ _ k _ hk, heap_setCell_other _ _ k _ hk, heap_setCell_other _ _ k _ hk, heap_setCell_other _ _ k _ hk, heap_setCell_other _ _ k _ hk]
theorem put5_bk {w0 w : World} (h : BK w0 w) (g o : Nat) (x0 x1 x2 x3 x4 : Value) (hg : w0.heap.size ≤ g) : BK w0 (put5 w g o x0 x1 x2 x3 x4) :=
  bk_set (bk_set (bk_set (bk_set (bk_set h _ _ hg) _ _ hg) _ _ hg) _ _ hg) _ _ hg
theorem put5_cells {w : World} {g : Nat} {cs : Array Value} {t : Nat} (h : w.heap[g]? = some (.cells cs t (0, 0))) (o : Nat) (x0 x1 x2 x3 x4 : Value) : (put5 w g o x0 x1 x2 x3 x4).heap[g]? = some (.cells (((((cs.setIfInBounds o x0).setIfInBounds (o + 1) x1).setIfInBounds (o + 2) x2).setIfInBounds (o + 3) x3).setIfInBounds (o + 4) x4) t (0, 0)) := by
  unfold put5
  exact heap_setCell_same _ g (o + 4) _ t x4 (heap_setCell_same _ g (o + 3) _ t x3 (heap_setCell_same _ g (o + 2) _ t x2 (heap_setCell_same _ g (o + 1) _ t x1 (heap_setCell_same _ g o _ t x0 h))))
theorem put5_heap {w : World} {g : Nat} {cs : Array Value} {t : Nat} (h : w.heap[g]? = some (.cells cs t (0, 0))) (h5 : cs.size = 5) (x0 x1 x2 x3 x4 : Value) : (put5 w g 0 x0 x1 x2 x3 x4).heap[g]? = some (.cells #[x0, x1, x2, x3, x4] t (0, 0)) := by
  rw [put5_cells h]
  obtain ⟨l⟩ := cs
  match l, h5 with
  | [a, b, c, d, e], _ => rfl
theorem put5_at {w : World} {g : Nat} {cs : Array Value} {t : Nat} (h : w.heap[g]? = some (.cells cs t (0, 0))) (o : Nat) (ho : o + 5 ≤ cs.size) (x0 x1 x2 x3 x4 : Value) : C5 (put5 w g o x0 x1 x2 x3 x4) g o x0 x1 x2 x3 x4 := by
  have hc := put5_cells h o x0 x1 x2 x3 x4
  refine ⟨?_, ?_, ?_, ?_, ?_⟩ <;> rw [cell_of_row _ g _ _ t (0, 0) hc] <;> simp [Array.getElem?_setIfInBounds] <;> omega
theorem put5_off {w : World} {g : Nat} {cs : Array Value} {t : Nat} (h : w.heap[g]? = some (.cells cs t (0, 0))) (o j : Nat) (hj : j < o ∨ o + 5 ≤ j) (x0 x1 x2 x3 x4 : Value) : (put5 w g o x0 x1 x2 x3 x4).cell? ⟨g, j, none⟩ = w.cell? ⟨g, j, none⟩ := by
  have hc := put5_cells h o x0 x1 x2 x3 x4
  rw [cell_of_row _ g _ _ t (0, 0) hc, cell_of_row _ g _ _ t (0, 0) h]
  simp only [Array.getElem?_setIfInBounds]
  rw [if_neg (by omega), if_neg (by omega), if_neg (by omega), if_neg (by omega), if_neg (by omega)]
def zT : Array Value := #[.int .i64 0, .int .i64 0, .int .u64 0, .string ⟨#[]⟩, .slice none 0 0]
/-- what a copy leaves -/
def CP (w : World) (t : T) (e : Ending) (w' : World) : Prop := (∃ q d, e = .returned (.agg #[.int .i64 t.op, .int .i64 t.wd, .int .u64 t.vl, .string t.nm, .slice q t.ts.length d]) ∧ RowD (mem w.heap.size w') w' q d t.ts) ∧ BK w w'
def CL (w : World) (ts : List T) (e : Ending) (w' : World) : Prop := (∃ q d, e = .returned (.slice q ts.length d) ∧ RowD (mem w.heap.size w') w' q d ts) ∧ BK w w'
set_option maxRecDepth 100000 in
set_option maxHeartbeats 8000000 in
theorem copy62 (op wd : Int) (vl : Nat) (nm : ByteArray) (ts : List T) (H77 : ∀ (w : World) p c, RowD (mem 0 w) w p c ts → Calls Tryd.prog 77 #[.slice p ts.length c] w (CL w ts)) (w : World) (p : Option Addr) (c : Nat) (hp : RowD (mem 0 w) w p c ts) :
    Calls Tryd.prog 62 #[.agg #[.int .i64 op, .int .i64 wd, .int .u64 vl, .string nm, .slice p ts.length c]] w (CP w (.mk op wd vl nm ts)) := by
  obtain ⟨h1, h2, h3⟩ := two_boxes w #[.int .i64 op, .int .i64 wd, .int .u64 vl, .string nm, .slice p ts.length c] zT 42 42
  have KA := Lib.hid h1
  have NA := Lib.hid h2
  have NB := Lib.hid h3
  have x4 := cell_of_row _ w.heap.size 4 _ 42 (0, 0) h2
  have C77 := Lib.hid (H77 _ p c (hp.bk h1 (Nat.le_refl _)))
  clear h1 h2 h3 hp H77
  unfold zT at KA NA NB C77 x4
  go_enter Tryd.func62, Tryd.ntmps62
  go_wp2_with fail
  refine C77.out.mono ?_
  rintro e w2 ⟨⟨q, d, rfl, hr2⟩, hb2⟩
  have N2 := Lib.hid ((bk_block hb2 (Array.getElem?_eq_some_iff.1 NA.out).1).trans NA.out)
  have M2 := Lib.hid ((bk_block hb2 (Array.getElem?_eq_some_iff.1 NB.out).1).trans NB.out)
  have R2 := Lib.hid hr2
  have K2 := Lib.hid (bk_tr KA.out hb2)
  have SZ := Lib.hid (show ((w.alloc (.cells #[.int .i64 op, .int .i64 wd, .int .u64 vl, .string nm, .slice p ts.length c] 42)).alloc (.cells #[.int .i64 0, .int .i64 0, .int .u64 0, .string ⟨#[]⟩, .slice none 0 0] 42)).heap.size = w.heap.size + 2 from by rw [sz1, sz1])
  clear hb2 hr2 x4
  have x0 := cell_of_row _ w.heap.size 0 _ 42 (0, 0) N2.out
  have x1 := cell_of_row _ w.heap.size 1 _ 42 (0, 0) N2.out
  have x2 := cell_of_row _ w.heap.size 2 _ 42 (0, 0) N2.out
  have x3 := cell_of_row _ w.heap.size 3 _ 42 (0, 0) N2.out
  have x4 := cell_of_row _ w.heap.size 4 _ 42 (0, 0) N2.out
  have y0 := cell_of_row _ (w.heap.size + 1) 0 _ 42 (0, 0) M2.out
  have y1 := cell_of_row _ (w.heap.size + 1) 1 _ 42 (0, 0) M2.out
  have y2 := cell_of_row _ (w.heap.size + 1) 2 _ 42 (0, 0) M2.out
  have y3 := cell_of_row _ (w.heap.size + 1) 3 _ 42 (0, 0) M2.out
  have y4 := cell_of_row _ (w.heap.size + 1) 4 _ 42 (0, 0) M2.out
  have f4 := frozen_of_row _ w.heap.size 4 _ 42 N2.out
  have g0 := frozen_of_row _ (w.heap.size + 1) 0 _ 42 M2.out
  have g1 := frozen_of_row _ (w.heap.size + 1) 1 _ 42 M2.out
  have g2 := frozen_of_row _ (w.heap.size + 1) 2 _ 42 M2.out
  have g3 := frozen_of_row _ (w.heap.size + 1) 3 _ 42 M2.out
  have g4 := frozen_of_row _ (w.heap.size + 1) 4 _ 42 M2.out
  go_wp2_with fail
  exact bodyPost_ret (v := .agg #[.int .i64 op, .int .i64 wd, .int .u64 vl, .string nm, .slice q ts.length d]) (results_cell_row Tryd.results62 _ _ (w.heap.size + 1) 42 #[.int .i64 op, .int .i64 wd, .int .u64 vl, .string nm, .slice q ts.length d] (0, 0) _ rfl (put5_heap (w := w2.setCell ⟨w.heap.size, 4, none⟩ (.slice q ts.length d)) ((heap_setCell_other _ _ _ _ (by show w.heap.size + 1 ≠ w.heap.size; omega)).trans M2.out) rfl _ _ _ _ _) Tryd.underlying42 rfl (by kernel_rfl)) rfl
    ⟨⟨q, d, rfl, R2.out.keep fun k hk => by
      have hk1 := hk.1
      rw [SZ.out] at hk1
      refine ⟨(put5_other (w := w2.setCell ⟨w.heap.size, 4, none⟩ (.slice q ts.length d)) (w.heap.size + 1) 0 _ _ _ _ _ k (by omega)).trans (heap_setCell_other _ _ _ _ (by show k ≠ w.heap.size; omega)), ?_, by show k < (put5 (w2.setCell ⟨w.heap.size, 4, none⟩ (.slice q ts.length d)) (w.heap.size + 1) 0 (.int .i64 op) (.int .i64 wd) (.int .u64 vl) (.string nm) (.slice q ts.length d)).heap.size; rw [put5_size]; have := hk.2; simpa [World.setCell] using this⟩
      show w.heap.size ≤ k; omega⟩, put5_bk (bk_set K2.out ⟨w.heap.size, 4, none⟩ (.slice q ts.length d) (Nat.le_refl _)) (w.heap.size + 1) 0 _ _ _ _ _ (by omega)⟩
end Go.Proofs.YtnlpiaejfmdckaaDoor
