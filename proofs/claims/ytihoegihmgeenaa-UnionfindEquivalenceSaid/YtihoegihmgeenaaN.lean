/- undoUnion. -/
import Derived.Test.YtihoegihmgeenaaJ
import Derived.Deep.DeepMust
namespace Go.Proofs.Ytihoegihmgeenaa
open Go.RowKit
set_option linter.unusedVariables false
set_option linter.unusedSimpArgs false
theorem blk_cells {w : World} {hp : Nat} {x y : Value} (h : w.heap[hp]? = some (.cells #[x, y] 53 (0, 0))) : w.cell? ⟨hp, 0, none⟩ = some x ∧ w.cell? ⟨hp, 1, none⟩ = some y :=
  ⟨by rw [cell_of_row w hp 0 _ 53 (0, 0) h]; rfl, by rw [cell_of_row w hp 1 _ 53 (0, 0) h]; rfl⟩
theorem st_alloc (w : World) (o : Obj) (q : Nat) (F : Nat → Prop) : Step w ((w.alloc o).drewN q) F F :=
  ⟨rfl, rfl, rfl, by show w.heap.size ≤ (w.alloc o).heap.size; simp, fun k hk _ => heap_alloc_old w o hk, fun _ h => .inl h⟩
theorem SxL.alloc {w : World} {B b : Nat} {rows : List Row} (S : SxL w B b rows) (o : Obj) (q : Nat) : SxL ((w.alloc o).drewN q) B b rows := S.keep fun k hk => heap_alloc_old w o (S.lt' k hk)
theorem heap_drew (w : World) (q k : Nat) : (w.drewN q).heap[k]? = w.heap[k]? := rfl
set_option maxRecDepth 100000 in
set_option maxHeartbeats 8000000 in
theorem undoUnion_raw (W0 : World) (F0 : Nat → Prop) (B b n m r c a d : Nat) (l : Nat) (x1 x2 x3 x4 : List Nat) (x5 : List (Int × Int)) (w : World) (Q : RW W0 F0 B b n m x1 x2 x3 x4 x5 w)
    (hn : n ≤ 100000) (hr : r < n) (hc : c < n) (hrc : r ≠ c) (h1 : x1.getD c 0 = r) (ha : x2.getD r 0 = a) (hd : x2.getD c 0 = d) (hda : d ≤ a) (hb : a ≤ 2 ^ 62) :
    Calls Try.prog 31 #[.pointer (some ⟨b, 0, none⟩), .agg #[.int .i64 c, .int .i64 l]] w fun e w' => e = .returned (.tuple #[]) ∧ RW W0 F0 B b n m (x1.set c c) (x2.set r (a - d)) (x3.set r l) ((x4.set r (x4.getD c 0)).set c (x4.getD r 0)) x5 w' := by
  obtain ⟨g1, c1, g2, c2, g3, c3, g4, c4, g5, c5, S, T⟩ := Q
  have HSP := Lib.hid (And.intro S T)
  have A := five_fct S
  have k1 : w.cell? ⟨b, 1, none⟩ = some (sl g1 n c1) := A.k1
  have d1 := A.d1 c hc
  have lt : b < w.heap.size := A.lt.2
  have lg1 : g1 < w.heap.size := S.lt' g1 (.inr ⟨⟨sl g1 n c1, 3, 1, n, nums x1⟩, by simp [five], rfl⟩)
  have lg2 : g2 < w.heap.size := S.lt' g2 (.inr ⟨⟨sl g2 n c2, 3, 1, n, nums x2⟩, by simp [five], rfl⟩)
  have lg3 : g3 < w.heap.size := S.lt' g3 (.inr ⟨⟨sl g3 n c3, 3, 1, n, nums x3⟩, by simp [five], rfl⟩)
  have lg4 : g4 < w.heap.size := S.lt' g4 (.inr ⟨⟨sl g4 n c4, 3, 1, n, nums x4⟩, by simp [five], rfl⟩)
  rw [h1] at d1
  have H1 := Lib.hid h1
  have HA := Lib.hid ha
  have HD := Lib.hid hd
  have HB := Lib.hid hb
  have hci : (c : Int) < (n : Int) := by omega
  have hri : (r : Int) < (n : Int) := by omega
  clear h1 ha hd hb A S T
  go_enter Try.func31, Try.ntmps31
  go_wp2_with fail
  go_quiet (fail)
  go_wp2_with fail
  have S1 := HSP.out.1.alloc (.cells #[.int .i64 c, .int .i64 l] 53) nq
  have T1 := HSP.out.2.trans (st_alloc w (.cells #[.int .i64 c, .int .i64 l] 53) nq _)
  have ob : ((w.alloc (.cells #[.int .i64 c, .int .i64 l] 53)).drewN nq).heap[w.heap.size]? = some (.cells #[.int .i64 c, .int .i64 l] 53 (0, 0)) := heap_alloc_new w _
  have hw1 : w.heap.size < ((w.alloc (.cells #[.int .i64 c, .int .i64 l] 53)).drewN nq).heap.size := by show _ < (w.alloc _).heap.size; simp
  generalize (w.alloc (.cells #[.int .i64 c, .int .i64 l] 53)).drewN nq = W1 at S1 T1 ob hw1 ⊢
  generalize w.heap.size = hp at lt lg1 lg2 lg3 lg4 ob hw1 ⊢
  clear k1 d1 HSP
  have A := five_fct S1
  refine (swap_raw b g4 n c4 r c _ _ W1 hn hr hc hrc A.k4 (A.d4 r hr) (A.d4 c hc) (A.f4 r) (A.f4 c)).mono ?_
  rintro e w' ⟨rfl, q, rfl⟩
  have P := SxL.store (L := [⟨sl g1 n c1, 3, 1, n, nums x1⟩, ⟨sl g2 n c2, 3, 1, n, nums x2⟩, ⟨sl g3 n c3, 3, 1, n, nums x3⟩]) (j := r) (u := .int .i64 (x4.getD c 0 : Nat)) S1
  have P2 := SxL.store (L := [⟨sl g1 n c1, 3, 1, n, nums x1⟩, ⟨sl g2 n c2, 3, 1, n, nums x2⟩, ⟨sl g3 n c3, 3, 1, n, nums x3⟩]) (j := c) (u := .int .i64 (x4.getD r 0 : Nat)) P.1
  have T2 := ((T1.trans P.2).trans P2.2).trans (st_drew _ q _)
  have S2 : SxL (((W1.setCell ⟨g4, r, none⟩ (.int .i64 (x4.getD c 0 : Nat))).setCell ⟨g4, c, none⟩ (.int .i64 (x4.getD r 0 : Nat))).drewN q) B b (five n m g1 c1 g2 c2 g3 c3 g4 c4 g5 c5 x1 x2 x3 ((x4.set r (x4.getD c 0)).set c (x4.getD r 0)) x5) := by
    have := P2.1
    rw [← nums_set, ← nums_set] at this
    exact this.keep fun _ _ => rfl
  rw [← nums_set, ← nums_set] at T2
  have ob2 : (((W1.setCell ⟨g4, r, none⟩ (.int .i64 (x4.getD c 0 : Nat))).setCell ⟨g4, c, none⟩ (.int .i64 (x4.getD r 0 : Nat))).drewN q).heap[hp]? = some (.cells #[.int .i64 c, .int .i64 l] 53 (0, 0)) := by
    rw [heap_drew, heap_set_other _ _ _ _ _ (by omega), heap_set_other _ _ _ _ _ (by omega)]; exact ob
  clear P P2 A S1 T1 ob hw1
  generalize ((W1.setCell ⟨g4, r, none⟩ (.int .i64 (x4.getD c 0 : Nat))).setCell ⟨g4, c, none⟩ (.int .i64 (x4.getD r 0 : Nat))).drewN q = W2 at S2 T2 ob2 ⊢
  generalize hy : (x4.set r (x4.getD c 0)).set c (x4.getD r 0) = y4 at S2 T2
  have Hy := Lib.hid hy
  clear hy
  have A := five_fct S2
  have k3 : W2.cell? ⟨b, 3, none⟩ = some (sl g3 n c3) := A.k3
  have d3 := A.d3 r hr
  have f3 := A.f3 r
  obtain ⟨o0, o1⟩ := blk_cells ob2
  have HST := Lib.hid (And.intro S2 T2)
  have Hob := Lib.hid ob2
  clear A S2 T2 ob2
  go_wp2_with fail
  go_region
  all_goals go_wp2_with fail
  have P := SxL.store (L := [⟨sl g1 n c1, 3, 1, n, nums x1⟩, ⟨sl g2 n c2, 3, 1, n, nums x2⟩]) (j := r) (u := .int .i64 l) HST.out.1
  rw [← nums_set] at P
  have S3 : SxL (W2.setCell ⟨g3, r, none⟩ (.int .i64 l)).drew B b (five n m g1 c1 g2 c2 g3 c3 g4 c4 g5 c5 x1 x2 (x3.set r l) y4 x5) := P.1.keep fun _ _ => rfl
  have T3 : Step W0 (W2.setCell ⟨g3, r, none⟩ (.int .i64 l)).drew F0 (foot b (five n m g1 c1 g2 c2 g3 c3 g4 c4 g5 c5 x1 x2 (x3.set r l) y4 x5)) := (HST.out.2.trans P.2).trans (st_drew _ 1 _)
  have ob3 : (W2.setCell ⟨g3, r, none⟩ (.int .i64 l)).drew.heap[hp]? = some (.cells #[.int .i64 c, .int .i64 l] 53 (0, 0)) := by
    show (W2.setCell ⟨g3, r, none⟩ (.int .i64 l)).heap[hp]? = _
    rw [heap_set_other _ _ _ _ _ (by omega)]; exact Hob.out
  clear P k3 d3 f3 o0 o1 HST Hob
  generalize (W2.setCell ⟨g3, r, none⟩ (.int .i64 l)).drew = W3 at S3 T3 ob3 ⊢
  have A := five_fct S3
  have k2 : W3.cell? ⟨b, 2, none⟩ = some (sl g2 n c2) := A.k2
  have d2 := A.d2 r hr
  have e2 := A.d2 c hc
  have f2 := A.f2 r
  rw [HA.out] at d2
  rw [HD.out] at e2
  obtain ⟨o0, o1⟩ := blk_cells ob3
  have HST := Lib.hid (And.intro S3 T3)
  have Hob := Lib.hid ob3
  have hb : a ≤ 4611686018427387904 := HB.out
  clear A S3 T3 ob3
  go_region
  all_goals go_wp2_with fail
  clear hb
  have hsub : ((a : Int) - (d : Int)) = ((a - d : Nat) : Int) := by omega
  rw [hsub]
  clear hsub
  have P := SxL.store (L := [⟨sl g1 n c1, 3, 1, n, nums x1⟩]) (j := r) (u := .int .i64 (a - d : Nat)) HST.out.1
  rw [← nums_set] at P
  have S4 : SxL (W3.setCell ⟨g2, r, none⟩ (.int .i64 (a - d : Nat))).drew B b (five n m g1 c1 g2 c2 g3 c3 g4 c4 g5 c5 x1 (x2.set r (a - d)) (x3.set r l) y4 x5) := P.1.keep fun _ _ => rfl
  have T4 : Step W0 (W3.setCell ⟨g2, r, none⟩ (.int .i64 (a - d : Nat))).drew F0 (foot b (five n m g1 c1 g2 c2 g3 c3 g4 c4 g5 c5 x1 (x2.set r (a - d)) (x3.set r l) y4 x5)) := (HST.out.2.trans P.2).trans (st_drew _ 1 _)
  have ob4 : (W3.setCell ⟨g2, r, none⟩ (.int .i64 (a - d : Nat))).drew.heap[hp]? = some (.cells #[.int .i64 c, .int .i64 l] 53 (0, 0)) := by
    show (W3.setCell ⟨g2, r, none⟩ (.int .i64 (a - d : Nat))).heap[hp]? = _
    rw [heap_set_other _ _ _ _ _ (by omega)]; exact Hob.out
  clear P k2 d2 e2 f2 o0 o1 HST Hob
  generalize (W3.setCell ⟨g2, r, none⟩ (.int .i64 (a - d : Nat))).drew = W4 at S4 T4 ob4 ⊢
  have A := five_fct S4
  have k1 : W4.cell? ⟨b, 1, none⟩ = some (sl g1 n c1) := A.k1
  have d1 := A.d1 c hc
  have f1 := A.f1 c
  rw [H1.out] at d1
  obtain ⟨o0, o1⟩ := blk_cells ob4
  have HST := Lib.hid (And.intro S4 T4)
  clear A S4 T4 ob4
  go_region
  all_goals go_wp2_with fail
  all_goals go_end0
  exact ⟨rfl, by rw [Hy.out]; exact RW.set1 HST.out.1 HST.out.2 c c 1⟩
end Go.Proofs.Ytihoegihmgeenaa
