/- Package scheduler: Simulate. -/
import Derived.Test.YtbpmkbnldoeffaaE
namespace Go.Proofs.Ytbpmkbnldoeffaa
open Go.RowKit
set_option linter.unusedVariables false
set_option linter.unusedSimpArgs false
/-- one iteration -/
def stp (s : BO) (i f : Int) : BO := if rdB s.2.2.2 i then (nL s.1, nL s.2.1, rT s.1 s.2.2.1 f, rU s.1 s.2.1 s.2.2.1 s.2.2.2 i f) else s
def okB (s : BO) (i f : Int) : Bool := rdB s.2.2.2 i && tkB s.1 s.2.2.1 f
/-- the state ahead of iteration k -/
def stk (s : BO) (zs : List Int) : Nat → BO
  | 0 => s
  | k + 1 => stp (stk s zs k) k (zs.getD k 0)
def oks (s : BO) (zs : List Int) (k : Nat) : List Bool := (List.range k).map fun j => okB (stk s zs j) j (zs.getD j 0)
def bools (l : List Bool) : List Value := l.map Value.bool
theorem oks_succ (s : BO) (zs : List Int) (k : Nat) : bools (oks s zs (k + 1)) = bools (oks s zs k) ++ [.bool (okB (stk s zs k) k (zs.getD k 0))] := by
  unfold oks bools; rw [List.range_succ, List.map_append, List.map_append]; rfl
theorem oks_len (s : BO) (zs : List Int) (k : Nat) : (oks s zs k).length = k := by simp [oks]
theorem info4 : (Try.prog.info? 4).map (fun i => (i.zero, i.size, i.bytes)) = some (some (.bool false), 1, 1) := by kernel_rfl
/-- a boxed state that may be written -/
structure Bw (w : World) (p : Nat) (s : BO) : Prop where
  box : Bx w p (.int .i64 s.1) (.int .i64 s.2.1) (.int .i64 s.2.2.1) (.int .i64 s.2.2.2)
  free : ∀ k, w.frozen? ⟨p, k, none⟩ = false
  lt : p < w.heap.size
theorem Bw.keep {W w' : World} {p : Nat} {s : BO} (h : Bw W p s) (hb : BK W w') : Bw w' p s := by
  have hb' : Below W.heap.size W w' := hb
  exact ⟨h.box.keep hb h.lt, fun k => (hb'.frozen (p := ⟨p, k, none⟩) h.lt).trans (h.free k), Nat.lt_of_lt_of_le h.lt hb'.size⟩
theorem Bw.new (w : World) (s : BO) : Bw (w.alloc (.cells #[.int .i64 s.1, .int .i64 s.2.1, .int .i64 s.2.2.1, .int .i64 s.2.2.2] 26)) w.heap.size s :=
  ⟨box_new w _ _ _ _ 26, fun k => by rw [World.frozen?_alloc_new], by simp⟩
theorem Bw.set {w : World} {p : Nat} {s : BO} (s' : BO) (h : Bw w p s) : Bw (st4 w p (.int .i64 s'.1) (.int .i64 s'.2.1) (.int .i64 s'.2.2.1) (.int .i64 s'.2.2.2)) p s' :=
  ⟨bx_set h.box, fun k => by simp [h.free], by simpa using h.lt⟩
theorem Bw.grown {w w' : World} {row : Option Nat} {p : Nat} {s : BO} (h : Bw w p s) (hg : w.grownBy w' row) (hne : row ≠ some p) : Bw w' p s := by
  have hb : w'.heap[p]? = w.heap[p]? := hg.block p h.lt (fun e => hne e.symm)
  obtain ⟨a0, a1, a2, a3⟩ := h.box
  exact ⟨⟨(World.cell?_of_block (w := w) (a := ⟨p, 0, none⟩) hb).trans a0, (World.cell?_of_block (w := w) (a := ⟨p, 1, none⟩) hb).trans a1, (World.cell?_of_block (w := w) (a := ⟨p, 2, none⟩) hb).trans a2, (World.cell?_of_block (w := w) (a := ⟨p, 3, none⟩) hb).trans a3⟩,
    fun k => (World.frozen?_of_block (w := w) (a := ⟨p, k, none⟩) hb).trans (h.free k), by have := hg.size; have := h.lt; omega⟩
/-- what a round of Simulate keeps -/
structure SK (w wr : World) (s : BO) (v : Value) (k : Nat) (xs : List Value) : Prop where
  row : wr.ownsRow (w.heap.size + 1) 4 1 v k xs
  box : Bw wr w.heap.size s
  bel : Below w.heap.size w wr
theorem own_st4 {w : World} {B e sz n p : Nat} {v : Value} {xs : List Value} {x0 x1 x2 x3 : Value} (o : w.ownsRow B e sz v n xs) (hp : p < B) : (st4 w p x0 x1 x2 x3).ownsRow B e sz v n xs :=
  own_at o fun k hk => by
    have := (o.lt k hk).1
    have h1 := Below.heap_setCell (w := ((w.setCell ⟨p, 0, none⟩ x0).setCell ⟨p, 1, none⟩ x1).setCell ⟨p, 2, none⟩ x2) ⟨p, 3, none⟩ x3 k (by show k ≠ p; omega)
    have h2 := Below.heap_setCell (w := (w.setCell ⟨p, 0, none⟩ x0).setCell ⟨p, 1, none⟩ x1) ⟨p, 2, none⟩ x2 k (by show k ≠ p; omega)
    have h3 := Below.heap_setCell (w := w.setCell ⟨p, 0, none⟩ x0) ⟨p, 1, none⟩ x1 k (by show k ≠ p; omega)
    have h4 := Below.heap_setCell (w := w) ⟨p, 0, none⟩ x0 k (by show k ≠ p; omega)
    exact h1.trans (h2.trans (h3.trans h4))
theorem SK.keep {w wr w' : World} {s : BO} {v : Value} {k : Nat} {xs : List Value} (h : SK w wr s v k xs) (hb : BK wr w') : SK w w' s v k xs := by
  have hb' : Below wr.heap.size wr w' := hb
  exact ⟨own_below h.row hb', h.box.keep hb, h.bel.trans (hb'.mono h.bel.size)⟩
theorem SK.set {w wr : World} {s : BO} {v : Value} {k : Nat} {xs : List Value} (s' : BO) (h : SK w wr s v k xs) : SK w (st4 wr w.heap.size (.int .i64 s'.1) (.int .i64 s'.2.1) (.int .i64 s'.2.2.1) (.int .i64 s'.2.2.2)) s' v k xs :=
  ⟨own_st4 h.row (by omega), h.box.set s', below_set h.bel (Nat.le_refl _)⟩
theorem SK.grown {w wr w' : World} {s : BO} {v v' : Value} {k k' : Nat} {xs xs' : List Value} (h : SK w wr s v k xs) (o : Obj) (hg : (wr.alloc o).grownBy w' v.ownBlock) (hr : w'.ownsRow (w.heap.size + 1) 4 1 v' k' xs') : SK w w' s v' k' xs' := by
  refine ⟨hr, (h.box.keep (below_alloc wr o)).grown hg (fun e => ?_), ((h.bel.alloc h.bel.size o).grown hg (by have := h.bel.size; simp; omega) (fun r hr => ?_))⟩
  · have := (h.row.lt _ e).1; omega
  · have := (h.row.lt r hr).1; omega
end Go.Proofs.Ytbpmkbnldoeffaa
