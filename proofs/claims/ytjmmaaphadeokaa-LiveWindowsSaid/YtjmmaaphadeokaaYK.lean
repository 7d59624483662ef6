/- Appends and frames. -/
import Derived.Test.YtjmmaaphadeokaaYH
namespace Go.Proofs.Ytjmmaaphadeokaa
open Go.RowKit Go.Shelf
set_option linter.unusedVariables false
set_option linter.unusedSimpArgs false
theorem W4.setO {w : World} {b B j : Nat} {x0 x1 x2 x3 y : Value} (h : W4 w b x0 x1 x2 x3) (hne : b ≠ B) : W4 (w.setCell ⟨B, j, none⟩ y) b x0 x1 x2 x3 := ⟨(heap_setCell_other _ _ _ _ hne).trans h.h⟩
theorem A6.setO {w : World} {b o B j : Nat} {i : I6} {y : Value} (h : A6 w b o i) (hne : b ≠ B) : A6 (w.setCell ⟨B, j, none⟩ y) b o i := by
  have e : ∀ k, (w.setCell ⟨B, j, none⟩ y).cell? ⟨b, k, none⟩ = w.cell? ⟨b, k, none⟩ := fun k => World.cell?_setCell_far _ _ _ _ (fun e => hne e.symm)
  unfold A6 at *
  rw [e, e, e, e, e, e]
  exact h
theorem A6.lt {w : World} {b o : Nat} {i : I6} (h : A6 w b o i) : b < w.heap.size := World.block_lt_of_cell? w _ h.1

theorem below_tr {w1 wr wJ w3 : World} {T : Nat} (h : w1.heap.size = T) (hk : BK w1 wr) (hj : BK wr wJ) (hb : Below (T + 1) wJ w3) : BK w1 w3 := (bk_tr hk hj).bl.trans (Go.Joins.below_le hb (by omega))

/-- what stood at w8 stands, the box T aside -/
def KP (T : Nat) (w8 w' : World) : Prop := w8.heap.size ≤ w'.heap.size ∧ ∀ b, b < w8.heap.size → b ≠ T → w'.heap[b]? = w8.heap[b]?
theorem KP.refl (T : Nat) (w : World) : KP T w w := ⟨Nat.le_refl _, fun _ _ _ => rfl⟩
theorem KP.below {T : Nat} {w8 w w' : World} (h : KP T w8 w) (hb : Below w8.heap.size w w') : KP T w8 w' := ⟨Nat.le_trans h.1 hb.size, fun b h1 h2 => (hb.block b h1).trans (h.2 b h1 h2)⟩
theorem KP.bk {T : Nat} {w8 w w' : World} (h : KP T w8 w) (hb : BK w w') : KP T w8 w' := h.below (Go.Joins.below_le hb.bl h.1)
theorem KP.set {T j : Nat} {w8 w : World} {y : Value} (h : KP T w8 w) : KP T w8 (w.setCell ⟨T, j, none⟩ y) := ⟨by have := h.1; simpa using this, fun b h1 h2 => (heap_setCell_other _ _ _ _ h2).trans (h.2 b h1 h2)⟩
theorem KP.own {T B e sz n : Nat} {w8 w : World} {v : Value} {xs : List Value} (h : KP T w8 w) (o : w8.ownsRow B e sz v n xs) (hB : T < B) : w.ownsRow B e sz v n xs :=
  own_at o fun k hk => h.2 k (o.lt k hk).2 (by have := (o.lt k hk).1; omega)
theorem cell_below {w w' : World} {b j B : Nat} {v : Value} (h : w.cell? ⟨b, j, none⟩ = some v) (hb : Below B w w') (hlt : b < B) : w'.cell? ⟨b, j, none⟩ = some v := by
  unfold World.cell? at *; rw [hb.block b hlt]; exact h
theorem cell_bk {w w' : World} {b j : Nat} {v : Value} (h : w.cell? ⟨b, j, none⟩ = some v) (hb : BK w w') : w'.cell? ⟨b, j, none⟩ = some v := (hb.bl.cell (p := ⟨b, j, none⟩) (World.block_lt_of_cell? w _ h)).trans h
end Go.Proofs.Ytjmmaaphadeokaa
