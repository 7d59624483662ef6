/- New and Make. -/
import Derived.Test.YtihoegihmgeenaaB
namespace Go.Proofs.Ytihoegihmgeenaa
open Go.RowKit
set_option linter.unusedVariables false
theorem new_rows (w : World) (B : Nat) (hB : B ≤ w.heap.size) :
    SxL (w.alloc (.cells #[.pointer (some ⟨w.heap.size, 0, none⟩), .slice none 0 0, .slice none 0 0, .slice none 0 0, .slice none 0 0, .slice none 0 0] 47)) B w.heap.size (rowsOf [] (.slice none 0 0) (.slice none 0 0) (.slice none 0 0) (.slice none 0 0) (.slice none 0 0)) := by
  refine ⟨?_, hB, ?_, ?_, ?_⟩
  · rw [heap_alloc_new w _]
    simp [rowsOf]
  · intro r hr
    simp only [rowsOf, List.mem_cons, List.not_mem_nil, or_false] at hr
    rcases hr with rfl | rfl | rfl | rfl | rfl <;> exact World.ownsRow_nil _ _ _ _
  · simp [rowsOf, Value.ownBlock]
  · intro r hr
    simp only [rowsOf, List.mem_cons, List.not_mem_nil, or_false] at hr
    rcases hr with rfl | rfl | rfl | rfl | rfl <;> simp [Value.ownBlock]
set_option maxHeartbeats 400000 in
theorem new_any (B : Nat) (w : World) (hB : B ≤ w.heap.size) : Calls Try.prog 8 #[] w fun e w' => e = .returned (.pointer (some ⟨w.heap.size, 0, none⟩)) ∧ (∃ F, U w' B w.heap.size [] F) ∧ Below w.heap.size w w' := by
  have hrow := Lib.hid (new_rows w B hB)
  go_enter Try.func8, Try.ntmps8
  go_wp2
  go_ret
  exact ⟨rfl, ⟨_, _, _, _, _, _, ⟨trivial, hrow.out, rfl⟩⟩, (Below.refl _ _).alloc (Nat.le_refl _) _⟩
theorem lit_cells (W : World) (cs : Array Value) (e : TypeId) : ∀ j u, cs.toList[j]? = some u → (W.alloc (.cells cs e)).cell? ((⟨W.heap.size, 0, none⟩ : Addr).add j) = some u := by
  intro j u h
  have hadd : (⟨W.heap.size, 0, none⟩ : Addr).add j = ⟨W.heap.size, j, none⟩ := by
    have := Go.WideShapes.add_plain W.heap.size 0 j; rwa [Nat.zero_add] at this
  rw [hadd, cell_of_row _ _ j cs e (0, 0) (heap_alloc_new W _), ← Array.getElem?_toList, h]
/-- behind an append to one of the rows the fields are as they were -/
theorem SxL.after {W w1 : World} {B b : Nat} {rows : List Row} (S : SxL W B b rows) {o : Obj} {v : Value} (hg : (W.alloc o).grownBy w1 v.ownBlock) (hv : v.ownBlock ≠ some b) : w1.heap[b]? = W.heap[b]? := by
  have hb : b < W.heap.size := (Array.getElem?_eq_some_iff.1 S.blk).1
  rw [hg.block b (by simp; omega) (fun e => hv e.symm), heap_alloc_old W o hb]
theorem cell_blk {w w' : World} {b i : Nat} (h : w'.heap[b]? = w.heap[b]?) : w'.cell? ⟨b, i, none⟩ = w.cell? ⟨b, i, none⟩ := by simp [World.cell?, h]
/-- a row grows by an append, and the field takes the new value -/
theorem SxL.push {W w1 : World} {B b : Nat} {L R : List Row} {v : Value} {e : TypeId} {sz n g cap H n' : Nat} {xs ys : List Value} {o : Obj} (S : SxL W B b (L ++ ⟨v, e, sz, n, xs⟩ :: R)) (hg : (W.alloc o).grownBy w1 v.ownBlock)
    (hown : w1.ownsRow B e sz (.slice (some ⟨g, 0, none⟩) n' cap) n' ys) (hat : v.ownBlock = some g ∨ g = H) (hH : W.heap.size ≤ H) (i : Nat) (hi : i = L.length + 1) :
    SxL (w1.setCell ⟨b, i, none⟩ (.slice (some ⟨g, 0, none⟩) n' cap)) B b (L ++ ⟨.slice (some ⟨g, 0, none⟩) n' cap, e, sz, n', ys⟩ :: R) ∧
    Step W (w1.setCell ⟨b, i, none⟩ (.slice (some ⟨g, 0, none⟩) n' cap)) (foot b (L ++ ⟨v, e, sz, n, xs⟩ :: R)) (foot b (L ++ ⟨.slice (some ⟨g, 0, none⟩) n' cap, e, sz, n', ys⟩ :: R)) :=
  S.put (r' := ⟨.slice (some ⟨g, 0, none⟩) n' cap, e, sz, n', ys⟩) (Nat.le_trans (by simp) hg.size) hg.os hg.tape hg.output
    (fun k hk hne => (hg.block k (by simp; omega) (fun e => hne e.symm)).trans (heap_alloc_old W o hk)) hown
    (fun k hk => by
      simp only [Value.ownBlock, Option.some.injEq] at hk
      subst hk
      rcases hat with q | q
      · exact .inl q
      · exact .inr (by omega)) i hi
theorem lit_cells_at (W : World) (cs : Array Value) (e : TypeId) (H : Nat) (hH : W.heap.size = H) : ∀ j u, cs.toList[j]? = some u → (W.alloc (.cells cs e)).cell? ((⟨H, 0, none⟩ : Addr).add j) = some u := by
  subst hH; exact lit_cells W cs e
theorem free_blk {w w' : World} {b i : Nat} (h : w'.heap[b]? = w.heap[b]?) : w'.frozen? ⟨b, i, none⟩ = w.frozen? ⟨b, i, none⟩ := by simp [World.frozen?, h]
theorem size_set (w : World) (a : Addr) (v : Value) : (w.setCell a v).heap.size = w.heap.size := by simp [World.setCell]
end Go.Proofs.Ytihoegihmgeenaa
