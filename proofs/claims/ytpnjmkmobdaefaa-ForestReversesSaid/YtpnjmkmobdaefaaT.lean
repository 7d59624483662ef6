/- The reference's search: what it needs. -/
import Derived.Test.YtpnjmkmobdaefaaS
import Derived.Test.YtpnjmkmobdaefaaI
import Derived.Test.YtpnjmkmobdaefaaQ
import Derived.Laws.MakeOwn
import Derived.Laws.AppendOwnNone
namespace Go.Proofs.Ytpnjmkmobdaefaa
open Go.RowKit Go.Maps
set_option linter.unusedVariables false
set_option linter.unusedSimpArgs false
def bv (u : List Bool) : Array Value := (u.map Value.bool).toArray
def US (w : World) (ub : Nat) (u : List Bool) : Prop := w.heap[ub]? = some (.cells (bv u) 4 (0, 0))
def ubF (ub : Nat) : Nat → Prop := fun k => k = ub
theorem US.cell {w : World} {ub : Nat} {u : List Bool} (h : US w ub u) (j : Nat) : w.cell? ⟨ub, j, none⟩ = (u.map Value.bool)[j]? := by
  rw [cell_of_row w ub j _ 4 (0, 0) h]; simp [bv]
theorem US.free {w : World} {ub : Nat} {u : List Bool} (h : US w ub u) (j : Nat) : w.frozen? ⟨ub, j, none⟩ = false := frozen_of_row w ub j _ 4 h
theorem US.lt {w : World} {ub : Nat} {u : List Bool} (h : US w ub u) : ub < w.heap.size := (Array.getElem?_eq_some_iff.1 h).1
theorem US.ne {w : World} {ub b o : Nat} {u : List Bool} {x : Int} (h : US w ub u) (hc : w.cell? ⟨b, o, none⟩ = some (.int .i64 x)) : b ≠ ub := by
  intro e
  subst e
  rw [h.cell] at hc
  simp only [List.getElem?_map, Option.map_eq_some_iff] at hc
  obtain ⟨a, _, h2⟩ := hc
  cases h2
theorem US.set {w : World} {ub : Nat} {u : List Bool} (h : US w ub u) (i : Nat) : US (w.setCell ⟨ub, i, none⟩ (.bool true)) ub (u.set i true) := by
  unfold US
  rw [heap_setCell_same w ub i _ 4 _ h]
  congr 2
  unfold bv
  apply Array.ext'
  simp [List.map_set]
theorem US.bk {w w' : World} {ub : Nat} {u : List Bool} (h : US w ub u) (hb : BK w w') : US w' ub u := (bk_block hb h.lt).trans h
theorem step_set {w : World} {ub : Nat} (i : Nat) (v : Value) : Step w (w.setCell ⟨ub, i, none⟩ v) (ubF ub) (ubF ub) :=
  ⟨rfl, rfl, rfl, by simp [World.setCell], fun k hk hn => heap_setCell_other w ⟨ub, i, none⟩ k v (fun e => hn e), fun k hk => .inl hk⟩
theorem A3.step {w w' : World} {ub b o : Nat} {u : List Bool} {l : L3} (h : A3 w b o l) (hu : US w ub u) (s : Step w w' (ubF ub) (ubF ub)) : A3 w' b o l := by
  have hne := hu.ne h.1
  have hb : w'.heap[b]? = w.heap[b]? := s.block b (World.block_lt_of_cell? w _ h.1) (fun e => hne e)
  exact ⟨(cell_at hb).trans h.1, (cell_at hb).trans h.2.1, (cell_at hb).trans h.2.2⟩
theorem RL.step {w w' : World} {ub c : Nat} {p : Option Addr} {u : List Bool} {l : List L3} (h : RL w p c l) (hu : US w ub u) (s : Step w w' (ubF ub) (ubF ub)) : RL w' p c l :=
  ⟨h.nl, h.le, fun k hk => by obtain ⟨b, o, h1, h2⟩ := h.get k hk; exact ⟨b, o, h1, h2.step hu s⟩⟩
/-- what the search leaves -/
def WKP (w : World) (M : List L3) (u : List Bool) (x b : Int) (ub : Nat) (e : Ending) (w' : World) : Prop :=
  ∃ r u' v, e = .returned (.tuple #[v, .bool r.isSome]) ∧ WSp M u x b r u' ∧ w'.ownsRow w.heap.size 44 3 v (r.getD []).length (flat3 (r.getD [])) ∧ US w' ub u' ∧ Step w w' (ubF ub) (ubF ub)
theorem WSp.small {M : List L3} {u u' : List Bool} {x b : Int} {p : List L3} (h : WSp M u x b (some p) u') : p.length ≤ M.length := by
  obtain ⟨t, h1, h2, h3, h4, h5⟩ := h.found p rfl
  rw [← h4, lk_len]
  exact trail_len h1 h2
/-- an append of links that may be none -/
theorem wpList_app3 {ops : Array Oper} {rest : List Oper} {o : Oper} {a : Act} {Q : Exit → Act → World → Prop} {w : World} (hgd : o.guard = none) (s x : Operand)
    (ho : o.op = .call { callee := .builtin .append, args := #[s, x], argTypes := #[26, 26] }) (base : Nat) (v : Value) (P : List L3) (hs : a.eval s = v) (hown : w.ownsRow base 44 3 v P.length (flat3 P))
    (p : Option Addr) (c : Nat) (l : List L3) (hx : a.eval x = .slice p l.length c) (hr : RL w p c l) (hsm : P.length + l.length ≤ 100000) (hbase : base ≤ w.heap.size)
    (h : ∀ v' w', w'.ownsRow base 44 3 v' (P ++ l).length (flat3 (P ++ l)) → Below base w w' → wpList Try.prog ops Q rest (a.put o.dst v') w') : wpList Try.prog ops Q (o :: rest) a w := by
  obtain ⟨i0, hi, hz0, hz1, hz2⟩ := info_parts info44
  cases p with
  | none =>
    have hc := hr.nl rfl
    have hle := hr.le
    obtain rfl := List.eq_nil_of_length_eq_zero (show l.length = 0 by omega)
    subst hc
    exact wpList_append_own_none hgd s x 26 ho base 44 i0 3 Try.underlying26 hi v P.length (flat3 P) hs hown hx (h v w (by simpa using hown) (Below.refl _ _))
  | some ad =>
    refine wpList_append_own w hgd s x 26 ho base 44 i0 _ 3 24 Try.underlying26 hi hz0 hz1 hz2 rfl (by decide) v P.length (flat3 P) hs hown ad l.length c (flat3 l) hx (flat3_len l) (rl_src hr) (flat3_one l) (by unfold maxLen; omega) (by omega) hbase ?_
    intro v' w' h1 h2 h3
    exact h v' w' (by rw [List.length_append, flat3_app]; exact h1) ((Below.refl base w).grown h2 hbase (fun j hj => (World.ownsRow.lt hown j hj).1))
theorem own_fresh3 (w : World) (l : L3) : (w.alloc (.cells (c3 l) 44)).ownsRow w.heap.size 44 3 (.slice (some ⟨w.heap.size, 0, none⟩) 1 1) [l].length (flat3 [l]) :=
  ⟨by simp [flat3, cells3], .inr ⟨w.heap.size, 1, c3 l, rfl, Nat.le_refl _, heap_alloc_new w _, Nat.le_refl _, by unfold maxLen; omega, rfl, rfl⟩⟩
theorem Step.alloc {w0 w : World} {F F' : Nat → Prop} (h : Step w0 w F F') (o : Obj) : Step w0 (w.alloc o) F F' :=
  ⟨h.os, h.tape, h.output, by have := h.size; simp; omega, fun k hk hn => (heap_alloc_old w o (by have := h.size; omega)).trans (h.block k hk hn), h.sub⟩
end Go.Proofs.Ytpnjmkmobdaefaa
