/- Appending one element to a row of one's own. -/
import Derived.Test.YtnlpiaejfmdckaaDoorF
namespace Go.Proofs.YtnlpiaejfmdckaaDoor
open Go.RowKit
set_option linter.unusedVariables false
set_option linter.unusedSimpArgs false
theorem info44 : (Tryd.prog.info? 44).map (fun i => (i.zero, i.size, i.bytes)) = some (some (.agg #[.int .i64 0, .slice none 0 0, .int .i64 0, .slice none 0 0, .int .i64 0, .int .i64 0, .int .u64 0, .string ⟨#[]⟩, .slice none 0 0, .int .i64 0, .int .i64 0, .int .u64 0, .string ⟨#[]⟩, .slice none 0 0]), 14, 192) := by kernel_rfl
theorem info56 : (Tryd.prog.info? 56).map (fun i => (i.zero, i.size, i.bytes)) = some (some (.agg #[.string ⟨#[]⟩, .int .i64 0, .int .i64 0, .int .u64 0, .string ⟨#[]⟩, .slice none 0 0]), 6, 80) := by kernel_rfl
theorem info4 : (Tryd.prog.info? 4).map (fun i => (i.zero, i.size, i.bytes)) = some (some (.bool false), 1, 1) := by kernel_rfl
theorem news_at (w : World) (els : Array Value) (t : Nat) : ∀ j u, els.toList[j]? = some u → (w.alloc (.cells els t)).cell? ((⟨w.heap.size, 0, none⟩ : Addr).add j) = some u := by
  intro j u hj
  rw [show (⟨w.heap.size, 0, none⟩ : Addr).add j = ⟨w.heap.size, 0 + j, none⟩ from Go.WideShapes.add_plain _ _ _, Nat.zero_add, cell_of_row _ w.heap.size j els t (0, 0) (heap_alloc_new w (.cells els t)), ← hj]
  simp
/-- an append of one element: what the new row is, and what stays -/
theorem push_flat {ops : Array Oper} {rest : List Oper} {o : Oper} {a : Act} {Q : Exit → Act → World → Prop} {w : World} (hgd : o.guard = none) (s x : Operand) (T e sz by0 : Nat) (z : Value)
    (ho : o.op = .call { callee := .builtin .append, args := #[s, x], argTypes := #[T, T] }) (hT : Tryd.prog.underlying T = some (.slice e)) (hi : (Tryd.prog.info? e).map (fun i => (i.zero, i.size, i.bytes)) = some (some z, sz, by0)) (hzc : z.cells.size = sz) (hby : by0 ≤ 200) (hpos : 0 < sz)
    (lo : Nat) (v : Value) (n : Nat) (xs : List Value) (hs : a.eval s = v) (hown : w.ownsRow lo e sz v n xs) (els : Array Value) (hel : els.size = sz) (hone : ∀ u ∈ els.toList, u.oneCell' = true) (hx : a.eval x = .slice (some ⟨w.heap.size, 0, none⟩) 1 1) (hlo : lo ≤ w.heap.size) (hsm : n ≤ 200000)
    (h : ∀ g cap w', w'.ownsRow lo e sz (.slice (some ⟨g, 0, none⟩) (n + 1) cap) (n + 1) (xs ++ els.toList) → Step w w' (fun k => v.ownBlock = some k) (fun k => k = g) → (v.ownBlock = some g ∨ w.heap.size < g) → wpList Tryd.prog ops Q rest (a.put o.dst (.slice (some ⟨g, 0, none⟩) (n + 1) cap)) w') :
    wpList Tryd.prog ops Q (o :: rest) a (w.alloc (.cells els e)) := by
  obtain ⟨i0, hi0, hz0, hz1, hz2⟩ := info_parts hi
  have h1' := own_below hown (bk_alloc (BK.refl w) (.cells els e))
  refine wpList_append_lies (w.alloc (.cells els e)) hgd s x T ho lo e i0 z sz by0 hT hi0 hz0 hz1 hz2 hzc hpos v n xs hs h1' ⟨w.heap.size, 0, none⟩ 1 1 els.toList hx (by simpa using hel) (news_at w els e) hone (by omega) (by unfold maxLen; omega) ?_ (by simp; omega) _ rfl ?_
  · have : (n + 1) * by0 ≤ 200001 * 200 := Nat.mul_le_mul (by omega) hby
    omega
  intro g cap w' h3 h4 h5 h6
  have hat : v.ownBlock = some g ∨ g = w.heap.size + 1 := by
    rcases h5 with q | q
    · exact .inl q
    · right; rw [q, sz1]
  have hsz := h4.size
  rw [sz1] at hsz
  refine h g cap w' h3 ⟨h4.os, h4.tape, h4.output, by omega, fun k hk hn => ?_, fun k hk => ?_⟩ (by rcases hat with q | q; exact .inl q; exact .inr (by omega))
  · rw [h4.block k (by rw [sz1]; omega) (fun e => hn e.symm)]; exact heap_alloc_old w _ hk
  · subst hk
    rcases hat with q | q
    · exact .inl q
    · exact .inr (by omega)
/-- a list of numbers in the making -/
def LI (lo : Nat) (w : World) (v : Value) (zs : List Int) : Prop := w.ownsRow lo 3 1 v zs.length (zs.map (Value.int .i64))
theorem LI.nil (lo : Nat) (w : World) : LI lo w (.slice none 0 0) [] := World.ownsRow_nil _ _ _ _
theorem LI.bk {lo : Nat} {w w' : World} {v : Value} {zs : List Int} (h : LI lo w v zs) (hb : BK w w') : LI lo w' v zs := own_below h hb
theorem LI.shape {lo : Nat} {w : World} {v : Value} {zs : List Int} (h : LI lo w v zs) : ∃ p c, v = .slice p zs.length c := own_shape h
theorem LI.at {lo : Nat} {w w' : World} {v : Value} {zs : List Int} (h : LI lo w v zs) (hk : ∀ k, v.ownBlock = some k → w'.heap[k]? = w.heap[k]?) : LI lo w' v zs := own_at h hk
theorem wpList_pushI {ops : Array Oper} {rest : List Oper} {o : Oper} {a : Act} {Q : Exit → Act → World → Prop} {w : World} (hgd : o.guard = none) (s x : Operand)
    (ho : o.op = .call { callee := .builtin .append, args := #[s, x], argTypes := #[34, 34] }) (lo : Nat) (v : Value) (zs : List Int) (hs : a.eval s = v) (hl : LI lo w v zs) (z : Int) (hx : a.eval x = .slice (some ⟨w.heap.size, 0, none⟩) 1 1) (hlo : lo ≤ w.heap.size) (hsm : zs.length ≤ 200000)
    (h : ∀ g cap w', LI lo w' (.slice (some ⟨g, 0, none⟩) (zs.length + 1) cap) (zs ++ [z]) → Step w w' (fun k => v.ownBlock = some k) (fun k => k = g) → wpList Tryd.prog ops Q rest (a.put o.dst (.slice (some ⟨g, 0, none⟩) (zs.length + 1) cap)) w') :
    wpList Tryd.prog ops Q (o :: rest) a (w.alloc (.cells #[.int .i64 z] 3)) :=
  push_flat hgd s x 34 3 1 8 _ ho Tryd.underlying34 info3 rfl (by decide) (by decide) lo v zs.length _ hs hl #[.int .i64 z] rfl (by simp; rfl) hx hlo hsm
    (fun g cap w' h1 h2 _ => h g cap w' (by unfold LI; rw [List.map_append, List.length_append]; exact h1) h2)
/-- a list that is done -/
theorem LI.row {lo : Nat} {w : World} {p : Option Addr} {c : Nat} {zs : List Int} (h : LI lo w (.slice p zs.length c) zs) : RowI (mem lo w) w p c zs := by
  have h1 : w.ownsRow lo 3 1 (.slice p zs.length c) zs.length (zs.map (Value.int .i64)) := h
  by_cases h0 : zs.length = 0
  · refine .inl ⟨h0, fun hp => ?_⟩
    subst hp
    rcases h1.2 with ⟨hv, _⟩ | ⟨g, cap, cur, hv, _⟩
    · simp only [Value.slice.injEq] at hv; exact hv.2.2
    · cases hv
  · obtain ⟨g, cap, hv, hb, hlt⟩ := h1.form (by omega)
    simp only [Value.slice.injEq] at hv
    obtain ⟨rfl, -, rfl⟩ := hv
    have hcap : zs.length ≤ c := by
      rcases h1.2 with ⟨hv, _⟩ | ⟨g', cap', cur, hv, _, _, h5, _⟩
      · cases hv
      · cases hv; exact h5
    refine .inr ⟨g, 0, rfl, ⟨hb, hlt⟩, fun k hk => ?_, hcap⟩
    have c0 := h1.cellAt (g := g) (cap := c) k (by omega)
    rw [Nat.zero_add, c0]
    simp [hk]
theorem LI.lt {lo : Nat} {w : World} {v : Value} {zs : List Int} (h : LI lo w v zs) : ∀ g, v.ownBlock = some g → lo ≤ g ∧ g < w.heap.size := fun g hg => World.ownsRow.lt h g hg
/-! Bools in a block -/
def ba (L : List Bool) : Array Value := (L.map Value.bool).toArray
def Br (w : World) (g : Nat) (L : List Bool) : Prop := w.heap[g]? = some (.cells (ba L) 4 (0, 0))
theorem Br.c {w : World} {g : Nat} {L : List Bool} (h : Br w g L) {k : Nat} (hk : k < L.length) : w.cell? ⟨g, k, none⟩ = some (.bool L[k]) := by
  rw [cell_of_row w g k _ 4 (0, 0) h]
  simp [ba, hk]
theorem Br.f {w : World} {g : Nat} {L : List Bool} (h : Br w g L) (k : Nat) : w.frozen? ⟨g, k, none⟩ = false := frozen_of_row w g k _ 4 h
theorem Br.lt {w : World} {g : Nat} {L : List Bool} (h : Br w g L) : g < w.heap.size := (Array.getElem?_eq_some_iff.1 h).1
theorem Br.at {w w' : World} {g : Nat} {L : List Bool} (h : Br w g L) (hb : w'.heap[g]? = w.heap[g]?) : Br w' g L := hb.trans h
theorem Br.set {w : World} {g : Nat} {L : List Bool} (h : Br w g L) (k : Nat) (z : Bool) : Br (w.setCell ⟨g, k, none⟩ (.bool z)) g (L.set k z) := by
  unfold Br
  rw [heap_setCell_same w g k _ 4 _ h]
  congr 2
  unfold ba
  apply Array.ext'
  simp [List.map_set]
theorem made_b (n : Nat) : madeCells (Value.bool false).cells (n * 1) = ba (List.replicate n false) := by
  apply Array.ext
  · simp [madeCells, ba]
  · intro i h1 h2
    simp [madeCells, Value.cells, Nat.mod_one, ba]
theorem make65 (n : Nat) (h : n ≤ 100000) (w : World) : (Instr.makeSlice 65 (.int .i64 (n : Int)) (.int .i64 (n : Int))).run Tryd.prog w = .ok (.slice (some ⟨w.heap.size, 0, none⟩) n n) (w.alloc (.cells (ba (List.replicate n false)) 4)) := by
  obtain ⟨i0, hi, hz0, hz1, hz2⟩ := info_parts info4
  have hr := run_make (P := Tryd.prog) w 65 4 i0 (.bool false) Tryd.underlying65 hi hz0 .i64 .i64 n n (by omega) (by omega) (by rw [hz2]; omega) (by omega)
  simp only [Int.toNat_natCast] at hr
  rw [hz1, made_b] at hr
  exact hr
end Go.Proofs.YtnlpiaejfmdckaaDoor
