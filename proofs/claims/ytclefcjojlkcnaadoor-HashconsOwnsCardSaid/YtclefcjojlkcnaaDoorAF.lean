/- Lists of nodes in the making. -/
import Derived.Test.YtclefcjojlkcnaaDoorAE
import Derived.Deep.AppendLies
import Derived.Laws.AppendOwnNone
import Derived.Laws.Rows
import Derived.RowKit
namespace Go.Proofs.YtclefcjojlkcnaaDoor.G
open Go.RowKit
set_option linter.unusedVariables false
set_option linter.unusedSimpArgs false
theorem _root_.Go.Proofs.YtclefcjojlkcnaaDoor.BK.bl' {a b : World} (h : BK a b) : Below a.heap.size a b := h
theorem bk_size {w0 w : World} (h : BK w0 w) : w0.heap.size ≤ w.heap.size := h.bl'.size
theorem bk_block {w0 w : World} (h : BK w0 w) {b : Nat} (hb : b < w0.heap.size) : w.heap[b]? = w0.heap[b]? := h.bl'.block b hb
theorem sz1 (w : World) (o : Obj) : (w.alloc o).heap.size = w.heap.size + 1 := by simp
theorem cell_at {w w' : World} {b j : Nat} (h : w'.heap[b]? = w.heap[b]?) : w'.cell? ⟨b, j, none⟩ = w.cell? ⟨b, j, none⟩ := by unfold World.cell?; rw [h]
theorem own_at {w w' : World} {B e sz n : Nat} {v : Value} {xs : List Value} (o : w.ownsRow B e sz v n xs) (h : ∀ k, v.ownBlock = some k → w'.heap[k]? = w.heap[k]?) : w'.ownsRow B e sz v n xs := by
  refine ⟨o.1, ?_⟩
  rcases o.2 with hn | ⟨g, cap, cur, hv, hb, hg, rest⟩
  · exact .inl hn
  · exact .inr ⟨g, cap, cur, hv, hb, (h g (by rw [hv]; rfl)).trans hg, rest⟩
theorem own_below {w w' : World} {B e sz n : Nat} {v : Value} {xs : List Value} (o : w.ownsRow B e sz v n xs) (hb : BK w w') : w'.ownsRow B e sz v n xs :=
  own_at o fun k hk => hb.bl'.block k (o.lt k hk).2
/-- what a call leaves: outside the footprint all is as it was, and the new footprint is old or new memory -/
structure Step (w w' : World) (F F' : Nat → Prop) : Prop where
  os : w'.os = w.os
  tape : w'.tape = w.tape
  output : w'.output = w.output
  size : w.heap.size ≤ w'.heap.size
  block : ∀ k, k < w.heap.size → ¬ F k → w'.heap[k]? = w.heap[k]?
  sub : ∀ k, F' k → F k ∨ w.heap.size ≤ k
theorem Step.trans {a b c : World} {F G H : Nat → Prop} (h : Step a b F G) (k : Step b c G H) : Step a c F H :=
  ⟨k.os.trans h.os, k.tape.trans h.tape, k.output.trans h.output, Nat.le_trans h.size k.size,
   fun i hi hn => (k.block i (Nat.lt_of_lt_of_le hi h.size) (fun g => by rcases h.sub i g with q | q; exact hn q; omega)).trans (h.block i hi hn),
   fun i hi => by
    rcases k.sub i hi with q | q
    · exact h.sub i q
    · exact .inr (Nat.le_trans h.size q)⟩
theorem Step.refl (w : World) (F : Nat → Prop) : Step w w F F := ⟨rfl, rfl, rfl, Nat.le_refl _, fun _ _ _ => rfl, fun _ h => .inl h⟩
theorem Step.bk {w w' : World} {F : Nat → Prop} (h : BK w w') : Step w w' F F :=
  ⟨h.bl'.os, h.bl'.tape, h.bl'.output, h.bl'.size, fun k hk _ => h.bl'.block k hk, fun _ h => .inl h⟩
theorem Step.bk_new {w0 w w' : World} {F F' : Nat → Prop} (h : BK w0 w) (s : Step w w' F F') (hF : ∀ k, F k → w0.heap.size ≤ k) : BK w0 w' :=
  ⟨s.os.trans h.bl'.os, s.tape.trans h.bl'.tape, s.output.trans h.bl'.output, Nat.le_trans h.bl'.size s.size, fun k hk => (s.block k (Nat.lt_of_lt_of_le hk h.bl'.size) (fun g => by have := hF k g; omega)).trans (h.bl'.block k hk)⟩
theorem Step.to_drew {w w' : World} {F F' : Nat → Prop} (h : Step w w' F F') : Step w w'.drew F F' := ⟨h.os, h.tape, h.output, h.size, h.block, h.sub⟩
theorem Step.drew {w w' : World} {F F' : Nat → Prop} (h : Step w.drew w' F F') : Step w w' F F' := ⟨h.os, h.tape, h.output, h.size, h.block, h.sub⟩
def mem (lo : Nat) (w : World) : Nat → Prop := fun k => lo ≤ k ∧ k < w.heap.size
def Cs (w : World) (b o : Nat) (xs : Array Value) : Prop := ∀ j v, xs[j]? = some v → w.cell? ⟨b, o + j, none⟩ = some v
theorem news_at (w : World) (els : Array Value) (t : Nat) : ∀ j u, els.toList[j]? = some u → (w.alloc (.cells els t)).cell? ((⟨w.heap.size, 0, none⟩ : Addr).add j) = some u := by
  intro j u hj
  rw [show (⟨w.heap.size, 0, none⟩ : Addr).add j = ⟨w.heap.size, 0 + j, none⟩ from Go.WideShapes.add_plain _ _ _, Nat.zero_add, cell_of_row _ w.heap.size j els t (0, 0) (heap_alloc_new w (.cells els t)), ← hj]
  simp
/-- an append of one element: what the new row is, and what stays -/
def memO (lo : Nat) (w : World) (v : Value) : Nat → Prop := fun i => lo ≤ i ∧ i < w.heap.size ∧ v.ownBlock ≠ some i
/-- what is said of the k-th element: its cells, and what lies behind them -/
abbrev EP := (Nat → Prop) → World → Nat → Array Value → Prop
def Mono (P : EP) : Prop := ∀ (D D' : Nat → Prop) (w w' : World) k cs, (∀ i, D i → w'.heap[i]? = w.heap[i]? ∧ D' i) → P D w k cs → P D' w' k cs
structure GL (lo e sz : Nat) (w : World) (v : Value) (n : Nat) (P : EP) : Prop where
  own : ∃ xs, w.ownsRow lo e sz v n xs ∧ ∀ k, k < n → ∃ cs : Array Value, cs.size = sz ∧ (∀ j, j < sz → xs[k * sz + j]? = cs[j]?) ∧ P (memO lo w v) w k cs
theorem GL.nil (lo e sz : Nat) (w : World) (P : EP) : GL lo e sz w (.slice none 0 0) 0 P := ⟨[], World.ownsRow_nil _ _ _ _, fun k h => by omega⟩
theorem GL.shape {lo e sz n : Nat} {w : World} {v : Value} {P : EP} (h : GL lo e sz w v n P) : ∃ p c, v = .slice p n c := by
  obtain ⟨xs, h1, _⟩ := h.own
  exact own_shape h1
theorem GL.lt {lo e sz n : Nat} {w : World} {v : Value} {P : EP} (h : GL lo e sz w v n P) : ∀ g, v.ownBlock = some g → lo ≤ g ∧ g < w.heap.size := fun g hg => by
  obtain ⟨xs, h1, _⟩ := h.own
  exact h1.lt g hg
theorem GL.bk {lo e sz n : Nat} {w w' : World} {v : Value} {P : EP} (h : GL lo e sz w v n P) (hP : Mono P) (hb : BK w w') : GL lo e sz w' v n P := by
  obtain ⟨xs, h1, h2⟩ := h.own
  refine ⟨xs, own_below h1 hb, fun k hk => ?_⟩
  obtain ⟨cs, h3, h4, h5⟩ := h2 k hk
  exact ⟨cs, h3, h4, hP _ _ _ _ _ _ (fun i hi => ⟨bk_block hb hi.2.1, hi.1, Nat.lt_of_lt_of_le hi.2.1 (bk_size hb), hi.2.2⟩) h5⟩
/-- an append of one element, at the operation -/
theorem gl_push {o : Oper} {a : Act} {K : Act → World → Prop} {Q : Exit → Act → World → Prop} {w : World} (s x : Operand) (T e sz by0 : Nat) (z : Value)
    (ho : o.op = .call { callee := .builtin .append, args := #[s, x], argTypes := #[T, T] }) (hT : Tryd.prog.underlying T = some (.slice e)) (hi : (Tryd.prog.info? e).map (fun i => (i.zero, i.size, i.bytes)) = some (some z, sz, by0)) (hzc : z.cells.size = sz) (hby : by0 ≤ 200) (hpos : 0 < sz)
    (lo : Nat) (v : Value) (n : Nat) (P P' : EP) (hP : Mono P) (hP' : Mono P') (hPP : ∀ D w k cs, k < n → P D w k cs → P' D w k cs) (hs : a.eval s = v) (hl : GL lo e sz w v n P) (els : Array Value) (hel : els.size = sz) (hone : ∀ u ∈ els.toList, u.oneCell' = true) (hx : a.eval x = .slice (some ⟨w.heap.size, 0, none⟩) 1 1) (hlo : lo ≤ w.heap.size) (hsm : n ≤ 200000)
    (hnew : P' (memO lo w v) w n els)
    (h : ∀ g cap w', GL lo e sz w' (.slice (some ⟨g, 0, none⟩) (n + 1) cap) (n + 1) P' → Step w w' (fun k => v.ownBlock = some k) (fun k => k = g) → K (a.put o.dst (.slice (some ⟨g, 0, none⟩) (n + 1) cap)) w') :
    o.wp Tryd.prog a (w.alloc (.cells els e)) K Q := by
  obtain ⟨i0, hi0, hz0, hz1, hz2⟩ := info_parts hi
  obtain ⟨xs, hown, hall⟩ := hl.own
  have h1' := own_below hown (bk_alloc (BK.refl w) (.cells els e))
  refine wp_append_lies (w.alloc (.cells els e)) s x T ho lo e i0 z sz by0 hT hi0 hz0 hz1 hz2 hzc hpos v n xs hs h1' ⟨w.heap.size, 0, none⟩ 1 1 els.toList hx (by simpa using hel) (news_at w els e) hone (by omega) (by unfold maxLen; omega) ?_ (by simp; omega) _ rfl ?_
  · have : (n + 1) * by0 ≤ 200001 * 200 := Nat.mul_le_mul (by omega) hby
    omega
  intro g cap w' h3 h4 h5 h6
  have hat : v.ownBlock = some g ∨ g = w.heap.size + 1 := by
    rcases h5 with q | q
    · exact .inl q
    · right; rw [q, sz1]
  have hsz := h4.size
  rw [sz1] at hsz
  have keep : ∀ i, memO lo w v i → w'.heap[i]? = w.heap[i]? ∧ memO lo w' (.slice (some ⟨g, 0, none⟩) (n + 1) cap) i := fun i hi => by
    refine ⟨?_, hi.1, by have := hi.2.1; omega, fun e' => ?_⟩
    · rw [h4.block i (by rw [sz1]; have := hi.2.1; omega) (fun e => hi.2.2 e.symm)]; exact heap_alloc_old w _ hi.2.1
    · obtain rfl : g = i := by simpa [Value.ownBlock] using e'
      rcases hat with q | q
      · exact hi.2.2 q
      · have := hi.2.1; omega
  have hxl : xs.length = n * sz := hown.1
  refine h g cap w' ⟨xs ++ els.toList, h3, fun k hk => ?_⟩ ⟨h4.os, h4.tape, h4.output, by omega, fun k hk hn => ?_, fun k hk => ?_⟩
  · by_cases q : k < n
    · obtain ⟨cs, a1, a2, a3⟩ := hall k q
      refine ⟨cs, a1, fun j hj => ?_, hP' _ _ _ _ _ _ keep (hPP _ _ _ _ q a3)⟩
      rw [List.getElem?_append_left (by rw [hxl]; have := Nat.mul_le_mul_right sz (show k + 1 ≤ n by omega); rw [Nat.add_mul, Nat.one_mul] at this; omega)]
      exact a2 j hj
    · obtain rfl : k = n := by omega
      refine ⟨els, hel, fun j hj => ?_, hP' _ _ _ _ _ _ keep hnew⟩
      rw [List.getElem?_append_right (by omega), hxl]
      simp
  · rw [h4.block k (by rw [sz1]; omega) (fun e => hn e.symm)]; exact heap_alloc_old w _ hk
  · subst hk
    rcases hat with q | q
    · exact .inl q
    · exact .inr (by omega)
/-- a list that is done -/
theorem GL.row {lo e sz n : Nat} {w : World} {p : Option Addr} {c : Nat} {P : EP} (h : GL lo e sz w (.slice p n c) n P) (hP : Mono P) : (n = 0 ∧ (p = none → c = 0)) ∨ ∃ g, p = some ⟨g, 0, none⟩ ∧ mem lo w g ∧ (∀ k, k < n → ∃ cs : Array Value, cs.size = sz ∧ Cs w g (k * sz) cs ∧ P (mem lo w) w k cs) ∧ n ≤ c := by
  obtain ⟨xs, h1, h2⟩ := h.own
  by_cases h0 : n = 0
  · refine .inl ⟨h0, fun hp => ?_⟩
    subst hp
    rcases h1.2 with ⟨hv, _⟩ | ⟨g, cap, cur, hv, _⟩
    · simp only [Value.slice.injEq] at hv; exact hv.2.2
    · cases hv
  · obtain ⟨g, cap, hv, hb, hlt⟩ := h1.form (by omega)
    simp only [Value.slice.injEq] at hv
    obtain ⟨rfl, -, rfl⟩ := hv
    have hcap : n ≤ c := by
      rcases h1.2 with ⟨hv, _⟩ | ⟨g', cap', cur, hv, _, _, h5, _⟩
      · cases hv
      · cases hv; exact h5
    refine .inr ⟨g, rfl, ⟨hb, hlt⟩, fun k hk => ?_, hcap⟩
    obtain ⟨cs, h3, h4, h5⟩ := h2 k hk
    refine ⟨cs, h3, fun j v hj => ?_, hP _ _ _ _ _ _ (fun i hi => ⟨rfl, hi.1, hi.2.1⟩) h5⟩
    have hjs : j < sz := by rw [← h3]; exact (Array.getElem?_eq_some_iff.1 hj).1
    rw [h1.cellAt (g := g) (cap := c) (k * sz + j) (by have := Nat.mul_le_mul_right sz (show k + 1 ≤ n by omega); rw [Nat.add_mul, Nat.one_mul] at this; omega), h4 j hjs]
    exact hj
theorem info26 : (Tryd.prog.info? 26).map (fun i => (i.zero, i.size, i.bytes)) = some (some (.agg #[.int .i64 0, .int .i64 0, .int .u64 0, .string ⟨#[]⟩, .slice none 0 0]), 5, 64) := by kernel_rfl
end Go.Proofs.YtclefcjojlkcnaaDoor.G
