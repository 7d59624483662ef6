/- A list of s-expressions in the making. -/
import Derived.Test.YtgiheheakgigkaaC
namespace Go.Proofs.Ytgiheheakgigkaa
open Go.RowKit
set_option linter.unusedVariables false
set_option linter.unusedSimpArgs false
def T.a : T → ByteArray | .mk a _ => a
def T.ts : T → List T | .mk _ ts => ts
structure LV (lo : Nat) (w : World) (v : Value) (acc : List T) : Prop where
  own : ∃ xs, w.ownsRow lo 25 2 v acc.length xs ∧ ∀ k (h : k < acc.length), ∃ p c, xs[k * 2]? = some (.string acc[k].a) ∧ xs[k * 2 + 1]? = some (.slice p acc[k].ts.length c) ∧ RowD (memX lo w v) w p c acc[k].ts
theorem LV.nil (lo : Nat) (w : World) : LV lo w (.slice none 0 0) [] := ⟨[], World.ownsRow_nil _ _ _ _, fun k h => by simp at h⟩
theorem LV.shape {lo : Nat} {w : World} {v : Value} {acc : List T} (h : LV lo w v acc) : ∃ p c, v = .slice p acc.length c := by
  obtain ⟨xs, h1, _⟩ := h.own
  exact own_shape h1
theorem LV.step {lo : Nat} {w w' : World} {v : Value} {acc : List T} {pb : Nat} (h : LV lo w v acc) (s : Step w w' (oneF pb) (oneF pb)) (hp : pb < lo) : LV lo w' v acc := by
  obtain ⟨xs, h1, h2⟩ := h.own
  refine ⟨xs, own_at h1 fun k hk => s.block k (h1.lt k hk).2 (fun e => by have := (h1.lt k hk).1; unfold oneF at e; omega), fun k hk => ?_⟩
  obtain ⟨p, c, h3, h4, h5⟩ := h2 k hk
  exact ⟨p, c, h3, h4, h5.keep fun j hj => ⟨s.block j hj.2.1 (fun e => by have := hj.1; unfold oneF at e; omega), hj.1, Nat.lt_of_lt_of_le hj.2.1 s.size, hj.2.2⟩⟩
theorem LV.bk {lo : Nat} {w w' : World} {v : Value} {acc : List T} (h : LV lo w v acc) (hb : BK w w') : LV lo w' v acc := by
  obtain ⟨xs, h1, h2⟩ := h.own
  refine ⟨xs, own_below h1 hb, fun k hk => ?_⟩
  obtain ⟨p, c, h3, h4, h5⟩ := h2 k hk
  exact ⟨p, c, h3, h4, h5.keep fun j hj => ⟨bk_block hb hj.2.1, hj.1, Nat.lt_of_lt_of_le hj.2.1 (bk_size hb), hj.2.2⟩⟩
/-- one more -/
theorem LV.push {lo lo1 : Nat} {w w1 : World} {v v' : Value} {acc : List T} {e : T} {X : Obj} {p : Option Addr} {c : Nat} (h : LV lo w v acc) (hlo : lo ≤ lo1) (hv : ∀ k, v.ownBlock = some k → k < lo1) (hr : RowD (mem lo1 w) w p c e.ts)
    (hg : (w.alloc X).grownBy w1 v.ownBlock) (xs : List Value) (hx : w.ownsRow lo 25 2 v acc.length xs) (hel : ∀ k (h : k < acc.length), ∃ p c, xs[k * 2]? = some (.string acc[k].a) ∧ xs[k * 2 + 1]? = some (.slice p acc[k].ts.length c) ∧ RowD (memX lo w v) w p c acc[k].ts)
    (ho : w1.ownsRow lo 25 2 v' (acc ++ [e]).length (xs ++ [.string e.a, .slice p e.ts.length c])) (hat : ∀ k, v'.ownBlock = some k → v.ownBlock = some k ∨ k = w.heap.size + 1) : LV lo w1 v' (acc ++ [e]) := by
  have hsz : w.heap.size ≤ w1.heap.size := by have := hg.size; rw [sz1] at this; omega
  have keep : ∀ k, k < w.heap.size → v.ownBlock ≠ some k → w1.heap[k]? = w.heap[k]? := fun k hk hn => by
    rw [hg.block k (by rw [sz1]; omega) (fun e => hn e.symm)]; exact heap_alloc_old w X hk
  have hl : xs.length = acc.length * 2 := hx.1
  refine ⟨_, ho, fun k hk => ?_⟩
  rw [List.length_append] at hk
  by_cases q : k < acc.length
  · obtain ⟨p', c', h3, h4, h5⟩ := hel k q
    rw [List.getElem_append_left q]
    refine ⟨p', c', ?_, ?_, h5.keep fun j hj => ⟨keep j hj.2.1 hj.2.2, hj.1, Nat.lt_of_lt_of_le hj.2.1 hsz, fun e' => ?_⟩⟩
    · rw [List.getElem?_append_left (by omega)]; exact h3
    · rw [List.getElem?_append_left (by omega)]; exact h4
    · rcases hat j e' with e'' | e''
      · exact hj.2.2 e''
      · have := hj.2.1; omega
  · have q' : k = acc.length := by simp at hk; omega
    subst q'
    rw [List.getElem_append_right (Nat.le_refl _)]
    simp only [Nat.sub_self, List.getElem_cons_zero]
    refine ⟨p, c, ?_, ?_, hr.keep fun j hj => ⟨keep j hj.2 (fun e' => by have := hv j e'; have := hj.1; omega), Nat.le_trans hlo hj.1, Nat.lt_of_lt_of_le hj.2 hsz, fun e' => ?_⟩⟩
    · rw [List.getElem?_append_right (by omega), hl, Nat.sub_self]; rfl
    · rw [List.getElem?_append_right (by omega), hl, show acc.length * 2 + 1 - acc.length * 2 = 1 by omega]; rfl
    · rcases hat j e' with e'' | e''
      · have := hv j e''; have := hj.1; omega
      · have := hj.2; omega
/-- a list that is done -/
theorem LV.row {lo : Nat} {w : World} {p : Option Addr} {c : Nat} {acc : List T} (h : LV lo w (.slice p acc.length c) acc) : RowD (mem lo w) w p c acc := by
  obtain ⟨xs, h1, h2⟩ := h.own
  by_cases h0 : acc.length = 0
  · refine .inl ⟨h0, fun hp => ?_⟩
    subst hp
    rcases h1.2 with ⟨hv, _⟩ | ⟨g, cap, cur, hv, _⟩
    · simp only [Value.slice.injEq] at hv; exact hv.2.2
    · cases hv
  · obtain ⟨g, cap, hv, hb, hlt⟩ := h1.form (by omega)
    simp only [Value.slice.injEq] at hv
    obtain ⟨rfl, -, rfl⟩ := hv
    have hcap : acc.length ≤ c := by
      rcases h1.2 with ⟨hv, _⟩ | ⟨g', cap', cur, hv, _, _, h5, _⟩
      · cases hv
      · cases hv; exact h5
    refine .inr ⟨g, 0, rfl, ⟨hb, hlt⟩, atDL_of fun k hk => ?_, hcap⟩
    obtain ⟨q, d, h3, h4, h5⟩ := h2 k hk
    have c0 := h1.cellAt (g := g) (cap := c) (k * 2) (by omega)
    have c1 := h1.cellAt (g := g) (cap := c) (k * 2 + 1) (by omega)
    generalize acc[k] = e at *
    cases e with
    | mk a ts =>
      rw [atD_mk, Nat.zero_add]
      exact ⟨q, d, c0.trans h3, c1.trans h4, h5.keep fun j hj => ⟨rfl, hj.1, hj.2.1⟩⟩
theorem info25 : (Try.prog.info? 25).map (fun i => (i.zero, i.size, i.bytes)) = some (some (.agg #[.string ByteArray.empty, .slice none 0 0]), 2, 40) := by kernel_rfl
theorem news2 (w : World) (x y : Value) (T : Nat) : ∀ j u, ([x, y])[j]? = some u → (w.alloc (.cells #[x, y] T)).cell? ((⟨w.heap.size, 0, none⟩ : Addr).add j) = some u := by
  intro j u hj
  rw [show (⟨w.heap.size, 0, none⟩ : Addr).add j = ⟨w.heap.size, 0 + j, none⟩ from Go.WideShapes.add_plain _ _ _, Nat.zero_add, World.cell?_alloc_new, ← hj]
  simp
/-- an append of one s-expression -/
theorem wpList_pushT {ops : Array Oper} {rest : List Oper} {o : Oper} {a : Act} {Q : Exit → Act → World → Prop} {w : World} (hgd : o.guard = none) (s x : Operand)
    (ho : o.op = .call { callee := .builtin .append, args := #[s, x], argTypes := #[23, 23] }) (lo : Nat) (v : Value) (acc : List T) (hs : a.eval s = v) (hl : LV lo w v acc)
    (e : T) (p : Option Addr) (c lo1 : Nat) (hx : a.eval x = .slice (some ⟨w.heap.size, 0, none⟩) 1 1) (hlo : lo ≤ lo1) (hlo1 : lo1 ≤ w.heap.size) (hv : ∀ k, v.ownBlock = some k → k < lo1) (hr : RowD (mem lo1 w) w p c e.ts) (hsm : acc.length ≤ 200000)
    (h : ∀ g cap w', LV lo w' (.slice (some ⟨g, 0, none⟩) (acc.length + 1) cap) (acc ++ [e]) → Step w w' (fun k => v.ownBlock = some k) (fun k => k = g) → wpList Try.prog ops Q rest (a.put o.dst (.slice (some ⟨g, 0, none⟩) (acc.length + 1) cap)) w') :
    wpList Try.prog ops Q (o :: rest) a (w.alloc (.cells #[.string e.a, .slice p e.ts.length c] 25)) := by
  obtain ⟨i0, hi, hz0, hz1, hz2⟩ := info_parts info25
  obtain ⟨xs, h1, h2⟩ := hl.own
  have h1' := own_below h1 (bk_alloc (BK.refl w) (.cells #[.string e.a, .slice p e.ts.length c] 25))
  refine wpList_append_lies (w.alloc (.cells #[.string e.a, .slice p e.ts.length c] 25)) hgd s x 23 ho lo 25 i0 _ 2 40 Try.underlying23 hi hz0 hz1 hz2 rfl (by decide) v acc.length xs hs h1' ⟨w.heap.size, 0, none⟩ 1 1 [.string e.a, .slice p e.ts.length c] hx rfl (news2 w _ _ 25) (by intro u hu; simp at hu; rcases hu with rfl | rfl <;> rfl) (by omega) (by unfold maxLen; omega) (by omega) (by simp; omega) _ rfl ?_
  intro g cap w' h3 h4 h5 h6
  have hat : ∀ k, (Value.slice (some ⟨g, 0, none⟩) (acc.length + 1) cap).ownBlock = some k → v.ownBlock = some k ∨ k = w.heap.size + 1 := by
    intro k hk
    obtain rfl : g = k := by simpa [Value.ownBlock] using hk
    rcases h5 with q | q
    · exact .inl q
    · right; rw [q, sz1]
  refine h g cap w' (hl.push hlo hv hr h4 xs h1 h2 (by rw [List.length_append]; exact h3) hat) ?_
  have hsz := h4.size
  rw [sz1] at hsz
  refine ⟨h4.os, h4.tape, h4.output, by omega, fun k hk hn => ?_, fun k hk => ?_⟩
  · rw [h4.block k (by rw [sz1]; omega) (fun e => hn e.symm)]; exact heap_alloc_old w _ hk
  · subst hk
    rcases hat k rfl with q | q
    · exact .inl q
    · exact .inr (by omega)
theorem Step.aside {w0 w w' : World} {pb : Nat} {F G : Nat → Prop} (h : Step w0 w (oneF pb) (oneF pb)) (s : Step w w' F G) (hF : ∀ k, F k → w0.heap.size ≤ k) : Step w0 w' (oneF pb) (oneF pb) :=
  ⟨s.os.trans h.os, s.tape.trans h.tape, s.output.trans h.output, Nat.le_trans h.size s.size, fun k hk hn => (s.block k (Nat.lt_of_lt_of_le hk h.size) (fun f => by have := hF k f; omega)).trans (h.block k hk hn), fun k hk => .inl hk⟩
theorem PB.aside {w w' : World} {pb i : Nat} {s : ByteArray} {F G : Nat → Prop} (h : PB w pb s i) (st : Step w w' F G) (hF : ¬ F pb) : PB w' pb s i := (st.block pb h.lt hF).trans h
end Go.Proofs.Ytgiheheakgigkaa
