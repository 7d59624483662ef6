/- A list of s-expressions that grows by a place, and then by what fills it. -/
import Derived.Test.YtgiheheakgigkaaR
namespace Go.Proofs.Ytgiheheakgigkaa
open Go.RowKit
set_option linter.unusedVariables false
set_option linter.unusedSimpArgs false
/-- one place more -/
theorem LV.pushZ {lo : Nat} {w w1 : World} {v v' : Value} {acc : List T} (hg : w.grownBy w1 v.ownBlock) (xs : List Value) (hx : w.ownsRow lo 25 2 v acc.length xs) (hel : ∀ k (h : k < acc.length), ∃ p c, xs[k * 2]? = some (.string acc[k].a) ∧ xs[k * 2 + 1]? = some (.slice p acc[k].ts.length c) ∧ RowD (memX lo w v) w p c acc[k].ts)
    (ho : w1.ownsRow lo 25 2 v' (acc ++ [zeroT]).length (xs ++ [.string ⟨#[]⟩, .slice none 0 0])) (hat : ∀ k, v'.ownBlock = some k → v.ownBlock = some k ∨ k = w.heap.size) : LV lo w1 v' (acc ++ [zeroT]) := by
  have hsz : w.heap.size ≤ w1.heap.size := hg.size
  have keep : ∀ k, k < w.heap.size → v.ownBlock ≠ some k → w1.heap[k]? = w.heap[k]? := fun k hk hn => hg.block k hk (fun e => hn e.symm)
  have hl : xs.length = acc.length * 2 := hx.1
  refine ⟨_, ho, fun k hk => ?_⟩
  rw [List.length_append] at hk
  by_cases q : k < acc.length
  · obtain ⟨p', c', h3, h4, h5⟩ := hel k q
    rw [List.getElem_append_left q]
    refine ⟨p', c', ?_, ?_, h5.keep fun j hj => ⟨keep j hj.2.1 hj.2.2, hj.1, Nat.lt_of_lt_of_le hj.2.1 hsz, fun e' => ?_⟩⟩
    · rw [List.getElem?_append_left (by omega)]; exact h3
    · rw [List.getElem?_append_left (by omega)]; exact h4
    · rcases hat j e' with e'' | e''
      · exact hj.2.2 e''
      · have := hj.2.1; omega
  · have q' : k = acc.length := by simp at hk; omega
    subst q'
    rw [List.getElem_append_right (Nat.le_refl _)]
    simp only [Nat.sub_self, List.getElem_cons_zero]
    refine ⟨none, 0, ?_, ?_, .inl ⟨rfl, fun _ => rfl⟩⟩
    · rw [List.getElem?_append_right (by omega), hl, Nat.sub_self]; rfl
    · rw [List.getElem?_append_right (by omega), hl, show acc.length * 2 + 1 - acc.length * 2 = 1 by omega]; rfl
theorem wp_pushZ {o : Oper} {a : Act} {K : Act → World → Prop} {Q : Exit → Act → World → Prop} {w : World} (s x : Operand)
    (ho : o.op = .call { callee := .builtin .append, args := #[s, x], argTypes := #[23, 23] }) (lo : Nat) (v : Value) (acc : List T) (hs : a.eval s = v) (hl : LV lo w v acc)
    (b : Nat) (hx : a.eval x = .slice (some ⟨b, 0, none⟩) 1 1) (hb : w.heap[b]? = some (.cells #[.string ⟨#[]⟩, .slice none 0 0] 25 (0, 0))) (hlo : lo ≤ w.heap.size) (hsm : acc.length ≤ 200000)
    (h : ∀ g cap w', LV lo w' (.slice (some ⟨g, 0, none⟩) (acc.length + 1) cap) (acc ++ [zeroT]) → Step w w' (fun k => v.ownBlock = some k) (fun k => k = g) → (v.ownBlock = some g ∨ g = w.heap.size) → K (a.put o.dst (.slice (some ⟨g, 0, none⟩) (acc.length + 1) cap)) w') : o.wp Try.prog a w K Q := by
  obtain ⟨i0, hi, hz0, hz1, hz2⟩ := info_parts info25
  obtain ⟨xs, h1, h2⟩ := hl.own
  refine wp_append_lies w s x 23 ho lo 25 i0 _ 2 40 Try.underlying23 hi hz0 hz1 hz2 rfl (by decide) v acc.length xs hs h1 ⟨b, 0, none⟩ 1 1 [.string ⟨#[]⟩, .slice none 0 0] hx rfl (World.news_of_block hb) (by intro u hu; simp at hu; rcases hu with rfl | rfl <;> rfl) (by omega) (by unfold maxLen; omega) (by omega) hlo _ rfl ?_
  intro g cap w' h3 h4 h5 h6
  have hat : ∀ k, (Value.slice (some ⟨g, 0, none⟩) (acc.length + 1) cap).ownBlock = some k → v.ownBlock = some k ∨ k = w.heap.size := by
    intro k hk
    obtain rfl : g = k := by simpa [Value.ownBlock] using hk
    exact h5
  refine h g cap w' (LV.pushZ h4 xs h1 h2 (by rw [List.length_append]; exact h3) hat) ?_ h5
  refine ⟨h4.os, h4.tape, h4.output, h4.size, fun k hk hn => h4.block k hk (fun e => hn e.symm), fun k hk => ?_⟩
  subst hk
  rcases h5 with q | q
  · exact .inl q
  · exact .inr (by omega)
/-- the last place, filled -/
theorem LV.fill {lo n : Nat} {w : World} {g cap : Nat} {acc : List T} {e : T} {p : Option Addr} {c : Nat} {D : Nat → Prop} (hn : n = acc.length) (h : LV lo w (.slice (some ⟨g, 0, none⟩) (n + 1) cap) (acc ++ [zeroT]))
    (hr : RowD D w p c e.ts) (hD : ∀ k, D k → lo ≤ k ∧ k < w.heap.size ∧ k ≠ g) : LV lo ((w.setCell ⟨g, n * 2, none⟩ (.string e.a)).setCell ⟨g, n * 2 + 1, none⟩ (.slice p e.ts.length c)) (.slice (some ⟨g, 0, none⟩) (n + 1) cap) (acc ++ [e]) := by
  subst hn
  obtain ⟨xs, h1, h2⟩ := h.own
  have hlen : (acc ++ [zeroT]).length = acc.length + 1 := by simp
  have hlen' : (acc ++ [e]).length = acc.length + 1 := by simp
  rw [hlen] at h1
  have s1 := (h1.stored (acc.length * 2) (.string e.a)).1
  have s2 := (s1.stored (acc.length * 2 + 1) (.slice p e.ts.length c)).1
  have hl : xs.length = (acc.length + 1) * 2 := h1.1
  have keep : ∀ k, k ≠ g → ((w.setCell ⟨g, acc.length * 2, none⟩ (.string e.a)).setCell ⟨g, acc.length * 2 + 1, none⟩ (.slice p e.ts.length c)).heap[k]? = w.heap[k]? := fun k hk => by
    rw [heap_setCell_other _ ⟨g, _, none⟩ k _ (fun e => hk e), heap_setCell_other _ ⟨g, _, none⟩ k _ (fun e => hk e)]
  refine ⟨_, by rw [hlen']; exact s2, fun k hk => ?_⟩
  by_cases q : k < acc.length
  · obtain ⟨p', c', h3, h4, h5⟩ := h2 k (by simp; omega)
    rw [List.getElem_append_left q] at h3 h4 h5 ⊢
    refine ⟨p', c', ?_, ?_, h5.keep fun j hj => ⟨keep j (fun e' => hj.2.2 (by rw [e']; rfl)), hj.1, by simpa [World.setCell] using hj.2.1, hj.2.2⟩⟩
    · rw [List.getElem?_set_ne (by omega), List.getElem?_set_ne (by omega)]; exact h3
    · rw [List.getElem?_set_ne (by omega), List.getElem?_set_ne (by omega)]; exact h4
  · have q' : k = acc.length := by simp at hk; omega
    subst q'
    rw [List.getElem_append_right (Nat.le_refl _)]
    simp only [Nat.sub_self, List.getElem_cons_zero]
    refine ⟨p, c, ?_, ?_, hr.keep fun j hj => ⟨keep j (hD j hj).2.2, (hD j hj).1, by simpa [World.setCell] using (hD j hj).2.1, fun e' => (hD j hj).2.2 (by simpa [Value.ownBlock] using e'.symm)⟩⟩
    · rw [List.getElem?_set_ne (by omega), List.getElem?_set_self (by omega)]
    · rw [List.getElem?_set_self (by rw [List.length_set]; omega)]
end Go.Proofs.Ytgiheheakgigkaa
