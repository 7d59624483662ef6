/- Slices of terms, appended. -/
import Derived.Test.YtmejiiebeknbjaaDoorW
import Derived.Laws.AppendOwnNone
namespace Go.Proofs.YtmejiiebeknbjaaDoor
open Go.RowKit
set_option linter.unusedVariables false
set_option linter.unusedSimpArgs false
/-- cells that spell trees -/
def FL (w : World) : List T → List Value → Prop
  | [], xs => xs = []
  | .mk op wd vl nm ts :: S, xs => ∃ p c xs', xs = [.int .i64 op, .int .i64 wd, .int .u64 vl, .string nm, .slice p ts.length c] ++ xs' ∧ Wf op wd vl nm ∧ Row w p c ts ∧ FL w S xs'
theorem fl_len {w : World} : ∀ {S : List T} {xs : List Value}, FL w S xs → xs.length = S.length * 5
  | [], xs, h => by rw [FL] at h; rw [h]; rfl
  | .mk op wd vl nm ts :: S, xs, h => by
    rw [FL] at h
    obtain ⟨p, c, xs', rfl, _, _, h⟩ := h
    have := fl_len h
    simp only [List.length_append, List.length_cons, List.length_nil]; omega
theorem fl_one {w : World} : ∀ {S : List T} {xs : List Value}, FL w S xs → ∀ u ∈ xs, u.oneCell' = true
  | [], xs, h, u, hu => by rw [FL] at h; subst h; cases hu
  | .mk op wd vl nm ts :: S, xs, h, u, hu => by
    rw [FL] at h
    obtain ⟨p, c, xs', rfl, _, _, h⟩ := h
    rcases List.mem_append.1 hu with hu | hu
    · simp only [List.mem_cons, List.not_mem_nil, or_false] at hu
      rcases hu with rfl | rfl | rfl | rfl | rfl <;> rfl
    · exact fl_one h u hu
theorem fl_keep {w w' : World} (hb : BK w w') : ∀ {S : List T} {xs : List Value}, FL w S xs → FL w' S xs
  | [], xs, h => by rw [FL] at h ⊢; exact h
  | .mk op wd vl nm ts :: S, xs, h => by
    rw [FL] at h ⊢
    obtain ⟨p, c, xs', rfl, hw, hr, h⟩ := h
    exact ⟨p, c, xs', rfl, hw, hr.keep hb, fl_keep hb h⟩
theorem fl_app {w : World} : ∀ {S R : List T} {xs ys : List Value}, FL w S xs → FL w R ys → FL w (S ++ R) (xs ++ ys)
  | [], R, xs, ys, h, k => by rw [FL] at h; subst h; exact k
  | .mk op wd vl nm ts :: S, R, xs, ys, h, k => by
    rw [FL] at h
    obtain ⟨p, c, xs', rfl, hw, hr, h⟩ := h
    rw [List.cons_append, FL]
    exact ⟨p, c, xs' ++ ys, by rw [List.append_assoc], hw, hr, fl_app h k⟩
theorem fl_of {w : World} : ∀ {S : List T} {b o : Nat}, AtL S w b o → ∃ xs, FL w S xs ∧ ∀ j u, xs[j]? = some u → w.cell? ⟨b, o + j, none⟩ = some u
  | [], b, o, _ => ⟨[], by rw [FL], fun j u h => by simp at h⟩
  | .mk op wd vl nm ts :: S, b, o, h => by
    rw [AtL, at_mk] at h
    obtain ⟨⟨p, c, hc, hw, hr⟩, h⟩ := h
    obtain ⟨xs, h1, h2⟩ := fl_of h
    refine ⟨[.int .i64 op, .int .i64 wd, .int .u64 vl, .string nm, .slice p ts.length c] ++ xs, by rw [FL]; exact ⟨p, c, xs, rfl, hw, hr, h1⟩, fun j u hu => ?_⟩
    match j, hu with
    | 0, hu => simp at hu; rw [← hu]; exact hc.1
    | 1, hu => simp at hu; rw [← hu]; exact hc.2.1
    | 2, hu => simp at hu; rw [← hu]; exact hc.2.2.1
    | 3, hu => simp at hu; rw [← hu]; exact hc.2.2.2.1
    | 4, hu => simp at hu; rw [← hu]; exact hc.2.2.2.2
    | j + 5, hu =>
      rw [show o + (j + 5) = o + 5 + j by omega]
      exact h2 j u (by simpa using hu)
theorem at_of_fl {w : World} : ∀ {S : List T} {xs : List Value} {b o : Nat}, FL w S xs → (∀ j u, xs[j]? = some u → w.cell? ⟨b, o + j, none⟩ = some u) → AtL S w b o
  | [], xs, b, o, _, _ => by rw [AtL]; trivial
  | .mk op wd vl nm ts :: S, xs, b, o, h, k => by
    rw [FL] at h
    obtain ⟨p, c, xs', rfl, hw, hr, h⟩ := h
    rw [AtL, at_mk]
    refine ⟨⟨p, c, ⟨k 0 _ (by simp), k 1 _ (by simp), k 2 _ (by simp), k 3 _ (by simp), k 4 _ (by simp)⟩, hw, hr⟩, at_of_fl h fun j u hu => ?_⟩
    rw [show o + 5 + j = o + (j + 5) by omega]
    exact k (j + 5) u (by simpa using hu)
theorem info34 : (Tryd.prog.info? 34).map (fun i => (i.zero, i.size, i.bytes)) = some (some (.agg #[.int .i64 0, .int .i64 0, .int .u64 0, .string ⟨#[]⟩, .slice none 0 0]), 5, 64) := by kernel_rfl
theorem row_own {w : World} {B n : Nat} {S : List T} {p : Option Addr} {c : Nat} {xs : List Value} (ho : w.ownsRow B 34 5 (.slice p n c) n xs) (hf : FL w S xs) (hn : S.length = n) : Row w p c S := by
  subst hn
  rcases ho.2 with ⟨hv, h0⟩ | ⟨g, cap, cur, hv, hb, hg, hle, hcm, hcur, htk⟩
  · refine .inl ⟨h0, fun _ => ?_⟩
    injection hv
  · injection hv with h1 h2 h3
    subst h1; subst h3
    refine .inr ⟨_, _, rfl, at_of_fl hf fun j u hu => ?_, Nat.le_trans hle hcm⟩
    rw [Nat.zero_add, cell_of_row w g j _ _ _ hg]
    rw [← htk] at hu
    rw [List.getElem?_take] at hu
    split at hu
    · simpa using hu
    · cases hu
theorem wpList_append_tl {ops : Array Oper} {rest : List Oper} {o : Oper} {a : Act} {w : World} {Q : Exit → Act → World → Prop} (hgd : o.guard = none) (s x : Operand)
    (ho : o.op = .call { callee := .builtin .append, args := #[s, x], argTypes := #[32, 32] }) (hs : a.eval s = .slice none 0 0)
    (p : Option Addr) (c : Nat) (S : List T) (hx : a.eval x = .slice p S.length c) (hr : Row w p c S) (hl : S.length ≤ 1000)
    (h : ∀ p' c' w' xs, w'.ownsRow w.heap.size 34 5 (.slice p' S.length c') S.length xs → FL w S xs → BK w w' → wpList Tryd.prog ops Q rest (a.put o.dst (.slice p' S.length c')) w') : wpList Tryd.prog ops Q (o :: rest) a w := by
  obtain ⟨i3, hi3, hz3, hs3, hb3⟩ := info_parts info34
  have own : ∀ (ad : Addr) (news : List Value), a.eval x = .slice (some ad) S.length c → FL w S news → (∀ j u, news[j]? = some u → w.cell? (ad.add j) = some u) → wpList Tryd.prog ops Q (o :: rest) a w := by
    intro ad news hx hf hc
    refine wpList_append_own w hgd s x 32 ho w.heap.size 34 i3 _ 5 64 Tryd.underlying32 hi3 hz3 hs3 hb3 rfl (by decide) (.slice none 0 0) 0 [] hs (World.ownsRow_nil _ _ _ _) ad S.length c news hx (fl_len hf) hc (fl_one hf) (by unfold maxLen; omega) (by omega) (Nat.le_refl _) ?_
    intro v' w' hown hgrow _
    rw [List.nil_append, Nat.zero_add] at hown
    obtain ⟨p', c', rfl⟩ := own_shape hown
    exact h p' c' w' news hown hf ((Below.refl w.heap.size w).grown hgrow (Nat.le_refl _) (fun r hr => by cases hr))
  rcases hr with ⟨h0, hc0⟩ | ⟨b, o', rfl, hat, _⟩
  · have hz : S = [] := List.eq_nil_of_length_eq_zero h0
    subst hz
    cases p with
    | none =>
      obtain rfl := hc0 rfl
      exact wpList_append_own_none hgd s x 32 ho w.heap.size 34 i3 5 Tryd.underlying32 hi3 (.slice none 0 0) 0 [] hs (World.ownsRow_nil _ _ _ _) hx (h none 0 w [] (World.ownsRow_nil _ _ _ _) (by rw [FL]) (BK.refl _))
    | some ad => exact own ad [] hx (by rw [FL]) (fun j u hu => by simp at hu)
  · obtain ⟨xs, h1, h2⟩ := fl_of hat
    exact own _ xs hx h1 (fun j u hu => by rw [show (⟨b, o', none⟩ : Addr).add j = ⟨b, o' + j, none⟩ from Go.WideShapes.add_plain _ _ _]; exact h2 j u hu)
/-- one term appended to a slice of the call's own -/
theorem wpList_append_t1 {ops : Array Oper} {rest : List Oper} {o : Oper} {a : Act} {w0 w w1 : World} {Q : Exit → Act → World → Prop} (hgd : o.guard = none) (s x : Operand)
    (ho : o.op = .call { callee := .builtin .append, args := #[s, x], argTypes := #[32, 32] })
    (p : Option Addr) (c : Nat) (S : List T) (xs : List Value) (hs : a.eval s = .slice p S.length c) (hown : w1.ownsRow w0.heap.size 34 5 (.slice p S.length c) S.length xs) (hf : FL w0 S xs) (hbk : BK w0 w1)
    (op wd : Int) (vl : Nat) (nm : ByteArray) (ts : List T) (q : Option Addr) (d g : Nat) (hg : w1.heap.size = g) (hx : a.eval x = .slice (some ⟨g, 0, none⟩) 1 1) (hw : w = w1.alloc (.cells #[.int .i64 op, .int .i64 wd, .int .u64 vl, .string nm, .slice q ts.length d] 34)) (hr : Row w0 q d ts) (hwf : Wf op wd vl nm) (hl : S.length ≤ 1000)
    (h : ∀ p' c' w', Row w' p' c' (S ++ [.mk op wd vl nm ts]) → BK w0 w' → wpList Tryd.prog ops Q rest (a.put o.dst (.slice p' (S.length + 1) c')) w') : wpList Tryd.prog ops Q (o :: rest) a w := by
  obtain ⟨i3, hi3, hz3, hs3, hb3⟩ := info_parts info34
  have hka := bk_alloc (BK.refl w1) (.cells #[.int .i64 op, .int .i64 wd, .int .u64 vl, .string nm, .slice q ts.length d] 34)
  have hblk := heap_alloc_new w1 (.cells #[.int .i64 op, .int .i64 wd, .int .u64 vl, .string nm, .slice q ts.length d] 34)
  have hbw := bk_alloc hbk (.cells #[.int .i64 op, .int .i64 wd, .int .u64 vl, .string nm, .slice q ts.length d] 34)
  rw [hg] at hblk
  rw [← hw] at hka hblk hbw
  have hown' := own_below hown hka
  refine wpList_append_own w hgd s x 32 ho w0.heap.size 34 i3 _ 5 64 Tryd.underlying32 hi3 hz3 hs3 hb3 rfl (by decide) _ S.length xs hs hown' ⟨g, 0, none⟩ 1 1 [.int .i64 op, .int .i64 wd, .int .u64 vl, .string nm, .slice q ts.length d] hx rfl ?_ ?_ (by unfold maxLen; omega) (by omega) (bk_size hbw) ?_
  · intro j u hu
    rw [show (⟨g, 0, none⟩ : Addr).add j = ⟨g, 0 + j, none⟩ from Go.WideShapes.add_plain _ _ _, Nat.zero_add, cell_of_row w g j _ _ _ hblk]
    simpa using hu
  · intro u hu
    simp only [List.mem_cons, List.not_mem_nil, or_false] at hu
    rcases hu with rfl | rfl | rfl | rfl | rfl <;> rfl
  · intro v' w' hown2 hgrow _
    obtain ⟨p', c', rfl⟩ := own_shape hown2
    have hb9 : BK w0 w' := (show Below w0.heap.size w0 w from hbw).grown hgrow (bk_size hbw) (fun r hr => (hown'.lt r hr).1)
    have h1 : FL w0 [T.mk op wd vl nm ts] [.int .i64 op, .int .i64 wd, .int .u64 vl, .string nm, .slice q ts.length d] := by
      rw [FL]
      exact ⟨q, d, [], rfl, hwf, hr, by rw [FL]⟩
    exact h p' c' w' (row_own hown2 (fl_keep hb9 (fl_app hf h1)) (by simp)) hb9
end Go.Proofs.YtmejiiebeknbjaaDoor
