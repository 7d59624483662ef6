/- A list of steps appended to a list of steps. -/
import Derived.Test.YtnlpiaejfmdckaaDoorSP
namespace Go.Proofs.YtnlpiaejfmdckaaDoor
open Go.RowKit
set_option linter.unusedVariables false
set_option linter.unusedSimpArgs false
def FS (D : Nat → Prop) (w : World) : List S → List Value → Prop
  | [], xs => xs = []
  | s :: ss, xs => ∃ q xs', xs = (cS s q).toList ++ xs' ∧ Ps D w s q ∧ FS D w ss xs'
theorem fs_nil {D : Nat → Prop} {w : World} {xs : List Value} : FS D w [] xs ↔ xs = [] := by rw [FS]
theorem fs_cons {D : Nat → Prop} {w : World} {s : S} {ss : List S} {xs : List Value} : FS D w (s :: ss) xs ↔ ∃ q xs', xs = (cS s q).toList ++ xs' ∧ Ps D w s q ∧ FS D w ss xs' := by rw [FS]
theorem cS_len (s : S) (q : Pt) : (cS s q).toList.length = 14 := rfl
theorem fs_len {D : Nat → Prop} {w : World} : ∀ {ss : List S} {xs : List Value}, FS D w ss xs → xs.length = ss.length * 14
  | [], xs, h => by rw [fs_nil.1 h]; rfl
  | s :: ss, xs, h => by
    obtain ⟨q, xs', rfl, -, h⟩ := fs_cons.1 h
    rw [List.length_append, cS_len, fs_len h, List.length_cons]; omega
theorem fs_one {D : Nat → Prop} {w : World} : ∀ {ss : List S} {xs : List Value}, FS D w ss xs → ∀ u ∈ xs, u.oneCell' = true
  | [], xs, h, u, hu => by rw [fs_nil.1 h] at hu; cases hu
  | s :: ss, xs, h, u, hu => by
    obtain ⟨q, xs', rfl, -, h⟩ := fs_cons.1 h
    rcases List.mem_append.1 hu with hu | hu
    · exact one_cS s q u hu
    · exact fs_one h u hu
theorem fs_of {D : Nat → Prop} {w : World} {b : Nat} : ∀ {ss : List S} {o : Nat}, (∀ k (h : k < ss.length), AtS D ss[k] w b (o + k * 14)) → ∃ xs, FS D w ss xs ∧ ∀ j u, xs[j]? = some u → w.cell? ⟨b, o + j, none⟩ = some u
  | [], o, _ => ⟨[], fs_nil.2 rfl, fun j u h => by simp at h⟩
  | s :: ss, o, h => by
    obtain ⟨q, h1, h2⟩ := h 0 (by simp)
    obtain ⟨xs, h3, h4⟩ := fs_of (D := D) (w := w) (b := b) (ss := ss) (o := o + 14) fun k hk => by
      have := h (k + 1) (by simpa using hk)
      rw [show o + 14 + k * 14 = o + (k + 1) * 14 by omega]
      exact this
    refine ⟨(cS s q).toList ++ xs, fs_cons.2 ⟨q, xs, rfl, h2, h3⟩, fun j u hu => ?_⟩
    by_cases hj : j < 14
    · rw [List.getElem?_append_left (by rw [cS_len]; exact hj)] at hu
      have := h1 j u (by simpa using hu)
      simpa using this
    · rw [List.getElem?_append_right (by rw [cS_len]; omega), cS_len] at hu
      have := h4 _ u hu
      rwa [show o + 14 + (j - 14) = o + j by omega] at this
theorem fs_get {D : Nat → Prop} {w : World} : ∀ {ss : List S} {xs : List Value}, FS D w ss xs → ∀ k (h : k < ss.length), ∃ q, (∀ j, j < 14 → xs[k * 14 + j]? = (cS ss[k] q)[j]?) ∧ Ps D w ss[k] q
  | s :: ss, xs, h, 0, _ => by
    obtain ⟨q, xs', rfl, h2, h⟩ := fs_cons.1 h
    refine ⟨q, fun j hj => ?_, h2⟩
    rw [List.getElem?_append_left (by rw [cS_len]; omega)]
    simp
  | s :: ss, xs, h, k + 1, hk => by
    obtain ⟨q, xs', rfl, h2, h⟩ := fs_cons.1 h
    obtain ⟨q', h3, h4⟩ := fs_get h k (by simpa using hk)
    refine ⟨q', fun j hj => ?_, h4⟩
    rw [List.getElem?_append_right (by rw [cS_len]; omega), cS_len, show (k + 1) * 14 + j - 14 = k * 14 + j by omega]
    exact h3 j hj
theorem gl_app {o : Oper} {a : Act} {K : Act → World → Prop} {Q : Exit → Act → World → Prop} {w : World} (s x : Operand)
    (ho : o.op = .call { callee := .builtin .append, args := #[s, x], argTypes := #[27, 27] })
    (lo : Nat) (v : Value) (zs tt : List S) (hs : a.eval s = v) (hl : GL lo 44 14 w v zs.length (PS zs)) (p : Option Addr) (c : Nat) (hx : a.eval x = .slice p tt.length c) (hr : RowS (memO lo w v) w p c tt) (hlo : lo ≤ w.heap.size) (hz : tt.length = 0 → p = none ∨ v = .slice none 0 0) (h1 : zs.length ≤ 100000) (h2 : tt.length ≤ 100000)
    (h : ∀ q d w', GL lo 44 14 w' (.slice q (zs.length + tt.length) d) (zs.length + tt.length) (PS (zs ++ tt)) → Step w w' (fun k => v.ownBlock = some k) (fun k => (Value.slice q (zs.length + tt.length) d).ownBlock = some k) → K (a.put o.dst (.slice q (zs.length + tt.length) d)) w') : o.wp Tryd.prog a w K Q := by
  obtain ⟨i0, hi0, hz0, hz1, hz2⟩ := info_parts info44
  obtain ⟨xs, hown, hall⟩ := hl.own
  have hxl : xs.length = zs.length * 14 := hown.1
  have key : ∀ (ad : Addr) (news : List Value), a.eval x = .slice (some ad) tt.length c → FS (memO lo w v) w tt news → (∀ j u, news[j]? = some u → w.cell? (ad.add j) = some u) → 0 < tt.length → o.wp Tryd.prog a w K Q := by
    intro ad news hxa hf hc hm
    refine wp_append_lies w s x 27 ho lo 44 i0 _ 14 192 Tryd.underlying27 hi0 hz0 hz1 hz2 rfl (by decide) v zs.length xs hs hown ad tt.length c news hxa (fs_len hf) hc (fs_one hf) hm (by unfold maxLen; omega) (by omega) hlo _ rfl ?_
    intro g cap w' hown' hgrow hat hgs
    have hn : ∀ i, memO lo w v i → some i ≠ v.ownBlock := fun i hi e => hi.2.2 e.symm
    have keep : ∀ i, memO lo w v i → w'.heap[i]? = w.heap[i]? ∧ memO lo w' (.slice (some ⟨g, 0, none⟩) (zs.length + tt.length) cap) i := fun i hi => by
      refine ⟨hgrow.block i hi.2.1 (hn i hi), hi.1, Nat.lt_of_lt_of_le hi.2.1 hgrow.size, fun e' => ?_⟩
      obtain rfl : g = i := by simpa [Value.ownBlock] using e'
      rcases hat with q | q
      · exact hi.2.2 q
      · have := hi.2.1; omega
    refine h (some ⟨g, 0, none⟩) cap w' ⟨xs ++ news, hown', fun k hk => ?_⟩ ⟨hgrow.os, hgrow.tape, hgrow.output, hgrow.size, fun k hk hk2 => hgrow.block k hk (fun e => hk2 e.symm), fun k hk => ?_⟩
    · by_cases q : k < zs.length
      · obtain ⟨cs, a1, a2, s', q', a3, rfl, a5⟩ := hall k q
        refine ⟨_, a1, fun j hj => ?_, s', q', by rw [List.getElem?_append_left q]; exact a3, rfl, a5.keep keep⟩
        rw [List.getElem?_append_left (by rw [hxl]; omega)]
        exact a2 j hj
      · obtain ⟨q', h3, h4⟩ := fs_get hf (k - zs.length) (by omega)
        refine ⟨_, rfl, fun j hj => ?_, _, q', by rw [List.getElem?_append_right (by omega), List.getElem?_eq_getElem (by omega)], rfl, h4.keep keep⟩
        rw [List.getElem?_append_right (by rw [hxl]; omega), hxl, show k * 14 + j - zs.length * 14 = (k - zs.length) * 14 + j by omega]
        exact h3 j hj
    · obtain rfl : g = k := by simpa [Value.ownBlock] using hk
      rcases hat with q | q
      · exact .inl q
      · exact .inr (by omega)
  by_cases hm : 0 < tt.length
  · rcases hr with ⟨h0, hc0⟩ | ⟨b, o', rfl, hD, hat, _⟩
    · omega
    · obtain ⟨news, h3, h4⟩ := fs_of hat
      exact key _ news hx h3 (fun j u hu => by rw [show (⟨b, o', none⟩ : Addr).add j = ⟨b, o' + j, none⟩ from Go.WideShapes.add_plain _ _ _]; exact h4 j u hu) hm
  · have hz0' : tt = [] := List.eq_nil_of_length_eq_zero (by omega)
    subst hz0'
    obtain ⟨q, d, hv⟩ := own_shape hown
    have hc0 : p = none → c = 0 := by
      rcases hr with ⟨_, hc0⟩ | ⟨b, o', rfl, _⟩
      · exact hc0
      · intro h; cases h
    cases p with
    | none =>
      obtain rfl := hc0 rfl
      have hrun := run_append_owned_none (P := Tryd.prog) (w := w) lo 27 o.type 44 i0 14 Tryd.underlying27 hi0 _ zs.length xs hown
      unfold Oper.wp
      have hx' : a.eval x = .slice none 0 0 := hx
      have h9 := h q d w (by rw [List.length_nil, Nat.add_zero, List.append_nil, ← hv]; exact hl) (by rw [List.length_nil, Nat.add_zero, ← hv]; exact ⟨rfl, rfl, rfl, Nat.le_refl _, fun _ _ _ => rfl, fun k hk => .inl hk⟩)
      rw [List.length_nil, Nat.add_zero, ← hv] at h9
      simp [execOp, ho, resolve, invoke, builtin, hs, hx', hrun, Result.andThen]
      first | exact h9 | (rw [Oper.upon_value]; exact h9)
    | some ad =>
      have hv0 : v = .slice none 0 0 := by
        rcases hz rfl with h | h
        · cases h
        · exact h
      refine wp_append_own w s x 27 ho lo 44 i0 _ 14 192 Tryd.underlying27 hi0 hz0 hz1 hz2 rfl (by decide) v zs.length xs hs hown ad 0 c [] hx rfl (fun j u hu => by simp at hu) (fun u hu => by cases hu) (by unfold maxLen; omega) (by omega) hlo ?_
      intro v' w' hown' hgrow hiff
      have hv' := hiff.2 ⟨hv0, rfl⟩
      subst hv'
      rw [hv0] at hv hown hgrow hl h
      have hzl : zs.length = 0 := (Value.slice.inj hv).2.1.symm
      have hzs : zs = [] := List.eq_nil_of_length_eq_zero hzl
      subst hzs
      exact h none 0 w' (GL.nil _ _ _ _ _) ⟨hgrow.os, hgrow.tape, hgrow.output, hgrow.size, fun k hk hk2 => hgrow.block k hk (fun e => by cases e), fun k hk => by cases hk⟩
end Go.Proofs.YtnlpiaejfmdckaaDoor
