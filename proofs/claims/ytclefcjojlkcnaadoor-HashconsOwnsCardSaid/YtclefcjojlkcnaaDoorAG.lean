/- A list of nodes appended to a list of nodes. -/
import Derived.Test.YtclefcjojlkcnaaDoorAF
namespace Go.Proofs.YtclefcjojlkcnaaDoor.G
open Go.RowKit
set_option linter.unusedVariables false
set_option linter.unusedSimpArgs false
def RowA (D : Nat → Prop) (w : World) (q : Option Addr) (zs : List Int) : Prop := 0 < zs.length → ∃ b o, q = some ⟨b, o, none⟩ ∧ D b ∧ ∀ k, k < zs.length → w.cell? ⟨b, o + k, none⟩ = some (.int .i64 (zs.getD k 0))
theorem RowA.keep {w w' : World} {D D' : Nat → Prop} {q : Option Addr} {zs : List Int} (h : RowA D w q zs) (hk : ∀ k, D k → w'.heap[k]? = w.heap[k]? ∧ D' k) : RowA D' w' q zs := fun h0 => by
  obtain ⟨b, o, h1, h2, h3⟩ := h h0
  exact ⟨b, o, h1, (hk b h2).2, fun k h => (cell_at (hk b h2).1).trans (h3 k h)⟩
theorem RowA.ra {w : World} {lo : Nat} {q : Option Addr} {zs : List Int} (h : RowA (mem lo w) w q zs) : Ra w q zs := fun h0 => by
  obtain ⟨b, o, h1, h2, h3⟩ := h h0
  exact ⟨b, o, h1, h2.2, h3⟩
theorem RowA.of {w : World} {q : Option Addr} {zs : List Int} (h : Ra w q zs) : RowA (mem 0 w) w q zs := fun h0 => by
  obtain ⟨b, o, h1, h2, h3⟩ := h h0
  exact ⟨b, o, h1, ⟨Nat.zero_le _, h2⟩, h3⟩
def cN (m : Nn) (q : Option Addr) (d : Nat) : Array Value := #[.int .i64 m.op, .int .i64 m.wd, .int .u64 m.vl, .string m.nm, .slice q m.zs.length d]
theorem one_cN (m : Nn) (q : Option Addr) (d : Nat) : ∀ u ∈ (cN m q d).toList, u.oneCell' = true := by
  intro x hx
  simp [cN] at hx
  rcases hx with rfl | rfl | rfl | rfl | rfl <;> rfl
def PN (S : Nat → Prop) (ms : List Nn) : EP := fun D w k cs => ∃ (m : Nn) (q : Option Addr) (d : Nat), ms[k]? = some m ∧ cs = cN m q d ∧ RowA (fun i => D i ∧ S i) w q m.zs
theorem PN.mono (S : Nat → Prop) (ms : List Nn) : Mono (PN S ms) := fun D D' w w' k cs hk ⟨m, q, d, h1, h2, h3⟩ => ⟨m, q, d, h1, h2, h3.keep (fun i hi => ⟨(hk i hi.1).1, (hk i hi.1).2, hi.2⟩)⟩
theorem PN.snoc (S : Nat → Prop) (ms : List Nn) (m : Nn) : ∀ (D : Nat → Prop) (w : World) (k : Nat) (cs : Array Value), k < ms.length → PN S ms D w k cs → PN S (ms ++ [m]) D w k cs := fun D w k cs hk ⟨m', q, d, h1, h2, h3⟩ => ⟨m', q, d, by rw [List.getElem?_append_left hk]; exact h1, h2, h3⟩
def AtD (D : Nat → Prop) (m : Nn) (w : World) (b o : Nat) : Prop := ∃ q d, Cs w b o (cN m q d) ∧ RowA D w q m.zs
def RowM (D : Nat → Prop) (w : World) (p : Option Addr) (c : Nat) (ms : List Nn) : Prop := (ms.length = 0 ∧ (p = none → c = 0)) ∨ ∃ b o, p = some ⟨b, o, none⟩ ∧ D b ∧ (∀ k (h : k < ms.length), AtD D ms[k] w b (o + k * 5)) ∧ ms.length ≤ c
def FN (D : Nat → Prop) (w : World) : List Nn → List Value → Prop
  | [], xs => xs = []
  | m :: ms, xs => ∃ q d xs', xs = (cN m q d).toList ++ xs' ∧ RowA D w q m.zs ∧ FN D w ms xs'
theorem fn_nil {D : Nat → Prop} {w : World} {xs : List Value} : FN D w [] xs ↔ xs = [] := by rw [FN]
theorem fn_cons {D : Nat → Prop} {w : World} {m : Nn} {ms : List Nn} {xs : List Value} : FN D w (m :: ms) xs ↔ ∃ q d xs', xs = (cN m q d).toList ++ xs' ∧ RowA D w q m.zs ∧ FN D w ms xs' := by rw [FN]
theorem cN_len (m : Nn) (q : Option Addr) (d : Nat) : (cN m q d).toList.length = 5 := rfl
theorem fn_len {D : Nat → Prop} {w : World} : ∀ {ms : List Nn} {xs : List Value}, FN D w ms xs → xs.length = ms.length * 5
  | [], xs, h => by rw [fn_nil.1 h]; rfl
  | m :: ms, xs, h => by
    obtain ⟨q, d, xs', rfl, -, h⟩ := fn_cons.1 h
    rw [List.length_append, cN_len, fn_len h, List.length_cons]; omega
theorem fn_one {D : Nat → Prop} {w : World} : ∀ {ms : List Nn} {xs : List Value}, FN D w ms xs → ∀ u ∈ xs, u.oneCell' = true
  | [], xs, h, u, hu => by rw [fn_nil.1 h] at hu; cases hu
  | m :: ms, xs, h, u, hu => by
    obtain ⟨q, d, xs', rfl, -, h⟩ := fn_cons.1 h
    rcases List.mem_append.1 hu with hu | hu
    · exact one_cN m q d u hu
    · exact fn_one h u hu
theorem fn_of {D : Nat → Prop} {w : World} {b : Nat} : ∀ {ms : List Nn} {o : Nat}, (∀ k (h : k < ms.length), AtD D ms[k] w b (o + k * 5)) → ∃ xs, FN D w ms xs ∧ ∀ j u, xs[j]? = some u → w.cell? ⟨b, o + j, none⟩ = some u
  | [], o, _ => ⟨[], fn_nil.2 rfl, fun j u h => by simp at h⟩
  | m :: ms, o, h => by
    obtain ⟨q, d, h1, h2⟩ := h 0 (by simp)
    obtain ⟨xs, h3, h4⟩ := fn_of (D := D) (w := w) (b := b) (ms := ms) (o := o + 5) fun k hk => by
      have := h (k + 1) (by simpa using hk)
      rw [show o + 5 + k * 5 = o + (k + 1) * 5 by omega]
      exact this
    refine ⟨(cN m q d).toList ++ xs, fn_cons.2 ⟨q, d, xs, rfl, h2, h3⟩, fun j u hu => ?_⟩
    by_cases hj : j < 5
    · rw [List.getElem?_append_left (by rw [cN_len]; exact hj)] at hu
      have := h1 j u (by simpa using hu)
      simpa using this
    · rw [List.getElem?_append_right (by rw [cN_len]; omega), cN_len] at hu
      have := h4 _ u hu
      rwa [show o + 5 + (j - 5) = o + j by omega] at this
theorem fn_get {D : Nat → Prop} {w : World} : ∀ {ms : List Nn} {xs : List Value}, FN D w ms xs → ∀ k (h : k < ms.length), ∃ q d, (∀ j, j < 5 → xs[k * 5 + j]? = (cN ms[k] q d)[j]?) ∧ RowA D w q ms[k].zs
  | m :: ms, xs, h, 0, _ => by
    obtain ⟨q, d, xs', rfl, h2, h⟩ := fn_cons.1 h
    refine ⟨q, d, fun j hj => ?_, h2⟩
    rw [List.getElem?_append_left (by rw [cN_len]; omega)]
    simp
  | m :: ms, xs, h, k + 1, hk => by
    obtain ⟨q, d, xs', rfl, h2, h⟩ := fn_cons.1 h
    obtain ⟨q', d', h3, h4⟩ := fn_get h k (by simpa using hk)
    refine ⟨q', d', fun j hj => ?_, h4⟩
    rw [List.getElem?_append_right (by rw [cN_len]; omega), cN_len, show (k + 1) * 5 + j - 5 = k * 5 + j by omega]
    exact h3 j hj
theorem gl_app {o : Oper} {a : Act} {K : Act → World → Prop} {Q : Exit → Act → World → Prop} {w : World} (s x : Operand)
    (ho : o.op = .call { callee := .builtin .append, args := #[s, x], argTypes := #[43, 43] })
    (S : Nat → Prop) (lo : Nat) (v : Value) (zs tt : List Nn) (hs : a.eval s = v) (hl : GL lo 26 5 w v zs.length (PN S zs)) (p : Option Addr) (c : Nat) (hx : a.eval x = .slice p tt.length c) (hr : RowM (fun i => memO lo w v i ∧ S i) w p c tt) (hlo : lo ≤ w.heap.size) (h1 : zs.length ≤ 100000) (h2 : tt.length ≤ 100000)
    (h : ∀ q d w', GL lo 26 5 w' (.slice q (zs.length + tt.length) d) (zs.length + tt.length) (PN S (zs ++ tt)) → Step w w' (fun k => v.ownBlock = some k) (fun k => (Value.slice q (zs.length + tt.length) d).ownBlock = some k) → K (a.put o.dst (.slice q (zs.length + tt.length) d)) w') : o.wp Tryd.prog a w K Q := by
  obtain ⟨i0, hi0, hz0, hz1, hz2⟩ := info_parts info26
  obtain ⟨xs, hown, hall⟩ := hl.own
  have hxl : xs.length = zs.length * 5 := hown.1
  have key : ∀ (ad : Addr) (news : List Value), a.eval x = .slice (some ad) tt.length c → FN (fun i => memO lo w v i ∧ S i) w tt news → (∀ j u, news[j]? = some u → w.cell? (ad.add j) = some u) → 0 < tt.length → o.wp Tryd.prog a w K Q := by
    intro ad news hxa hf hc hm
    refine wp_append_lies w s x 43 ho lo 26 i0 _ 5 64 Tryd.underlying43 hi0 hz0 hz1 hz2 rfl (by decide) v zs.length xs hs hown ad tt.length c news hxa (fn_len hf) hc (fn_one hf) hm (by unfold maxLen; omega) (by omega) hlo _ rfl ?_
    intro g cap w' hown' hgrow hat hgs
    have hn : ∀ i, memO lo w v i → some i ≠ v.ownBlock := fun i hi e => hi.2.2 e.symm
    have keep : ∀ i, memO lo w v i → w'.heap[i]? = w.heap[i]? ∧ memO lo w' (.slice (some ⟨g, 0, none⟩) (zs.length + tt.length) cap) i := fun i hi => by
      refine ⟨hgrow.block i hi.2.1 (hn i hi), hi.1, Nat.lt_of_lt_of_le hi.2.1 hgrow.size, fun e' => ?_⟩
      obtain rfl : g = i := by simpa [Value.ownBlock] using e'
      rcases hat with q | q
      · exact hi.2.2 q
      · have := hi.2.1; omega
    have keepS : ∀ i, (memO lo w v i ∧ S i) → w'.heap[i]? = w.heap[i]? ∧ (memO lo w' (.slice (some ⟨g, 0, none⟩) (zs.length + tt.length) cap) i ∧ S i) := fun i hi => ⟨(keep i hi.1).1, (keep i hi.1).2, hi.2⟩
    refine h (some ⟨g, 0, none⟩) cap w' ⟨xs ++ news, hown', fun k hk => ?_⟩ ⟨hgrow.os, hgrow.tape, hgrow.output, hgrow.size, fun k hk hk2 => hgrow.block k hk (fun e => hk2 e.symm), fun k hk => ?_⟩
    · by_cases q : k < zs.length
      · obtain ⟨cs, a1, a2, s', q', d', a3, rfl, a5⟩ := hall k q
        refine ⟨_, a1, fun j hj => ?_, s', q', d', by rw [List.getElem?_append_left q]; exact a3, rfl, a5.keep keepS⟩
        rw [List.getElem?_append_left (by rw [hxl]; omega)]
        exact a2 j hj
      · obtain ⟨q', d', h3, h4⟩ := fn_get hf (k - zs.length) (by omega)
        refine ⟨_, rfl, fun j hj => ?_, _, q', d', by rw [List.getElem?_append_right (by omega), List.getElem?_eq_getElem (by omega)], rfl, h4.keep keepS⟩
        rw [List.getElem?_append_right (by rw [hxl]; omega), hxl, show k * 5 + j - zs.length * 5 = (k - zs.length) * 5 + j by omega]
        exact h3 j hj
    · obtain rfl : g = k := by simpa [Value.ownBlock] using hk
      rcases hat with q | q
      · exact .inl q
      · exact .inr (by omega)
  by_cases hm : 0 < tt.length
  · rcases hr with ⟨h0, hc0⟩ | ⟨b, o', rfl, hD, hat, _⟩
    · omega
    · obtain ⟨news, h3, h4⟩ := fn_of hat
      exact key _ news hx h3 (fun j u hu => by rw [show (⟨b, o', none⟩ : Addr).add j = ⟨b, o' + j, none⟩ from Go.WideShapes.add_plain _ _ _]; exact h4 j u hu) hm
  · have hz0' : tt = [] := List.eq_nil_of_length_eq_zero (by omega)
    subst hz0'
    obtain ⟨q, d, hv⟩ := own_shape hown
    have hc0 : p = none → c = 0 := by
      rcases hr with ⟨_, hc0⟩ | ⟨b, o', rfl, _⟩
      · exact hc0
      · intro h; cases h
    cases p with
    | none =>
      obtain rfl := hc0 rfl
      have hrun := run_append_owned_none (P := Tryd.prog) (w := w) lo 43 o.type 26 i0 5 Tryd.underlying43 hi0 _ zs.length xs hown
      unfold Oper.wp
      have hx' : a.eval x = .slice none 0 0 := hx
      have h9 := h q d w (by rw [List.length_nil, Nat.add_zero, List.append_nil, ← hv]; exact hl) (by rw [List.length_nil, Nat.add_zero, ← hv]; exact ⟨rfl, rfl, rfl, Nat.le_refl _, fun _ _ _ => rfl, fun k hk => .inl hk⟩)
      rw [List.length_nil, Nat.add_zero, ← hv] at h9
      simp [execOp, ho, resolve, invoke, builtin, hs, hx', hrun, Result.andThen]
      first | exact h9 | (rw [Oper.upon_value]; exact h9)
    | some ad =>
      rcases hown.2 with ⟨hv0, hn0⟩ | ⟨g, cap, cur, hv1, hbg, hg, hnc, hcm, hcs, htake⟩
      · refine wp_append_own w s x 43 ho lo 26 i0 _ 5 64 Tryd.underlying43 hi0 hz0 hz1 hz2 rfl (by decide) v zs.length xs hs hown ad 0 c [] hx rfl (fun j u hu => by simp at hu) (fun u hu => by cases hu) (by unfold maxLen; omega) (by omega) hlo ?_
        intro v' w' hown' hgrow hiff
        have hv' := hiff.2 ⟨hv0, rfl⟩
        subst hv'
        rw [hv0] at hv hown hgrow hl h
        have hzs : zs = [] := List.eq_nil_of_length_eq_zero hn0
        subst hzs
        exact h none 0 w' (GL.nil _ _ _ _ _) ⟨hgrow.os, hgrow.tape, hgrow.output, hgrow.size, fun k hk hk2 => hgrow.block k hk (fun e => by cases e), fun k hk => by cases hk⟩
      · subst hv1
        obtain ⟨w', hrun, hown', hgrow⟩ := run_append_fits (P := Tryd.prog) w lo 43 o.type 26 i0 5 Tryd.underlying43 hi0 hz1 g zs.length cap xs hown ad 0 c [] rfl (fun j u hu => by simp at hu) (fun u hu => by cases hu) (by omega)
        rw [Nat.add_zero, List.append_nil] at hown'
        have keep : ∀ i, memO lo w (.slice (some ⟨g, 0, none⟩) zs.length cap) i → w'.heap[i]? = w.heap[i]? ∧ memO lo w' (.slice (some ⟨g, 0, none⟩) zs.length cap) i := fun i hi =>
          ⟨hgrow.block i hi.2.1 (fun e => hi.2.2 (by simpa [Value.ownBlock] using e.symm)), hi.1, Nat.lt_of_lt_of_le hi.2.1 hgrow.size, hi.2.2⟩
        have h9 := h (some ⟨g, 0, none⟩) cap w' (by
          rw [List.length_nil, Nat.add_zero, List.append_nil]
          refine ⟨xs, hown', fun k hk => ?_⟩
          obtain ⟨cs, a1, a2, a3⟩ := hall k hk
          exact ⟨cs, a1, a2, PN.mono S zs _ _ _ _ _ _ keep a3⟩) ⟨hgrow.os, hgrow.tape, hgrow.output, hgrow.size, fun k hk hk2 => hgrow.block k hk (fun e => hk2 e.symm), fun k hk => .inl hk⟩
        rw [List.length_nil, Nat.add_zero] at h9
        have hrun' : (Builtin.append_ #[43, 43] o.type #[.slice (some ⟨g, 0, none⟩) zs.length cap, .slice (some ad) 0 c]).run Tryd.prog w = .ok (.slice (some ⟨g, 0, none⟩) zs.length cap) w' := hrun
        have hx' : a.eval x = .slice (some ad) 0 c := hx
        unfold Oper.wp execOp
        simp only [ho, resolve, invoke, builtin, Sem.run_bind, Sem.run_pure, Result.andThen_ok, List.map_toArray, List.map_cons, List.map_nil, hs, hx', hrun']
        exact h9
end Go.Proofs.YtclefcjojlkcnaaDoor.G
