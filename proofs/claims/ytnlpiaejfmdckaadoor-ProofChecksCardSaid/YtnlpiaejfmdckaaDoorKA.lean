/- Lists of structs in the making. -/
import Derived.Test.YtnlpiaejfmdckaaDoorJ
namespace Go.Proofs.YtnlpiaejfmdckaaDoor
open Go.RowKit
set_option linter.unusedVariables false
set_option linter.unusedSimpArgs false
def memO (lo : Nat) (w : World) (v : Value) : Nat → Prop := fun i => lo ≤ i ∧ i < w.heap.size ∧ v.ownBlock ≠ some i
/-- what is said of the k-th element: its cells, and what lies behind them -/
abbrev EP := (Nat → Prop) → World → Nat → Array Value → Prop
def Mono (P : EP) : Prop := ∀ (D D' : Nat → Prop) (w w' : World) k cs, (∀ i, D i → w'.heap[i]? = w.heap[i]? ∧ D' i) → P D w k cs → P D' w' k cs
structure GL (lo e sz : Nat) (w : World) (v : Value) (n : Nat) (P : EP) : Prop where
  own : ∃ xs, w.ownsRow lo e sz v n xs ∧ ∀ k, k < n → ∃ cs : Array Value, cs.size = sz ∧ (∀ j, j < sz → xs[k * sz + j]? = cs[j]?) ∧ P (memO lo w v) w k cs
theorem GL.nil (lo e sz : Nat) (w : World) (P : EP) : GL lo e sz w (.slice none 0 0) 0 P := ⟨[], World.ownsRow_nil _ _ _ _, fun k h => by omega⟩
theorem GL.shape {lo e sz n : Nat} {w : World} {v : Value} {P : EP} (h : GL lo e sz w v n P) : ∃ p c, v = .slice p n c := by
  obtain ⟨xs, h1, _⟩ := h.own
  exact own_shape h1
theorem GL.lt {lo e sz n : Nat} {w : World} {v : Value} {P : EP} (h : GL lo e sz w v n P) : ∀ g, v.ownBlock = some g → lo ≤ g ∧ g < w.heap.size := fun g hg => by
  obtain ⟨xs, h1, _⟩ := h.own
  exact h1.lt g hg
theorem GL.bk {lo e sz n : Nat} {w w' : World} {v : Value} {P : EP} (h : GL lo e sz w v n P) (hP : Mono P) (hb : BK w w') : GL lo e sz w' v n P := by
  obtain ⟨xs, h1, h2⟩ := h.own
  refine ⟨xs, own_below h1 hb, fun k hk => ?_⟩
  obtain ⟨cs, h3, h4, h5⟩ := h2 k hk
  exact ⟨cs, h3, h4, hP _ _ _ _ _ _ (fun i hi => ⟨bk_block hb hi.2.1, hi.1, Nat.lt_of_lt_of_le hi.2.1 (bk_size hb), hi.2.2⟩) h5⟩
/-- an append of one element, at the operation -/
theorem gl_push {o : Oper} {a : Act} {K : Act → World → Prop} {Q : Exit → Act → World → Prop} {w : World} (s x : Operand) (T e sz by0 : Nat) (z : Value)
    (ho : o.op = .call { callee := .builtin .append, args := #[s, x], argTypes := #[T, T] }) (hT : Tryd.prog.underlying T = some (.slice e)) (hi : (Tryd.prog.info? e).map (fun i => (i.zero, i.size, i.bytes)) = some (some z, sz, by0)) (hzc : z.cells.size = sz) (hby : by0 ≤ 200) (hpos : 0 < sz)
    (lo : Nat) (v : Value) (n : Nat) (P P' : EP) (hP : Mono P) (hP' : Mono P') (hPP : ∀ D w k cs, k < n → P D w k cs → P' D w k cs) (hs : a.eval s = v) (hl : GL lo e sz w v n P) (els : Array Value) (hel : els.size = sz) (hone : ∀ u ∈ els.toList, u.oneCell' = true) (hx : a.eval x = .slice (some ⟨w.heap.size, 0, none⟩) 1 1) (hlo : lo ≤ w.heap.size) (hsm : n ≤ 200000)
    (hnew : P' (memO lo w v) w n els)
    (h : ∀ g cap w', GL lo e sz w' (.slice (some ⟨g, 0, none⟩) (n + 1) cap) (n + 1) P' → Step w w' (fun k => v.ownBlock = some k) (fun k => k = g) → K (a.put o.dst (.slice (some ⟨g, 0, none⟩) (n + 1) cap)) w') :
    o.wp Tryd.prog a (w.alloc (.cells els e)) K Q := by
  obtain ⟨i0, hi0, hz0, hz1, hz2⟩ := info_parts hi
  obtain ⟨xs, hown, hall⟩ := hl.own
  have h1' := own_below hown (bk_alloc (BK.refl w) (.cells els e))
  refine wp_append_lies (w.alloc (.cells els e)) s x T ho lo e i0 z sz by0 hT hi0 hz0 hz1 hz2 hzc hpos v n xs hs h1' ⟨w.heap.size, 0, none⟩ 1 1 els.toList hx (by simpa using hel) (news_at w els e) hone (by omega) (by unfold maxLen; omega) ?_ (by simp; omega) _ rfl ?_
  · have : (n + 1) * by0 ≤ 200001 * 200 := Nat.mul_le_mul (by omega) hby
    omega
  intro g cap w' h3 h4 h5 h6
  have hat : v.ownBlock = some g ∨ g = w.heap.size + 1 := by
    rcases h5 with q | q
    · exact .inl q
    · right; rw [q, sz1]
  have hsz := h4.size
  rw [sz1] at hsz
  have keep : ∀ i, memO lo w v i → w'.heap[i]? = w.heap[i]? ∧ memO lo w' (.slice (some ⟨g, 0, none⟩) (n + 1) cap) i := fun i hi => by
    refine ⟨?_, hi.1, by have := hi.2.1; omega, fun e' => ?_⟩
    · rw [h4.block i (by rw [sz1]; have := hi.2.1; omega) (fun e => hi.2.2 e.symm)]; exact heap_alloc_old w _ hi.2.1
    · obtain rfl : g = i := by simpa [Value.ownBlock] using e'
      rcases hat with q | q
      · exact hi.2.2 q
      · have := hi.2.1; omega
  have hxl : xs.length = n * sz := hown.1
  refine h g cap w' ⟨xs ++ els.toList, h3, fun k hk => ?_⟩ ⟨h4.os, h4.tape, h4.output, by omega, fun k hk hn => ?_, fun k hk => ?_⟩
  · by_cases q : k < n
    · obtain ⟨cs, a1, a2, a3⟩ := hall k q
      refine ⟨cs, a1, fun j hj => ?_, hP' _ _ _ _ _ _ keep (hPP _ _ _ _ q a3)⟩
      rw [List.getElem?_append_left (by rw [hxl]; have := Nat.mul_le_mul_right sz (show k + 1 ≤ n by omega); rw [Nat.add_mul, Nat.one_mul] at this; omega)]
      exact a2 j hj
    · obtain rfl : k = n := by omega
      refine ⟨els, hel, fun j hj => ?_, hP' _ _ _ _ _ _ keep hnew⟩
      rw [List.getElem?_append_right (by omega), hxl]
      simp
  · rw [h4.block k (by rw [sz1]; omega) (fun e => hn e.symm)]; exact heap_alloc_old w _ hk
  · subst hk
    rcases hat with q | q
    · exact .inl q
    · exact .inr (by omega)
/-- a list that is done -/
theorem GL.row {lo e sz n : Nat} {w : World} {p : Option Addr} {c : Nat} {P : EP} (h : GL lo e sz w (.slice p n c) n P) (hP : Mono P) : (n = 0 ∧ (p = none → c = 0)) ∨ ∃ g, p = some ⟨g, 0, none⟩ ∧ mem lo w g ∧ (∀ k, k < n → ∃ cs : Array Value, cs.size = sz ∧ Cs w g (k * sz) cs ∧ P (mem lo w) w k cs) ∧ n ≤ c := by
  obtain ⟨xs, h1, h2⟩ := h.own
  by_cases h0 : n = 0
  · refine .inl ⟨h0, fun hp => ?_⟩
    subst hp
    rcases h1.2 with ⟨hv, _⟩ | ⟨g, cap, cur, hv, _⟩
    · simp only [Value.slice.injEq] at hv; exact hv.2.2
    · cases hv
  · obtain ⟨g, cap, hv, hb, hlt⟩ := h1.form (by omega)
    simp only [Value.slice.injEq] at hv
    obtain ⟨rfl, -, rfl⟩ := hv
    have hcap : n ≤ c := by
      rcases h1.2 with ⟨hv, _⟩ | ⟨g', cap', cur, hv, _, _, h5, _⟩
      · cases hv
      · cases hv; exact h5
    refine .inr ⟨g, rfl, ⟨hb, hlt⟩, fun k hk => ?_, hcap⟩
    obtain ⟨cs, h3, h4, h5⟩ := h2 k hk
    refine ⟨cs, h3, fun j v hj => ?_, hP _ _ _ _ _ _ (fun i hi => ⟨rfl, hi.1, hi.2.1⟩) h5⟩
    have hjs : j < sz := by rw [← h3]; exact (Array.getElem?_eq_some_iff.1 hj).1
    rw [h1.cellAt (g := g) (cap := c) (k * sz + j) (by have := Nat.mul_le_mul_right sz (show k + 1 ≤ n by omega); rw [Nat.add_mul, Nat.one_mul] at this; omega), h4 j hjs]
    exact hj
/-! substitutions -/
def cU (u : U) (p : Option Addr) (c : Nat) : Array Value := #[.string u.nm, .int .i64 u.t.op, .int .i64 u.t.wd, .int .u64 u.t.vl, .string u.t.nm, .slice p u.t.ts.length c]
def PU (us : List U) : EP := fun D w k cs => ∃ (u : U) (p : Option Addr) (c : Nat), us[k]? = some u ∧ cs = cU u p c ∧ RowD D w p c u.t.ts
theorem PU.mono (us : List U) : Mono (PU us) := fun D D' w w' k cs hk ⟨u, p, c, h1, h2, h3⟩ => ⟨u, p, c, h1, h2, h3.keep hk⟩
theorem PU.snoc (us : List U) (u : U) : ∀ (D : Nat → Prop) (w : World) (k : Nat) (cs : Array Value), k < us.length → PU us D w k cs → PU (us ++ [u]) D w k cs := fun D w k cs hk ⟨u', p, c, h1, h2, h3⟩ => ⟨u', p, c, by rw [List.getElem?_append_left hk]; exact h1, h2, h3⟩
theorem gl_rowU {lo : Nat} {w : World} {p : Option Addr} {c : Nat} {us : List U} (h : GL lo 56 6 w (.slice p us.length c) us.length (PU us)) : RowU (mem lo w) w p c us := by
  rcases h.row (PU.mono us) with h | ⟨g, h1, h2, h3, h4⟩
  · exact .inl h
  · refine .inr ⟨g, 0, h1, h2, fun k hk => ?_, h4⟩
    obtain ⟨cs, a1, a2, u, p', c', a3, rfl, a5⟩ := h3 k hk
    obtain rfl : us[k] = u := by rw [List.getElem?_eq_getElem hk] at a3; exact Option.some.inj a3
    rw [Nat.zero_add]
    exact ⟨p', c', ⟨a2 0 _ rfl, a2 1 _ rfl, a2 2 _ rfl, a2 3 _ rfl, a2 4 _ rfl, a2 5 _ rfl⟩, a5⟩
/-! steps -/
def PS (ss : List S) : EP := fun D w k cs => ∃ (s : S) (q : Pt), ss[k]? = some s ∧ cs = cS s q ∧ Ps D w s q
theorem PS.mono (ss : List S) : Mono (PS ss) := fun D D' w w' k cs hk ⟨s, q, h1, h2, h3⟩ => ⟨s, q, h1, h2, h3.keep hk⟩
theorem PS.snoc (ss : List S) (s : S) : ∀ (D : Nat → Prop) (w : World) (k : Nat) (cs : Array Value), k < ss.length → PS ss D w k cs → PS (ss ++ [s]) D w k cs := fun D w k cs hk ⟨s', q, h1, h2, h3⟩ => ⟨s', q, by rw [List.getElem?_append_left hk]; exact h1, h2, h3⟩
theorem gl_rowS {lo : Nat} {w : World} {p : Option Addr} {c : Nat} {ss : List S} (h : GL lo 44 14 w (.slice p ss.length c) ss.length (PS ss)) : RowS (mem lo w) w p c ss := by
  rcases h.row (PS.mono ss) with h | ⟨g, h1, h2, h3, h4⟩
  · exact .inl h
  · refine .inr ⟨g, 0, h1, h2, fun k hk => ?_, h4⟩
    obtain ⟨cs, a1, a2, s, q, a3, rfl, a5⟩ := h3 k hk
    obtain rfl : ss[k] = s := by rw [List.getElem?_eq_getElem hk] at a3; exact Option.some.inj a3
    rw [Nat.zero_add]
    exact ⟨q, a2, a5⟩
theorem RowU.get {D : Nat → Prop} {w : World} {p : Option Addr} {c : Nat} {us : List U} (h : RowU D w p c us) {k : Nat} (hk : k < us.length) : ∃ b o q d, p = some ⟨b, o, none⟩ ∧ D b ∧ C6 w b (o + k * 6) (.string us[k].nm) (.int .i64 us[k].t.op) (.int .i64 us[k].t.wd) (.int .u64 us[k].t.vl) (.string us[k].t.nm) (.slice q us[k].t.ts.length d) ∧ RowD D w q d us[k].t.ts := by
  rcases h with h | ⟨b, o, h1, h2, h3, h4⟩
  · omega
  · obtain ⟨q, d, h5, h6⟩ := h3 k hk
    exact ⟨b, o, q, d, h1, h2, h5, h6⟩
end Go.Proofs.YtnlpiaejfmdckaaDoor
