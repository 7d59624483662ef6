/- The reference's table: its rows, and parts of them. -/
import Derived.Test.YtclefcjojlkcnaaDoorAG
import Derived.Test.YtclefcjojlkcnaaDoorT
import Derived.Test.YtclefcjojlkcnaaDoorAI
namespace Go.Proofs.YtclefcjojlkcnaaDoor.G
open Go.RowKit
set_option linter.unusedVariables false
set_option linter.unusedSimpArgs false
def dom (S : Nat → Prop) (w : World) : Nat → Prop := fun b => S b ∧ b < w.heap.size
theorem Step.dom {w w' : World} {F F' S : Nat → Prop} (h : Step w w' F F') (hS : ∀ k, S k → ¬ F k) : ∀ k, dom S w k → w'.heap[k]? = w.heap[k]? ∧ dom S w' k := fun k hk => ⟨h.block k hk.2 (hS k hk.1), hk.1, Nat.lt_of_lt_of_le hk.2 h.size⟩
theorem bk_dom {w w' : World} {S : Nat → Prop} (h : BK w w') : ∀ k, dom S w k → w'.heap[k]? = w.heap[k]? ∧ dom S w' k := fun k hk => ⟨bk_block h hk.2, hk.1, Nat.lt_of_lt_of_le hk.2 (bk_size h)⟩
/-- a slice of numbers: where it stands -/
def RowI (D : Nat → Prop) (w : World) (p : Option Addr) (c : Nat) (zs : List Int) : Prop := (zs.length = 0 ∧ (p = none → c = 0)) ∨ ∃ b o, p = some ⟨b, o, none⟩ ∧ D b ∧ (∀ k, k < zs.length → w.cell? ⟨b, o + k, none⟩ = some (.int .i64 (zs.getD k 0))) ∧ zs.length ≤ c
theorem AtD.keep {w w' : World} {D D' : Nat → Prop} {m : Nn} {b o : Nat} (h : AtD D m w b o) (hb : D b) (hk : ∀ k, D k → w'.heap[k]? = w.heap[k]? ∧ D' k) : AtD D' m w' b o := by
  obtain ⟨q, d, h1, h2⟩ := h
  exact ⟨q, d, fun j v hj => (cell_at (hk b hb).1).trans (h1 j v hj), h2.keep hk⟩
theorem RowM.keep {w w' : World} {D D' : Nat → Prop} {p : Option Addr} {c : Nat} {ms : List Nn} (h : RowM D w p c ms) (hk : ∀ k, D k → w'.heap[k]? = w.heap[k]? ∧ D' k) : RowM D' w' p c ms := by
  rcases h with h | ⟨b, o, h1, h2, h3, h4⟩
  · exact .inl h
  · exact .inr ⟨b, o, h1, (hk b h2).2, fun k h => (h3 k h).keep h2 hk, h4⟩
theorem RowI.keep {w w' : World} {D D' : Nat → Prop} {p : Option Addr} {c : Nat} {zs : List Int} (h : RowI D w p c zs) (hk : ∀ k, D k → w'.heap[k]? = w.heap[k]? ∧ D' k) : RowI D' w' p c zs := by
  rcases h with h | ⟨b, o, h1, h2, h3, h4⟩
  · exact .inl h
  · exact .inr ⟨b, o, h1, (hk b h2).2, fun k h => (cell_at (hk b h2).1).trans (h3 k h), h4⟩
theorem RowI.le {w : World} {D : Nat → Prop} {p : Option Addr} {c : Nat} {zs : List Int} (h : RowI D w p c zs) : zs.length ≤ c := by
  rcases h with ⟨h, _⟩ | ⟨b, o, h1, h2, h3, h4⟩
  · omega
  · exact h4
theorem RowI.nil {w : World} {D : Nat → Prop} {p : Option Addr} {c : Nat} {zs : List Int} (h : RowI D w p c zs) : p = none → c = 0 := by
  rcases h with ⟨_, h⟩ | ⟨b, o, h1, h2, h3, h4⟩
  · exact h
  · rintro rfl; cases h1
theorem RowM.le {w : World} {D : Nat → Prop} {p : Option Addr} {c : Nat} {ms : List Nn} (h : RowM D w p c ms) : ms.length ≤ c := by
  rcases h with ⟨h, _⟩ | ⟨b, o, h1, h2, h3, h4⟩
  · omega
  · exact h4
theorem RowM.nil {w : World} {D : Nat → Prop} {p : Option Addr} {c : Nat} {ms : List Nn} (h : RowM D w p c ms) : p = none → c = 0 := by
  rcases h with ⟨_, h⟩ | ⟨b, o, h1, h2, h3, h4⟩
  · exact h
  · rintro rfl; cases h1
theorem RowA.mono {D D' : Nat → Prop} {w : World} {q : Option Addr} {zs : List Int} (h : RowA D w q zs) (hd : ∀ k, D k → D' k) : RowA D' w q zs := fun h0 => by
  obtain ⟨b, o, h1, h2, h3⟩ := h h0
  exact ⟨b, o, h1, hd b h2, h3⟩
theorem AtD.atN {w : World} {S : Nat → Prop} {m : Nn} {b o : Nat} (h : AtD (dom S w) m w b o) : AtN m w b o := by
  obtain ⟨q, d, h1, h2⟩ := h
  refine ⟨q, d, ⟨?_, ?_, ?_, ?_, ?_⟩, fun h0 => ?_⟩
  · exact h1 0 _ rfl
  · exact h1 1 _ rfl
  · exact h1 2 _ rfl
  · exact h1 3 _ rfl
  · exact h1 4 _ rfl
  · obtain ⟨b', o', e1, e2, e3⟩ := h2 h0
    exact ⟨b', o', e1, e2.2, e3⟩
theorem RowM.rowN {w : World} {S : Nat → Prop} {p : Option Addr} {c : Nat} {ms : List Nn} (h : RowM (dom S w) w p c ms) : RowN w p ms := fun h0 => by
  rcases h with ⟨h, _⟩ | ⟨b, o, h1, h2, h3, h4⟩
  · omega
  · exact ⟨b, o, h1, h2.2, fun k hk => (h3 k hk).atN⟩
theorem RowI.ra {w : World} {S : Nat → Prop} {p : Option Addr} {c : Nat} {zs : List Int} (h : RowI (dom S w) w p c zs) : Ra w p zs := fun h0 => by
  rcases h with ⟨h, _⟩ | ⟨b, o, h1, h2, h3, h4⟩
  · omega
  · exact ⟨b, o, h1, h2.2, h3⟩
/-- where the part from i on begins -/
def qF (q : Option Addr) (cap i sz : Nat) : Option Addr := if cap = i then q else q.map (fun a => a.add (i * sz))
theorem RowM.take {w : World} {D : Nat → Prop} {p : Option Addr} {c : Nat} {ms : List Nn} (h : RowM D w p c ms) (i : Nat) : RowM D w p c (ms.take i) := by
  rcases h with ⟨h, h'⟩ | ⟨b, o, h1, h2, h3, h4⟩
  · exact .inl ⟨by rw [List.length_take]; omega, h'⟩
  · exact .inr ⟨b, o, h1, h2, fun k hk => by rw [List.getElem_take]; exact h3 k _, by rw [List.length_take]; omega⟩
theorem RowM.drop {w : World} {D : Nat → Prop} {p : Option Addr} {c : Nat} {ms : List Nn} (h : RowM D w p c ms) (i : Nat) (hi : i ≤ ms.length) : RowM D w (qF p c i 5) (c - i) (ms.drop i) := by
  have hle := h.le
  have hn := h.nil
  unfold qF
  rcases h with ⟨h, h'⟩ | ⟨b, o, h1, h2, h3, h4⟩
  · have : i = 0 := by omega
    subst this
    refine .inl ⟨by rw [List.length_drop]; omega, fun hp => ?_⟩
    split at hp
    · rw [hn hp]
    · cases p with
      | none => rw [hn rfl]
      | some a => cases hp
  · subst h1
    by_cases e : c = i
    · rw [if_pos e]
      exact .inl ⟨by rw [List.length_drop]; omega, fun hp => by cases hp⟩
    · rw [if_neg e]
      refine .inr ⟨b, o + i * 5, by show some (Addr.add _ _) = _; rw [Go.WideShapes.add_plain], h2, fun k hk => ?_, by rw [List.length_drop]; omega⟩
      rw [List.getElem_drop, show o + i * 5 + k * 5 = o + (i + k) * 5 by omega]
      exact h3 (i + k) _
theorem RowI.take {w : World} {D : Nat → Prop} {p : Option Addr} {c : Nat} {zs : List Int} (h : RowI D w p c zs) (i : Nat) : RowI D w p c (zs.take i) := by
  rcases h with ⟨h, h'⟩ | ⟨b, o, h1, h2, h3, h4⟩
  · exact .inl ⟨by rw [List.length_take]; omega, h'⟩
  · refine .inr ⟨b, o, h1, h2, fun k hk => ?_, by rw [List.length_take]; omega⟩
    rw [List.length_take] at hk
    rw [h3 k (by omega)]
    simp [List.getD_eq_getElem?_getD, List.getElem?_take, show k < i by omega]
theorem RowI.drop {w : World} {D : Nat → Prop} {p : Option Addr} {c : Nat} {zs : List Int} (h : RowI D w p c zs) (i : Nat) (hi : i ≤ zs.length) : RowI D w (qF p c i 1) (c - i) (zs.drop i) := by
  have hle := h.le
  have hn := h.nil
  unfold qF
  rcases h with ⟨h, h'⟩ | ⟨b, o, h1, h2, h3, h4⟩
  · have : i = 0 := by omega
    subst this
    refine .inl ⟨by rw [List.length_drop]; omega, fun hp => ?_⟩
    split at hp
    · rw [hn hp]
    · cases p with
      | none => rw [hn rfl]
      | some a => cases hp
  · subst h1
    by_cases e : c = i
    · rw [if_pos e]
      exact .inl ⟨by rw [List.length_drop]; omega, fun hp => by cases hp⟩
    · rw [if_neg e]
      refine .inr ⟨b, o + i, by show some (Addr.add _ _) = _; rw [Go.WideShapes.add_plain, Nat.mul_one], h2, fun k hk => ?_, by rw [List.length_drop]; omega⟩
      rw [List.length_drop] at hk
      rw [show o + i + k = o + (i + k) by omega, h3 (i + k) (by omega)]
      simp [List.getD_eq_getElem?_getD]
theorem slc_to (T : Nat) (hT : T = 43 ∨ T = 24) (p : Option Addr) (n c k : Nat) (h : k ≤ c) (hn : p = none → c = 0) (w : World) : (Instr.slice T (.slice p n c) none (some (.int .i64 (k : Int))) none).run Tryd.prog w = .ok (.slice p k c) w := by
  have g1 : ¬ (k : Int) < 0 := by omega
  have g4 : (k : Int) ≤ (c : Int) := by omega
  rcases hT with rfl | rfl <;> cases p with
  | none =>
    obtain rfl := hn rfl
    obtain rfl : k = 0 := by omega
    go_simp
  | some a =>
    clear hn
    go_simp
theorem slc_from43 (p : Option Addr) (n c k : Nat) (h : k ≤ n) (hc : n ≤ c) (hn : p = none → c = 0) (w : World) : (Instr.slice 43 (.slice p n c) (some (.int .i64 (k : Int))) none none).run Tryd.prog w = .ok (.slice (qF p c k 5) (n - k) (c - k)) w := by
  have g1 : ¬ (k : Int) < 0 := by omega
  have g4 : (k : Int) ≤ (n : Int) := by omega
  have g5 : (n : Int) ≤ (c : Int) := by omega
  unfold qF
  cases p with
  | none =>
    obtain rfl := hn rfl
    obtain rfl : n = 0 := by omega
    obtain rfl : k = 0 := by omega
    go_simp
  | some a =>
    clear hn
    by_cases e : c = k
    · go_simp
    · go_simp
theorem slc_from24 (p : Option Addr) (n c k : Nat) (h : k ≤ n) (hc : n ≤ c) (hn : p = none → c = 0) (w : World) : (Instr.slice 24 (.slice p n c) (some (.int .i64 (k : Int))) none none).run Tryd.prog w = .ok (.slice (qF p c k 1) (n - k) (c - k)) w := by
  have g1 : ¬ (k : Int) < 0 := by omega
  have g4 : (k : Int) ≤ (n : Int) := by omega
  have g5 : (n : Int) ≤ (c : Int) := by omega
  unfold qF
  cases p with
  | none =>
    obtain rfl := hn rfl
    obtain rfl : n = 0 := by omega
    obtain rfl : k = 0 := by omega
    go_simp
  | some a =>
    clear hn
    by_cases e : c = k
    · go_simp
    · go_simp
theorem li_app {o : Oper} {a : Act} {K : Act → World → Prop} {Q : Exit → Act → World → Prop} {w : World} (s x : Operand)
    (ho : o.op = .call { callee := .builtin .append, args := #[s, x], argTypes := #[24, 24] })
    (lo : Nat) (v : Value) (zs tt : List Int) (hs : a.eval s = v) (hown : w.ownsRow lo 3 1 v zs.length (ints zs)) (p : Option Addr) (c : Nat) (hx : a.eval x = .slice p tt.length c) (D : Nat → Prop) (hr : RowI D w p c tt) (hlo : lo ≤ w.heap.size) (h1 : zs.length ≤ 100000) (h2 : tt.length ≤ 100000)
    (h : ∀ q d w', w'.ownsRow lo 3 1 (.slice q (zs.length + tt.length) d) (zs.length + tt.length) (ints (zs ++ tt)) → Step w w' (fun k => v.ownBlock = some k) (fun k => (Value.slice q (zs.length + tt.length) d).ownBlock = some k) → K (a.put o.dst (.slice q (zs.length + tt.length) d)) w') : o.wp Tryd.prog a w K Q := by
  obtain ⟨i0, hi0, hz0, hz1, hz2⟩ := info_parts info3'
  by_cases hm : 0 < tt.length
  · rcases hr with ⟨h0, hc0⟩ | ⟨b, o', rfl, hD, hat, _⟩
    · omega
    · refine wp_append_lies w s x 24 ho lo 3 i0 _ 1 8 Tryd.underlying24 hi0 hz0 hz1 hz2 rfl (by decide) v zs.length (ints zs) hs hown ⟨b, o', none⟩ tt.length c (ints tt) hx (by simp [ints]) (ra_cells hat) (fun u hu => by unfold ints at hu; obtain ⟨z, _, rfl⟩ := List.mem_map.1 hu; rfl) hm (by unfold maxLen; omega) (by omega) hlo _ rfl ?_
      intro g cap w' hown' hgrow hat' hgs
      refine h (some ⟨g, 0, none⟩) cap w' (by rw [show ints (zs ++ tt) = ints zs ++ ints tt by simp [ints]]; exact hown') ⟨hgrow.os, hgrow.tape, hgrow.output, hgrow.size, fun k hk hk2 => hgrow.block k hk (fun e => hk2 e.symm), fun k hk => ?_⟩
      obtain rfl : g = k := by simpa [Value.ownBlock] using hk
      rcases hat' with q | q
      · exact .inl q
      · exact .inr (by omega)
  · have hz0' : tt = [] := List.eq_nil_of_length_eq_zero (by omega)
    subst hz0'
    obtain ⟨q, d, hv⟩ := own_shape hown
    have hc0 := hr.nil
    cases p with
    | none =>
      obtain rfl := hc0 rfl
      have hrun := run_append_owned_none (P := Tryd.prog) (w := w) lo 24 o.type 3 i0 1 Tryd.underlying24 hi0 _ zs.length (ints zs) hown
      unfold Oper.wp
      have hx' : a.eval x = .slice none 0 0 := hx
      have h9 := h q d w (by rw [List.length_nil, Nat.add_zero, List.append_nil, ← hv]; exact hown) (by rw [List.length_nil, Nat.add_zero, ← hv]; exact ⟨rfl, rfl, rfl, Nat.le_refl _, fun _ _ _ => rfl, fun k hk => .inl hk⟩)
      rw [List.length_nil, Nat.add_zero, ← hv] at h9
      simp [execOp, ho, resolve, invoke, builtin, hs, hx', hrun, Result.andThen]
      first | exact h9 | (rw [Oper.upon_value]; exact h9)
    | some ad =>
      rcases hown.2 with ⟨hv0, hn0⟩ | ⟨g, cap, cur, hv1, hbg, hg, hnc, hcm, hcs, htake⟩
      · refine wp_append_own w s x 24 ho lo 3 i0 _ 1 8 Tryd.underlying24 hi0 hz0 hz1 hz2 rfl (by decide) v zs.length (ints zs) hs hown ad 0 c [] hx rfl (fun j u hu => by simp at hu) (fun u hu => by cases hu) (by unfold maxLen; omega) (by omega) hlo ?_
        intro v' w' hown' hgrow hiff
        have hv' := hiff.2 ⟨hv0, rfl⟩
        subst hv'
        have hzs : zs = [] := List.eq_nil_of_length_eq_zero hn0
        subst hzs
        exact h none 0 w' (World.ownsRow_nil _ _ _ _) ⟨hgrow.os, hgrow.tape, hgrow.output, hgrow.size, fun k hk hk2 => hgrow.block k hk (fun e => hk2 e.symm), fun k hk => by cases hk⟩
      · subst hv1
        obtain ⟨w', hrun, hown', hgrow⟩ := run_append_fits (P := Tryd.prog) w lo 24 o.type 3 i0 1 Tryd.underlying24 hi0 hz1 g zs.length cap (ints zs) hown ad 0 c [] rfl (fun j u hu => by simp at hu) (fun u hu => by cases hu) (by omega)
        rw [Nat.add_zero, List.append_nil] at hown'
        have h9 := h (some ⟨g, 0, none⟩) cap w' (by rw [List.length_nil, Nat.add_zero, List.append_nil]; exact hown') ⟨hgrow.os, hgrow.tape, hgrow.output, hgrow.size, fun k hk hk2 => hgrow.block k hk (fun e => hk2 e.symm), fun k hk => .inl hk⟩
        rw [List.length_nil, Nat.add_zero] at h9
        have hrun' : (Builtin.append_ #[24, 24] o.type #[.slice (some ⟨g, 0, none⟩) zs.length cap, .slice (some ad) 0 c]).run Tryd.prog w = .ok (.slice (some ⟨g, 0, none⟩) zs.length cap) w' := hrun
        have hx' : a.eval x = .slice (some ad) 0 c := hx
        unfold Oper.wp execOp
        simp only [ho, resolve, invoke, builtin, Sem.run_bind, Sem.run_pure, Result.andThen_ok, List.map_toArray, List.map_cons, List.map_nil, hs, hx', hrun']
        exact h9
/-- the reference's table -/
def RT (S : Nat → Prop) (w : World) (mb : Nat) (ms : List Nn) (ids : List Int) : Prop := ∃ q cap q' cap', (w.cell? ⟨mb, 0, none⟩ = some (.slice q ms.length cap) ∧ w.cell? ⟨mb, 1, none⟩ = some (.slice q' ids.length cap')) ∧ (w.frozen? ⟨mb, 0, none⟩ = false ∧ w.frozen? ⟨mb, 1, none⟩ = false) ∧ (mb < w.heap.size ∧ ¬ S mb) ∧ RowM (dom S w) w q cap ms ∧ RowI (dom S w) w q' cap' ids
theorem RT.keep {S F F' : Nat → Prop} {w w' : World} {mb : Nat} {ms : List Nn} {ids : List Int} (h : RT S w mb ms ids) (s : Step w w' F F') (hS : ∀ k, S k → ¬ F k) (hm : ¬ F mb) : RT S w' mb ms ids := by
  obtain ⟨q, cap, q', cap', ⟨h1, h2⟩, ⟨h3, h4⟩, ⟨h5, h6⟩, h7, h8⟩ := h
  have hb := s.block mb h5 hm
  exact ⟨q, cap, q', cap', ⟨(cell_at hb).trans h1, (cell_at hb).trans h2⟩, ⟨(World.frozen?_of_block (a := ⟨mb, 0, none⟩) hb).trans h3, (World.frozen?_of_block (a := ⟨mb, 1, none⟩) hb).trans h4⟩, ⟨Nat.lt_of_lt_of_le h5 s.size, h6⟩, h7.keep (s.dom hS), h8.keep (s.dom hS)⟩
theorem RT.bk {S : Nat → Prop} {w w' : World} {mb : Nat} {ms : List Nn} {ids : List Int} (h : RT S w mb ms ids) (hb : BK w w') : RT S w' mb ms ids := h.keep (Step.bk (F := fun _ => False) hb) (fun _ _ h => h) (fun h => h)
end Go.Proofs.YtclefcjojlkcnaaDoor.G
