/- What came in: a list of steps. -/
import Derived.Test.YtnlpiaejfmdckaaDoorP
import Derived.Deep.Slices
import Derived.ChangeSame
namespace Go.Proofs.YtnlpiaejfmdckaaDoor
open Go.ChangeShapes Go.WideShapes Go.ChangeAt Go.RowKit
set_option linter.unusedVariables false
set_option linter.unusedSimpArgs false
theorem cells42 : Tryd.prog.cellsOf 42 = 5 := by kernel_rfl
theorem cells44 : Tryd.prog.cellsOf 44 = 14 := by kernel_rfl
theorem cells56 : Tryd.prog.cellsOf 56 = 6 := by kernel_rfl
theorem cells38 : Tryd.prog.cellsOf 38 = 1 := by kernel_rfl
theorem cells39 : Tryd.prog.cellsOf 39 = 1 := by kernel_rfl
theorem cells40 : Tryd.prog.cellsOf 40 = 1 := by kernel_rfl
theorem cells34 : Tryd.prog.cellsOf 34 = 1 := by kernel_rfl
theorem cells37 : Tryd.prog.cellsOf 37 = 1 := by kernel_rfl
mutual
/-- lists that fit a machine -/
def lbT : T → Prop
  | .mk _ _ _ nm ts => nm.size ≤ maxLen ∧ ts.length ≤ maxLen ∧ lbL ts
def lbL : List T → Prop
  | [] => True
  | t :: ts => lbT t ∧ lbL ts
end
theorem lbT_mk {op wd : Int} {vl : Nat} {nm : ByteArray} {ts : List T} : lbT (.mk op wd vl nm ts) ↔ nm.size ≤ maxLen ∧ ts.length ≤ maxLen ∧ lbL ts := by rw [lbT]
theorem lbL_iff : ∀ {ts : List T}, lbL ts ↔ ∀ t ∈ ts, lbT t
  | [] => by rw [lbL]; simp
  | t :: ts => by rw [lbL, lbL_iff]; simp
def lbU (u : U) : Prop := u.nm.size ≤ maxLen ∧ lbT u.t
def lbS (s : S) : Prop := (s.rf.length ≤ maxLen ∧ ∀ r ∈ s.rf, inR r 0) ∧ (s.sb.length ≤ maxLen ∧ ∀ u ∈ s.sb, lbU u) ∧ lbT s.a ∧ lbT s.b
section
variable {H : Type} {enc : TypeId × Value → H} {w : World}
/-- a slice, element for element -/
theorem row_of {X : Type} (x0 : X) (sz : Nat) (e t : TypeId) (ht : Tryd.prog.underlying t = some (.slice e)) (hsz : Tryd.prog.cellsOf e = sz) (h0 : 0 < sz) (G : X → Prop) (E : X → Nat → Nat → Prop) (fuel : Nat)
    (hel : ∀ n, n < fuel → ∀ cs y, DataW.trod enc Tryd.prog w 0 (fun _ => true) true n e cs = some y → ∃ x, G x ∧ ∀ b o, b < w.heap.size → (∀ j v, cs[j]? = some v → w.cell? ⟨b, o + j, none⟩ = some v) → E x b o) {c : Value} {y : DataW H × List MemPlace} (h : DataW.trod enc Tryd.prog w 0 (fun _ => true) true fuel t [c] = some y) :
    ∃ (p : Option Addr) (cap : Nat) (xs : List X), c = .slice p xs.length cap ∧ ((xs.length = 0 ∧ (p = none → cap = 0)) ∨ ∃ b o, p = some ⟨b, o, none⟩ ∧ mem 0 w b ∧ (∀ k (h : k < xs.length), E xs[k] b (o + k * sz)) ∧ xs.length ≤ cap) ∧ xs.length ≤ maxLen ∧ ∀ x ∈ xs, G x := by
  rcases DataW.trod_slice ht h with ⟨h4, _⟩ | ⟨a, len, cap, elems, rest, n, hmn, h4, _, hb, hl, hm, hel', hi, _, _⟩
  · simp at h4
    exact ⟨none, 0, [], by rw [h4]; rfl, .inl ⟨rfl, fun _ => rfl⟩, Nat.zero_le _, fun x hx => by cases hx⟩
  · simp at h4
    subst h4
    by_cases hl0 : len = 0
    · subst hl0
      exact ⟨some a, cap, [], rfl, .inl ⟨rfl, fun h => by cases h⟩, Nat.zero_le _, fun x hx => by cases hx⟩
    · rw [hsz] at hi
      have key : ∀ i, i < len → ∃ x, G x ∧ (∃ v, w.cell? (a.add (i * sz)) = some v) ∧ ∀ b o, a.add (i * sz) = ⟨b, o, none⟩ → E x b o := by
        intro i hil
        have h5 := hi i hil
        rw [List.getElem?_eq_getElem (by omega)] at h5
        obtain ⟨cs', hcs', htr⟩ := Option.bind_eq_some_iff.1 h5
        obtain ⟨x, hG, hE⟩ := hel n (by omega) cs' _ htr
        obtain ⟨_, hlen, hat⟩ := World.cells?_some hcs'
        have hc0 := hat 0 h0
        rw [List.getElem?_eq_getElem (by omega)] at hc0
        have hc0' : w.cell? (a.add (i * sz)) = some cs'[0] := by simpa [Addr.add] using hc0
        refine ⟨x, hG, ⟨_, hc0'⟩, fun b o hbo => hE b o ?_ fun j v hj => ?_⟩
        · rw [hbo] at hc0'
          exact World.block_lt_of_cell? w _ hc0'
        · have hjs : j < sz := by have := (List.getElem?_eq_some_iff.1 hj).1; omega
          have := (hat j hjs).trans hj
          rw [hbo, Go.WideShapes.add_plain] at this
          exact this
      obtain ⟨_, _, ⟨v0, c0'⟩, _⟩ := key 0 (by omega)
      rw [show a.add (0 * sz) = a by simp [Addr.add]] at c0'
      obtain ⟨b, off, sp⟩ := a
      have hsp : sp = none := by
        cases sp with
        | none => rfl
        | some s => exfalso; unfold World.cell? at c0'; split at c0' <;> simp at c0'
      subst hsp
      have hbl : b < w.heap.size := World.block_lt_of_cell? w _ c0'
      have key2 : ∀ i, ∃ x : X, i < len → G x ∧ E x b (off + i * sz) := by
        intro i
        by_cases hil : i < len
        · obtain ⟨x, hG, _, hE⟩ := key i hil
          exact ⟨x, fun _ => ⟨hG, hE _ _ (Go.WideShapes.add_plain _ _ _)⟩⟩
        · exact ⟨x0, fun h => absurd h hil⟩
      refine ⟨some ⟨b, off, none⟩, cap, (List.range len).map fun i => (key2 i).choose, by simp, .inr ⟨b, off, rfl, ⟨Nat.zero_le _, hbl⟩, fun k hk => ?_, by simp; omega⟩, by simp; omega, fun x hx => ?_⟩
      · simp at hk
        simpa using ((key2 k).choose_spec hk).2
      · obtain ⟨i, hi', rfl⟩ := List.mem_map.1 hx
        exact ((key2 i).choose_spec (List.mem_range.1 hi')).1
theorem ints_cell {fuel : Nat} {c : Value} {y : DataW H × List MemPlace} (h : DataW.trod enc Tryd.prog w 0 (fun _ => true) true fuel 34 [c] = some y) :
    ∃ (p : Option Addr) (cap : Nat) (zs : List Int), c = .slice p zs.length cap ∧ RowI (mem 0 w) w p cap zs ∧ zs.length ≤ maxLen ∧ ∀ z ∈ zs, inR z 0 := by
  obtain ⟨p, cap, xs, h1, h2, h3, h4⟩ := row_of (0 : Int) 1 3 34 Tryd.underlying34 cells3' (by decide) (fun z => inR z 0) (fun z b o => w.cell? ⟨b, o, none⟩ = some (.int .i64 z)) fuel (fun n _ cs y hy => by
    obtain ⟨z, rfl, _, hw⟩ := DataW.trod_int Tryd.underlying3 hy
    refine ⟨z, ?_, fun b o _ hc => hc 0 _ rfl⟩
    simp [Lit.wf, IntKind.min, IntKind.max, IntKind.signed, IntKind.bits] at hw
    exact ⟨by omega, by omega⟩) h
  simp only [Nat.mul_one] at h2
  exact ⟨p, cap, xs, h1, h2, h3, h4⟩
set_option maxRecDepth 10000 in
theorem term_cells : ∀ (fuel : Nat) (cs : List Value) (y : DataW H × List MemPlace), DataW.trod enc Tryd.prog w 0 (fun _ => true) true fuel 42 cs = some y →
    ∃ (t : T) (p : Option Addr) (c : Nat), lbT t ∧ cs = [.int .i64 t.op, .int .i64 t.wd, .int .u64 t.vl, .string t.nm, .slice p t.ts.length c] ∧ RowD (mem 0 w) w p c t.ts := by
  intro fuel
  induction fuel using Nat.strongRecOn with
  | _ fuel ih =>
  intro cs x h
  obtain ⟨xs, m, hfm, _, hlen, hxl, hf⟩ := DataW.trod_struct Tryd.underlying42 h
  rw [cells42] at hlen
  match cs, hlen with
  | [c0, c1, c2, c3, c4], _ =>
  match xs, hxl with
  | [y0, y1, y2, y3, y4], _ =>
    have v0 : DataW.trod enc Tryd.prog w 0 (fun _ => true) true m 38 (([c0, c1, c2, c3, c4].drop 0).take (Tryd.prog.cellsOf 38)) = some y0 := hf 0 _ rfl
    have v1 : DataW.trod enc Tryd.prog w 0 (fun _ => true) true m 3 (([c0, c1, c2, c3, c4].drop 1).take (Tryd.prog.cellsOf 3)) = some y1 := hf 1 _ rfl
    have v2 : DataW.trod enc Tryd.prog w 0 (fun _ => true) true m 39 (([c0, c1, c2, c3, c4].drop 2).take (Tryd.prog.cellsOf 39)) = some y2 := hf 2 _ rfl
    have v3 : DataW.trod enc Tryd.prog w 0 (fun _ => true) true m 9 (([c0, c1, c2, c3, c4].drop 3).take (Tryd.prog.cellsOf 9)) = some y3 := hf 3 _ rfl
    have v4 : DataW.trod enc Tryd.prog w 0 (fun _ => true) true m 40 (([c0, c1, c2, c3, c4].drop 4).take (Tryd.prog.cellsOf 40)) = some y4 := hf 4 _ rfl
    rw [cells38] at v0
    rw [cells3'] at v1
    rw [cells39] at v2
    rw [cells9'] at v3
    rw [cells40] at v4
    obtain ⟨op, e0, _, w0⟩ := DataW.trod_int Tryd.underlying38 v0
    obtain ⟨wd, e1, _, w1⟩ := DataW.trod_int Tryd.underlying3 v1
    obtain ⟨vl, e2, _, w2⟩ := DataW.trod_int Tryd.underlying39 v2
    obtain ⟨nm, e3, _, w3⟩ := DataW.trod_string Tryd.underlying9 v3
    simp at e0 e1 e2 e3
    obtain ⟨u, rfl, hu⟩ : ∃ u : Nat, vl = u ∧ u < 18446744073709551616 := by
      simp [Lit.wf, IntKind.min, IntKind.max, IntKind.signed, IntKind.bits] at w2
      exact ⟨vl.toNat, by omega, by omega⟩
    have v4' : DataW.trod enc Tryd.prog w 0 (fun _ => true) true m 40 [c4] = some y4 := v4
    obtain ⟨p, cap, ts, h1, h2, h3, h4⟩ := row_of (T.mk 0 0 0 ⟨#[]⟩ []) 5 42 40 Tryd.underlying40 cells42 (by decide) lbT (fun t b o => AtD (mem 0 w) t w b o) m (fun n hn cs y hy => by
      obtain ⟨t, q, d, a1, rfl, a3⟩ := ih n (by omega) cs y hy
      refine ⟨t, a1, fun b o _ hc => ?_⟩
      cases t with
      | mk op' wd' vl' nm' us =>
        rw [atD_mk]
        exact ⟨q, d, ⟨hc 0 _ rfl, hc 1 _ rfl, hc 2 _ rfl, hc 3 _ rfl, hc 4 _ rfl⟩, a3⟩) v4'
    refine ⟨.mk op wd u nm ts, p, cap, lbT_mk.2 ⟨w3, h3, lbL_iff.2 h4⟩, by rw [e0, e1, e2, e3, h1]; rfl, ?_⟩
    rcases h2 with h2 | ⟨b, o, a1, a2, a3, a4⟩
    · exact .inl h2
    · exact .inr ⟨b, o, a1, a2, atDL_of a3, a4⟩
set_option maxRecDepth 10000 in
theorem sub_cells (fuel : Nat) (cs : List Value) (y : DataW H × List MemPlace) (h : DataW.trod enc Tryd.prog w 0 (fun _ => true) true fuel 56 cs = some y) :
    ∃ (u : U) (p : Option Addr) (c : Nat), lbU u ∧ cs = [.string u.nm, .int .i64 u.t.op, .int .i64 u.t.wd, .int .u64 u.t.vl, .string u.t.nm, .slice p u.t.ts.length c] ∧ RowD (mem 0 w) w p c u.t.ts := by
  obtain ⟨xs, m, hfm, _, hlen, hxl, hf⟩ := DataW.trod_struct Tryd.underlying56 h
  rw [cells56] at hlen
  match cs, hlen with
  | [c0, c1, c2, c3, c4, c5], _ =>
  match xs, hxl with
  | [y0, y1], _ =>
    have v0 : DataW.trod enc Tryd.prog w 0 (fun _ => true) true m 9 (([c0, c1, c2, c3, c4, c5].drop 0).take (Tryd.prog.cellsOf 9)) = some y0 := hf 0 _ rfl
    have v1 : DataW.trod enc Tryd.prog w 0 (fun _ => true) true m 42 (([c0, c1, c2, c3, c4, c5].drop 1).take (Tryd.prog.cellsOf 42)) = some y1 := hf 1 _ rfl
    rw [cells9'] at v0
    rw [cells42] at v1
    obtain ⟨nm, e0, _, w0⟩ := DataW.trod_string Tryd.underlying9 v0
    obtain ⟨t, p, c, a1, a2, a3⟩ := term_cells m _ _ v1
    simp at e0 a2
    obtain ⟨f1, f2, f3, f4, f5⟩ := a2
    exact ⟨⟨nm, t⟩, p, c, ⟨w0, a1⟩, by rw [e0, f1, f2, f3, f4, f5], a3⟩
set_option maxRecDepth 10000 in
theorem step_cells (fuel : Nat) (cs : List Value) (y : DataW H × List MemPlace) (h : DataW.trod enc Tryd.prog w 0 (fun _ => true) true fuel 44 cs = some y) :
    ∃ (s : S) (q : Pt), lbS s ∧ cs = (cS s q).toList ∧ Ps (mem 0 w) w s q := by
  obtain ⟨xs, m, hfm, _, hlen, hxl, hf⟩ := DataW.trod_struct Tryd.underlying44 h
  rw [cells44] at hlen
  match cs, hlen with
  | [c0, c1, c2, c3, c4, c5, c6, c7, c8, c9, c10, c11, c12, c13], _ =>
  match xs, hxl with
  | [y0, y1, y2, y3, y4, y5], _ =>
    have v0 : DataW.trod enc Tryd.prog w 0 (fun _ => true) true m 3 (([c0, c1, c2, c3, c4, c5, c6, c7, c8, c9, c10, c11, c12, c13].drop 0).take (Tryd.prog.cellsOf 3)) = some y0 := hf 0 _ rfl
    have v1 : DataW.trod enc Tryd.prog w 0 (fun _ => true) true m 34 (([c0, c1, c2, c3, c4, c5, c6, c7, c8, c9, c10, c11, c12, c13].drop 1).take (Tryd.prog.cellsOf 34)) = some y1 := hf 1 _ rfl
    have v2 : DataW.trod enc Tryd.prog w 0 (fun _ => true) true m 3 (([c0, c1, c2, c3, c4, c5, c6, c7, c8, c9, c10, c11, c12, c13].drop 2).take (Tryd.prog.cellsOf 3)) = some y2 := hf 2 _ rfl
    have v3 : DataW.trod enc Tryd.prog w 0 (fun _ => true) true m 37 (([c0, c1, c2, c3, c4, c5, c6, c7, c8, c9, c10, c11, c12, c13].drop 3).take (Tryd.prog.cellsOf 37)) = some y3 := hf 3 _ rfl
    have v4 : DataW.trod enc Tryd.prog w 0 (fun _ => true) true m 42 (([c0, c1, c2, c3, c4, c5, c6, c7, c8, c9, c10, c11, c12, c13].drop 4).take (Tryd.prog.cellsOf 42)) = some y4 := hf 4 _ rfl
    have v5 : DataW.trod enc Tryd.prog w 0 (fun _ => true) true m 42 (([c0, c1, c2, c3, c4, c5, c6, c7, c8, c9, c10, c11, c12, c13].drop 9).take (Tryd.prog.cellsOf 42)) = some y5 := hf 5 _ rfl
    rw [cells3'] at v0 v2
    rw [cells34] at v1
    rw [cells37] at v3
    rw [cells42] at v4 v5
    obtain ⟨k, e0, _, w0⟩ := DataW.trod_int Tryd.underlying3 v0
    obtain ⟨ru, e2, _, w2⟩ := DataW.trod_int Tryd.underlying3 v2
    have v1' : DataW.trod enc Tryd.prog w 0 (fun _ => true) true m 34 [c1] = some y1 := v1
    have v3' : DataW.trod enc Tryd.prog w 0 (fun _ => true) true m 37 [c3] = some y3 := v3
    obtain ⟨p1, d1, rf, a1, a2, a3, a4⟩ := ints_cell v1'
    obtain ⟨p2, d2, us, b1, b2, b3, b4⟩ := row_of (⟨⟨#[]⟩, .mk 0 0 0 ⟨#[]⟩ []⟩ : U) 6 56 37 Tryd.underlying37 cells56 (by decide) lbU (fun u b o => AtU (mem 0 w) u w b o) m (fun n hn cs y hy => by
      obtain ⟨u, q, d, a1, rfl, a3⟩ := sub_cells n cs y hy
      refine ⟨u, a1, fun b o _ hc => ⟨q, d, ⟨hc 0 _ rfl, ?_⟩, a3⟩⟩
      have hc' : ∀ j v, ([.int .i64 u.t.op, .int .i64 u.t.wd, .int .u64 u.t.vl, .string u.t.nm, .slice q u.t.ts.length d] : List Value)[j]? = some v → w.cell? ⟨b, o + 1 + j, none⟩ = some v := fun j v hj => by
        have := hc (j + 1) v hj
        rwa [show o + (j + 1) = o + 1 + j by omega] at this
      exact ⟨hc' 0 _ rfl, hc' 1 _ rfl, hc' 2 _ rfl, hc' 3 _ rfl, hc' 4 _ rfl⟩) v3'
    obtain ⟨ta, p3, d3, f1, f2, f3⟩ := term_cells m _ _ v4
    obtain ⟨tb, p4, d4, g1, g2, g3⟩ := term_cells m _ _ v5
    simp at e0 e2 f2 g2
    obtain ⟨h1, h2, h3, h4, h5⟩ := f2
    obtain ⟨i1, i2, i3, i4, i5⟩ := g2
    exact ⟨⟨k, rf, ru, us, ta, tb⟩, ⟨p1, d1, p2, d2, p3, d3, p4, d4⟩, ⟨⟨a3, a4⟩, ⟨b3, b4⟩, f1, g1⟩, by rw [e0, a1, e2, b1, h1, h2, h3, h4, h5, i1, i2, i3, i4, i5]; rfl, ⟨a2, b2, f3, g3⟩⟩
theorem open_steps {base : Nat} {v : Value} {d : DataW H} {p : List MemPlace} {r : Reach} (hv : Value.okWide Tryd.prog w r base 27 v) (h : DataW.Trod enc Tryd.prog w 0 (fun _ => true) true 27 v d p) :
    ∃ (q : Option Addr) (c : Nat) (ss : List S), v = .slice q ss.length c ∧ RowS (mem 0 w) w q c ss ∧ ss.length ≤ maxLen ∧ ∀ s ∈ ss, lbS s := by
  obtain ⟨a, len, cap, rfl⟩ := okWide_slice Tryd.underlying27 hv
  obtain ⟨fuel, hf⟩ := h
  have hf' : DataW.trod enc Tryd.prog w 0 (fun _ => true) true fuel 27 [.slice a len cap] = some (d, p) := hf
  obtain ⟨q, c, ss, h1, h2, h3, h4⟩ := row_of (⟨0, [], 0, [], .mk 0 0 0 ⟨#[]⟩ [], .mk 0 0 0 ⟨#[]⟩ []⟩ : S) 14 44 27 Tryd.underlying27 cells44 (by decide) lbS (fun s b o => AtS (mem 0 w) s w b o) fuel (fun n hn cs y hy => by
    obtain ⟨s, q, a1, rfl, a3⟩ := step_cells n cs y hy
    exact ⟨s, a1, fun b o _ hc => ⟨q, fun j v hj => hc j v (by simpa using hj), a3⟩⟩) hf'
  exact ⟨q, c, ss, h1, h2, h3, h4⟩
end
end Go.Proofs.YtnlpiaejfmdckaaDoor
