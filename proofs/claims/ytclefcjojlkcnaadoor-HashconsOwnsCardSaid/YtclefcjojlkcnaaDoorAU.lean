/- What came in: a list of acts, a list of nodes. -/
import Derived.Test.YtclefcjojlkcnaaDoorJ
import Derived.Test.YtclefcjojlkcnaaDoorAS
import Derived.Deep.Slices
import Derived.ChangeSame
namespace Go.Proofs.YtclefcjojlkcnaaDoor.V
open Go.ChangeShapes Go.WideShapes Go.ChangeAt Go.RowKit
set_option linter.unusedVariables false
set_option linter.unusedSimpArgs false
theorem cells47 : Tryd.prog.cellsOf 47 = 7 := by kernel_rfl
section
variable {H : Type} {enc : TypeId × Value → H} {w : World}
/-- a slice, element for element -/
theorem row_of {X : Type} (x0 : X) (sz : Nat) (e t : TypeId) (ht : Tryd.prog.underlying t = some (.slice e)) (hsz : Tryd.prog.cellsOf e = sz) (h0 : 0 < sz) (G : X → Prop) (E : X → Nat → Nat → Prop) (fuel : Nat)
    (hel : ∀ n, n < fuel → ∀ cs y, DataW.trod enc Tryd.prog w 0 (fun _ => true) true n e cs = some y → ∃ x, G x ∧ ∀ b o, b < w.heap.size → (∀ j v, cs[j]? = some v → w.cell? ⟨b, o + j, none⟩ = some v) → E x b o) {c : Value} {y : DataW H × List MemPlace} (h : DataW.trod enc Tryd.prog w 0 (fun _ => true) true fuel t [c] = some y) :
    ∃ (p : Option Addr) (cap : Nat) (xs : List X), c = .slice p xs.length cap ∧ ((xs.length = 0 ∧ (p = none → cap = 0)) ∨ ∃ b o, p = some ⟨b, o, none⟩ ∧ b < w.heap.size ∧ (∀ k (h : k < xs.length), E xs[k] b (o + k * sz)) ∧ xs.length ≤ cap) ∧ xs.length ≤ maxLen ∧ ∀ x ∈ xs, G x := by
  rcases DataW.trod_slice ht h with ⟨h4, _⟩ | ⟨a, len, cap, elems, rest, n, hmn, h4, _, hb, hl, hm, hel', hi, _, _⟩
  · simp at h4
    exact ⟨none, 0, [], by rw [h4]; rfl, .inl ⟨rfl, fun _ => rfl⟩, Nat.zero_le _, fun x hx => by cases hx⟩
  · simp at h4
    subst h4
    by_cases hl0 : len = 0
    · subst hl0
      exact ⟨some a, cap, [], rfl, .inl ⟨rfl, fun h => by cases h⟩, Nat.zero_le _, fun x hx => by cases hx⟩
    · rw [hsz] at hi
      have key : ∀ i, i < len → ∃ x, G x ∧ (∃ v, w.cell? (a.add (i * sz)) = some v) ∧ ∀ b o, a.add (i * sz) = ⟨b, o, none⟩ → E x b o := by
        intro i hil
        have h5 := hi i hil
        rw [List.getElem?_eq_getElem (by omega)] at h5
        obtain ⟨cs', hcs', htr⟩ := Option.bind_eq_some_iff.1 h5
        obtain ⟨x, hG, hE⟩ := hel n (by omega) cs' _ htr
        obtain ⟨_, hlen, hat⟩ := World.cells?_some hcs'
        have hc0 := hat 0 h0
        rw [List.getElem?_eq_getElem (by omega)] at hc0
        have hc0' : w.cell? (a.add (i * sz)) = some cs'[0] := by simpa [Addr.add] using hc0
        refine ⟨x, hG, ⟨_, hc0'⟩, fun b o hbo => hE b o ?_ fun j v hj => ?_⟩
        · rw [hbo] at hc0'
          exact World.block_lt_of_cell? w _ hc0'
        · have hjs : j < sz := by have := (List.getElem?_eq_some_iff.1 hj).1; omega
          have := (hat j hjs).trans hj
          rw [hbo, Go.WideShapes.add_plain] at this
          exact this
      obtain ⟨_, _, ⟨v0, c0'⟩, _⟩ := key 0 (by omega)
      rw [show a.add (0 * sz) = a by simp [Addr.add]] at c0'
      obtain ⟨b, off, sp⟩ := a
      have hsp : sp = none := by
        cases sp with
        | none => rfl
        | some s => exfalso; unfold World.cell? at c0'; split at c0' <;> simp at c0'
      subst hsp
      have hbl : b < w.heap.size := World.block_lt_of_cell? w _ c0'
      have key2 : ∀ i, ∃ x : X, i < len → G x ∧ E x b (off + i * sz) := by
        intro i
        by_cases hil : i < len
        · obtain ⟨x, hG, _, hE⟩ := key i hil
          exact ⟨x, fun _ => ⟨hG, hE _ _ (Go.WideShapes.add_plain _ _ _)⟩⟩
        · exact ⟨x0, fun h => absurd h hil⟩
      refine ⟨some ⟨b, off, none⟩, cap, (List.range len).map fun i => (key2 i).choose, by simp, .inr ⟨b, off, rfl, hbl, fun k hk => ?_, by simp; omega⟩, by simp; omega, fun x hx => ?_⟩
      · simp at hk
        simpa using ((key2 k).choose_spec hk).2
      · obtain ⟨i, hi', rfl⟩ := List.mem_map.1 hx
        exact ((key2 i).choose_spec (List.mem_range.1 hi')).1
theorem nv_of {op wd : Int} {vl : Nat} {nm : ByteArray} {zs : List Int} (ho : In64 op) (hd : In64 wd) (hv : U64 vl) (hz : ∀ k, In64 (zs.getD k 0)) (hs : nm.size ≤ maxLen) : NvN ⟨op, wd, vl, nm, zs⟩ := ⟨ho, hd, by simp, by simpa [U64] using hv, hs, hz⟩
set_option maxRecDepth 10000 in
theorem act_cells (fuel : Nat) (cs : List Value) (y : DataW H × List MemPlace) (h : DataW.trod enc Tryd.prog w 0 (fun _ => true) true fuel 47 cs = some y) :
    ∃ (a : Ac) (q : Option Addr) (d : Nat), cs = [.int .i64 a.k, .int .i64 a.n.op, .int .i64 a.n.wd, .int .u64 a.n.vl, .string a.n.nm, .slice q a.n.zs.length d, .int .i64 a.i] ∧ Ra w q a.n.zs ∧ (q = none → d = 0) ∧ NvN a.n := by
  obtain ⟨xs, m, hfm, _, hlen, hxl, hf⟩ := DataW.trod_struct Tryd.underlying47 h
  rw [cells47] at hlen
  match cs, hlen with
  | [c0, c1, c2, c3, c4, c5, c6], _ =>
  match xs, hxl with
  | [y0, y1, y2], _ =>
    have v0 : DataW.trod enc Tryd.prog w 0 (fun _ => true) true m 3 (([c0, c1, c2, c3, c4, c5, c6].drop 0).take (Tryd.prog.cellsOf 3)) = some y0 := hf 0 _ rfl
    have v1 : DataW.trod enc Tryd.prog w 0 (fun _ => true) true m 26 (([c0, c1, c2, c3, c4, c5, c6].drop 1).take (Tryd.prog.cellsOf 26)) = some y1 := hf 1 _ rfl
    have v2 : DataW.trod enc Tryd.prog w 0 (fun _ => true) true m 3 (([c0, c1, c2, c3, c4, c5, c6].drop 6).take (Tryd.prog.cellsOf 3)) = some y2 := hf 2 _ rfl
    rw [cells3] at v0 v2
    rw [cells26] at v1
    obtain ⟨k, e0, _, w0⟩ := DataW.trod_int Tryd.underlying3 v0
    obtain ⟨i, e2, _, w2⟩ := DataW.trod_int Tryd.underlying3 v2
    obtain ⟨op, wd, vl, nm, q, d, zs, f1, f2, f3, f4, f5, f6, f7, f8⟩ := node_cells v1
    simp at e0 e2 f1
    obtain ⟨h1, h2, h3, h4, h5⟩ := f1
    exact ⟨⟨k, ⟨op, wd, vl, nm, zs⟩, i⟩, q, d, by rw [e0, e2, h1, h2, h3, h4, h5], f6, f7, nv_of f2 f3 f4 f5 f8⟩
set_option maxRecDepth 10000 in
theorem open_acts {base : Nat} {v : Value} {d : DataW H} {p : List MemPlace} {r : Reach} (hv : Value.okWide Tryd.prog w r base 39 v) (h : DataW.Trod enc Tryd.prog w 0 (fun _ => true) true 39 v d p) :
    ∃ (q : Option Addr) (c : Nat) (acs : List Ac), v = .slice q acs.length c ∧ RowC w q acs := by
  obtain ⟨a, len, cap, rfl⟩ := okWide_slice Tryd.underlying39 hv
  obtain ⟨fuel, hf⟩ := h
  have hf' : DataW.trod enc Tryd.prog w 0 (fun _ => true) true fuel 39 [.slice a len cap] = some (d, p) := hf
  obtain ⟨q, c, acs, h1, h2, h3, h4⟩ := row_of (⟨0, ⟨0, 0, 0, ⟨#[]⟩, []⟩, 0⟩ : Ac) 7 47 39 Tryd.underlying39 cells47 (by decide) (fun _ => True) (fun a b o => AtC a w b o) fuel (fun n hn cs y hy => by
    obtain ⟨a, q, d, rfl, a2, a3, a4⟩ := act_cells n cs y hy
    exact ⟨a, trivial, fun b o _ hc => ⟨q, d, ⟨hc 0 _ rfl, hc 1 _ rfl, hc 2 _ rfl, hc 3 _ rfl, hc 4 _ rfl, hc 5 _ rfl, hc 6 _ rfl⟩, a2, a3, a4⟩⟩) hf'
  refine ⟨q, c, acs, h1, fun h0 => ?_⟩
  rcases h2 with ⟨h2, _⟩ | ⟨b, o, e1, e2, e3, _⟩
  · omega
  · exact ⟨b, o, e1, e2, e3⟩
/-- a node that came in, at a place -/
def AtV (m : Nn) (w : World) (b o : Nat) : Prop := ∃ q d, (w.cell? ⟨b, o, none⟩ = some (.int .i64 m.op) ∧ w.cell? ⟨b, o + 1, none⟩ = some (.int .i64 m.wd) ∧ w.cell? ⟨b, o + 2, none⟩ = some (.int .u64 m.vl) ∧ w.cell? ⟨b, o + 3, none⟩ = some (.string m.nm) ∧ w.cell? ⟨b, o + 4, none⟩ = some (.slice q m.zs.length d)) ∧ Ra w q m.zs ∧ (q = none → d = 0) ∧ NvN m
def RowV (w : World) (p : Option Addr) (ns : List Nn) : Prop := 0 < ns.length → ∃ b o, p = some ⟨b, o, none⟩ ∧ b < w.heap.size ∧ ∀ k (h : k < ns.length), AtV ns[k] w b (o + k * 5)
set_option maxRecDepth 10000 in
theorem open_nodes {base : Nat} {v : Value} {d : DataW H} {p : List MemPlace} {r : Reach} (hv : Value.okWide Tryd.prog w r base 43 v) (h : DataW.Trod enc Tryd.prog w 0 (fun _ => true) true 43 v d p) :
    ∃ (q : Option Addr) (c : Nat) (ns : List Nn), v = .slice q ns.length c ∧ RowV w q ns := by
  obtain ⟨a, len, cap, rfl⟩ := okWide_slice Tryd.underlying43 hv
  obtain ⟨fuel, hf⟩ := h
  have hf' : DataW.trod enc Tryd.prog w 0 (fun _ => true) true fuel 43 [.slice a len cap] = some (d, p) := hf
  obtain ⟨q, c, ns, h1, h2, h3, h4⟩ := row_of (⟨0, 0, 0, ⟨#[]⟩, []⟩ : Nn) 5 26 43 Tryd.underlying43 cells26 (by decide) (fun _ => True) (fun m b o => AtV m w b o) fuel (fun n hn cs y hy => by
    obtain ⟨op, wd, vl, nm, q, d, zs, rfl, f2, f3, f4, f5, f6, f7, f8⟩ := node_cells hy
    exact ⟨⟨op, wd, vl, nm, zs⟩, trivial, fun b o _ hc => ⟨q, d, ⟨hc 0 _ rfl, hc 1 _ rfl, hc 2 _ rfl, hc 3 _ rfl, hc 4 _ rfl⟩, f6, f7, nv_of f2 f3 f4 f5 f8⟩⟩) hf'
  refine ⟨q, c, ns, h1, fun h0 => ?_⟩
  rcases h2 with ⟨h2, _⟩ | ⟨b, o, e1, e2, e3, _⟩
  · omega
  · exact ⟨b, o, e1, e2, e3⟩
end
end Go.Proofs.YtclefcjojlkcnaaDoor.V
