/- The table's nodes, in order. -/
import Derived.Test.YtclefcjojlkcnaaDoorAO
import Derived.Test.YtclefcjojlkcnaaDoorAK
import Derived.Maps.RangeWalk
namespace Go.Proofs.YtclefcjojlkcnaaDoor.V
open Go.RowKit Go.Maps
open Go.Proofs.YtclefcjojlkcnaaDoor.G (RowA Step mem dom cN Cs EP Mono memO GL gl_push RowM AtD one_cN info26 cell_at bk_frozen)
set_option linter.unusedVariables false
set_option linter.unusedSimpArgs false
def fz (w : World) (i : Nat) : Prop := ∀ j, w.frozen? ⟨i, j, none⟩ = false
/-- blocks that are new since lo and may be written -/
def fresh (lo : Nat) (w : World) : Nat → Prop := fun b => lo ≤ b ∧ b < w.heap.size ∧ fz w b
theorem fz_at {w w' : World} {i : Nat} (h : w'.heap[i]? = w.heap[i]?) (hf : fz w i) : fz w' i := fun j => (World.frozen?_of_block (a := ⟨i, j, none⟩) h).trans (hf j)
def PW (lo : Nat) (ms : List Nn) : EP := fun D w k cs => ∃ (m : Nn) (q : Option Addr) (d : Nat), ms[k]? = some m ∧ cs = cN m q d ∧ RowA (fun i => D i ∧ lo ≤ i ∧ fz w i) w q m.zs
theorem PW.mono (lo : Nat) (ms : List Nn) : Mono (PW lo ms) := fun D D' w w' k cs hk ⟨m, q, d, h1, h2, h3⟩ => ⟨m, q, d, h1, h2, h3.keep (fun i hi => ⟨(hk i hi.1).1, (hk i hi.1).2, hi.2.1, fz_at (hk i hi.1).1 hi.2.2⟩)⟩
theorem PW.snoc (lo : Nat) (ms : List Nn) (m : Nn) : ∀ (D : Nat → Prop) (w : World) (k : Nat) (cs : Array Value), k < ms.length → PW lo ms D w k cs → PW lo (ms ++ [m]) D w k cs := fun D w k cs hk ⟨m', q, d, h1, h2, h3⟩ => ⟨m', q, d, by rw [List.getElem?_append_left hk]; exact h1, h2, h3⟩
/-- what has been done when 'left' is still to come -/
structure Done (D : DataW Value) (left : Lit → Bool) (done ms : List Nn) : Prop where
  nd : done.Nodup
  sub : ∀ m ∈ done, m ∈ ms
  all : ∀ m ∈ ms, left (kN m) = true ∨ m ∈ done
  off : ∀ m ∈ done, left (kN m) = false
  has : ∀ kl, left kl = true → Maps.has D kl = true
theorem Done.start {S : Nat → Prop} {w : World} {D : DataW Value} {ms : List Nn} {ids : List Int} (h : MV S w D ms ids) : Done D (Maps.has D) [] ms :=
  ⟨List.nodup_nil, (fun m h => by cases h), (fun m hm => .inl (by rw [h.in (h.ok m hm)]; exact (isA_mem h.inc).2 hm)), (fun m h => by cases h), fun _ h => h⟩
theorem Done.next {S : Nat → Prop} {w : World} {D : DataW Value} {ms : List Nn} {ids : List Int} (h : MV S w D ms ids) {left : Lit → Bool} {done : List Nn} (hd : Done D left done ms) {m : Nn} (hm : m ∈ ms) (hl : left (kN m) = true) : Done D (fun z => left z && !z.sameKey (kN m)) (done ++ [m]) ms := by
  have hmd : m ∉ done := fun e => by rw [hd.off m e] at hl; cases hl
  refine ⟨List.nodup_append.2 ⟨hd.nd, by simp, fun a ha b hb => by rw [List.mem_singleton.1 hb]; exact fun e => hmd (e ▸ ha)⟩, fun a ha => ?_, fun a ha => ?_, fun a ha => ?_, fun kl hk => ?_⟩
  · rcases List.mem_append.1 ha with q | q
    · exact hd.sub a q
    · rw [List.mem_singleton.1 q]; exact hm
  · by_cases e : a = m
    · exact .inr (by simp [e])
    · rcases hd.all a ha with q | q
      · refine .inl ?_
        rw [q, sameKey_ne (fun e' => e (kN_inj (h.ok a ha) (h.ok m hm) e'))]; rfl
      · exact .inr (by simp [q])
  · rcases List.mem_append.1 ha with q | q
    · rw [hd.off a q]; rfl
    · rw [List.mem_singleton.1 q, WideAt.sameKey_self (h.ok m hm).lit]; simp
  · exact hd.has kl (by simp at hk; exact hk.1)
theorem Done.end {D : DataW Value} {left : Lit → Bool} {done ms : List Nn} (hd : Done D left done ms) (hl : ∀ kl, left kl = false) : ∀ z, z ∈ done ↔ z ∈ ms := fun z =>
  ⟨hd.sub z, fun hz => by
    rcases hd.all z hz with q | q
    · rw [hl] at q; cases q
    · exact q⟩
structure Ent where
  o : Int
  d : Int
  v : Int
  s : ByteArray
  p : Option Addr
  n : Nat
  c : Nat
  i : Int
def mkE (c : Ent) : Value := .agg #[.int .i64 c.o, .int .i64 c.d, .int .u64 c.v, .string c.s, .slice c.p c.n c.c, .int .i64 c.i]
theorem invE (v : Value) (y : DataW Value × List MemPlace) (h : entN v = some y) : ∃ c : Ent, v = mkE c := by
  obtain ⟨⟨id, op, wd, vl, s, p, n, c, rfl⟩, _⟩ := entN_inv h
  exact ⟨⟨op, wd, vl, s, p, n, c, id⟩, rfl⟩
theorem inv9 (key : Value) (kl : Lit) (h : keyOf Tryd.prog 9 key = some kl) : ∃ s, key = .string s := by
  cases key <;> simp [keyOf, Tryd.underlying9, mapKey] at h
  exact ⟨_, rfl⟩
/-- which entry has come -/
theorem MV.entry {S : Nat → Prop} {w : World} {D : DataW Value} {ms : List Nn} {ids : List Int} (h : MV S w D ms ids) {kl : Lit} (hk : Maps.has D kl = true) {c : Ent} {y : DataW Value × List MemPlace} (hy : entN (mkE c) = some y) (hat : ∀ zd, D.atKey kl zd = y.1) : ∃ m q d id, m ∈ ms ∧ kl = kN m ∧ mkE c = eV m q d id ∧ RowA (dom S w) w q m.zs := by
  obtain ⟨m, hm, rfl⟩ := h.has _ hk
  obtain ⟨id, hp⟩ := zip_mem h.len hm
  obtain ⟨q, d, h1, h2⟩ := h.ent _ hp
  obtain ⟨_, rfl⟩ := entN_inv hy
  have := (h1 (.held zent)).symm.trans (hat _)
  exact ⟨m, q, d, id, hm, rfl, (DataW.held.inj this).symm, h2⟩
theorem list_of {α β : Type} (xs : List α) (P : Nat → α → β → Prop) (h : ∀ k (hk : k < xs.length), ∃ b, P k xs[k] b) : ∃ L : List (α × β), L.map (·.1) = xs ∧ ∀ k (hk : k < L.length), P k L[k].1 L[k].2 := by
  have hc : ∀ i : Fin xs.length, ∃ b, P i xs[i] b := fun i => h i i.2
  refine ⟨List.ofFn (fun i : Fin xs.length => (xs[i], Classical.choose (hc i))), ?_, fun k hk => ?_⟩
  · rw [List.map_ofFn]
    refine List.ext_getElem (by simp) fun i h1 h2 => by simp
  · have hk' : k < xs.length := by simpa using hk
    simp only [List.getElem_ofFn]
    exact Classical.choose_spec (hc ⟨k, hk'⟩)
theorem RowA.to_ra {D : Nat → Prop} {w : World} {q : Option Addr} {zs : List Int} (h : RowA D w q zs) (hd : ∀ k, D k → k < w.heap.size) : Ra w q zs := fun h0 => by
  obtain ⟨b, o, h1, h2, h3⟩ := h h0
  exact ⟨b, o, h1, hd b h2, h3⟩
end Go.Proofs.YtclefcjojlkcnaaDoor.V
