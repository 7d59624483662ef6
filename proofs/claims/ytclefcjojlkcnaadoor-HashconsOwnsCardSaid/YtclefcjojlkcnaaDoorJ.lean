/- A node that came in. -/
import Derived.Test.YtclefcjojlkcnaaDoorI
namespace Go.Proofs.YtclefcjojlkcnaaDoor
open Go.ChangeShapes Go.WideShapes Go.ChangeAt Go.RowKit Go.Deep
set_option linter.unusedVariables false
set_option linter.unusedSimpArgs false
theorem in64_of {n : Int} (h : (Lit.int .i64 n).wf = true) : In64 n := by
  simp [Lit.wf, IntKind.min, IntKind.max, IntKind.signed, IntKind.bits] at h
  exact ⟨by omega, by omega⟩
def U64 (u : Nat) : Prop := u < 18446744073709551616
theorem u64_of {n : Int} (h : (Lit.int .u64 n).wf = true) : ∃ u : Nat, n = u ∧ U64 u := by
  simp [Lit.wf, IntKind.min, IntKind.max, IntKind.signed, IntKind.bits] at h
  exact ⟨n.toNat, by omega, by unfold U64; omega⟩
theorem cells22 : Tryd.prog.cellsOf 22 = 1 := by kernel_rfl
theorem cells9 : Tryd.prog.cellsOf 9 = 1 := by kernel_rfl
theorem cells24 : Tryd.prog.cellsOf 24 = 1 := by kernel_rfl
section
variable {H : Type} {enc : TypeId × Value → H} {w : World} {base : Nat}
/-- a slice of numbers, by its cell -/
theorem ints_cell {n : Nat} {c : Value} {x : DataW H × List MemPlace} (h : DataW.trod enc Tryd.prog w base (fun _ => true) true n 24 [c] = some x) :
    ∃ p cap zs, c = .slice p (List.length zs) cap ∧ (∀ k, In64 (List.getD zs k 0)) ∧ Ra w p zs ∧ (p = none → cap = 0) := by
  rcases open_ints Tryd.underlying24 Tryd.underlying3 (by kernel_rfl) h with ⟨hcs, _⟩ | ⟨x, l, cap, zs, hcs, _, hl, hm, hz, _, hcell, hwz⟩
  · simp at hcs
    exact ⟨none, 0, [], hcs, fun k => by simp [In64], fun h => by simp at h, fun _ => rfl⟩
  · simp at hcs
    have hzl : zs.length = cap := by simpa using hz
    have hlen : (zs.take l).length = l := by simp; omega
    refine ⟨some x, cap, zs.take l, by rw [hlen]; exact hcs, fun k => ?_, fun h0 => ?_, fun h => by cases h⟩
    · by_cases hk : k < l
      · have hk2 : k < zs.length := by omega
        have : (zs.take l).getD k 0 = zs[k] := by simp [List.getD_eq_getElem?_getD, List.getElem?_take, hk, hk2]
        rw [this]
        exact in64_of (hwz _ (List.getElem_mem hk2))
      · have : (zs.take l).getD k 0 = 0 := by simp [List.getD_eq_getElem?_getD, List.getElem?_take, hk]
        rw [this]
        exact ⟨by omega, by omega⟩
    · rw [hlen] at h0
      have c0 := hcell 0 (by omega)
      have e0 : x.add 0 = x := by simp [Addr.add]
      rw [e0] at c0
      obtain ⟨b, off, sp⟩ := x
      have hsp : sp = none := by
        cases sp with
        | none => rfl
        | some s => exfalso; unfold World.cell? at c0; split at c0 <;> simp at c0
      subst hsp
      refine ⟨b, off, rfl, World.block_lt_of_cell? w _ c0, fun k hk => ?_⟩
      rw [hlen] at hk
      have := hcell k (by omega)
      rw [show (⟨b, off, none⟩ : Addr).add k = ⟨b, off + k, none⟩ from Go.WideShapes.add_plain _ _ _] at this
      rw [this]
      simp [List.getD_eq_getElem?_getD, List.getElem?_take, hk]
set_option maxRecDepth 4000 in
theorem node_cells {n : Nat} {cs : List Value} {x : DataW H × List MemPlace} (h : DataW.trod enc Tryd.prog w base (fun _ => true) true n 26 cs = some x) :
    ∃ (op wd : Int) (vl : Nat) (name : ByteArray) (p : Option Addr) (cap : Nat) (zs : List Int), cs = [.int .i64 op, .int .i64 wd, .int .u64 vl, .string name, .slice p zs.length cap] ∧ In64 op ∧ In64 wd ∧ U64 vl ∧ (∀ k, In64 (zs.getD k 0)) ∧ Ra w p zs ∧ (p = none → cap = 0) ∧ name.size ≤ maxLen := by
  obtain ⟨fs, hfs, hof⟩ : ∃ fs, Tryd.prog.underlying 26 = some (.struct fs) ∧ fs.map (fun f => (f.offset, f.type)) = #[(0, 22), (1, 3), (2, 23), (3, 9), (4, 24)] := ⟨_, Tryd.underlying26, by simp⟩
  obtain ⟨xs, m, _, _, hlen, hxl, hf⟩ := DataW.trod_struct hfs h
  rw [cells26] at hlen
  match cs, hlen with
  | [c0, c1, c2, c3, c4], _ =>
    have hsz : fs.size = 5 := by have := congrArg Array.size hof; simpa using this
    have get : ∀ (i o t : Nat), i < 5 → (#[(0, 22), (1, 3), (2, 23), (3, 9), (4, 24)] : Array (Nat × Nat))[i]? = some (o, t) → ∃ f, fs[i]? = some f ∧ f.offset = o ∧ f.type = t := by
      intro i o t hi ht
      have hi' : i < fs.size := by omega
      have e := congrArg (fun l => l[i]?) hof
      simp only [Array.getElem?_map, Array.getElem?_eq_getElem hi', Option.map_some] at e
      refine ⟨fs[i], Array.getElem?_eq_getElem hi', ?_⟩
      have e2 := e.trans ht
      simp at e2
      exact e2
    have val : ∀ (i o t : Nat), i < 5 → (#[(0, 22), (1, 3), (2, 23), (3, 9), (4, 24)] : Array (Nat × Nat))[i]? = some (o, t) → ∃ y, DataW.trod enc Tryd.prog w base (fun _ => true) true m t (([c0, c1, c2, c3, c4].drop o).take (Tryd.prog.cellsOf t)) = some y := by
      intro i o t hi ht
      obtain ⟨f, h1, h2, h3⟩ := get i o t hi ht
      have h4 := hf i f h1
      rw [h2, h3] at h4
      exact ⟨_, h4.trans (List.getElem?_eq_getElem (by omega))⟩
    obtain ⟨y0, v0⟩ := val 0 0 22 (by omega) rfl
    obtain ⟨y1, v1⟩ := val 1 1 3 (by omega) rfl
    obtain ⟨y2, v2⟩ := val 2 2 23 (by omega) rfl
    obtain ⟨y3, v3⟩ := val 3 3 9 (by omega) rfl
    obtain ⟨y4, v4⟩ := val 4 4 24 (by omega) rfl
    rw [cells22] at v0
    rw [cells3] at v1
    rw [cells23] at v2
    rw [cells9] at v3
    rw [cells24] at v4
    obtain ⟨op, e0, _, w0⟩ := DataW.trod_int Tryd.underlying22 v0
    obtain ⟨wd, e1, _, w1⟩ := DataW.trod_int Tryd.underlying3 v1
    obtain ⟨vl, e2, _, w2⟩ := DataW.trod_int Tryd.underlying23 v2
    obtain ⟨nm, e3, _, w3⟩ := DataW.trod_string Tryd.underlying9 v3
    obtain ⟨p, cap, zs, e4, hz, hr, hn⟩ := ints_cell (c := c4) (by simpa using v4)
    simp at e0 e1 e2 e3
    obtain ⟨u, rfl, hu⟩ := u64_of w2
    exact ⟨op, wd, u, nm, p, cap, zs, by rw [e0, e1, e2, e3, e4], in64_of w0, in64_of w1, hu, hz, hr, hn, w3⟩
set_option maxRecDepth 4000 in
theorem open_node {v : Value} {d : DataW H} {p : List MemPlace} {r : Reach} (hv : Value.okWide Tryd.prog w r base 26 v) (h : DataW.Trod enc Tryd.prog w 0 (fun _ => true) true 26 v d p) :
    ∃ (op wd : Int) (vl : Nat) (name : ByteArray) (q : Option Addr) (cap : Nat) (zs : List Int), v = .agg #[.int .i64 op, .int .i64 wd, .int .u64 vl, .string name, .slice q zs.length cap] ∧ In64 op ∧ In64 wd ∧ U64 vl ∧ (∀ k, In64 (zs.getD k 0)) ∧ Ra w q zs ∧ (q = none → cap = 0) ∧ name.size ≤ maxLen := by
  obtain ⟨cs, rfl, hsz⟩ := okWide_struct Tryd.underlying26 hv
  obtain ⟨fuel, hf⟩ := h
  obtain ⟨op, wd, vl, nm, q, cap, zs, hcs, h1⟩ := node_cells hf
  refine ⟨op, wd, vl, nm, q, cap, zs, ?_, h1⟩
  simp [Value.cells] at hcs
  rw [show cs = #[.int .i64 op, .int .i64 wd, .int .u64 vl, .string nm, .slice q zs.length cap] by cases cs; simp_all]
end
end Go.Proofs.YtclefcjojlkcnaaDoor
