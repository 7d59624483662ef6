/- What came in: s-expressions and lists of them. -/
import Derived.Test.YtgiheheakgigkaaAT
import Derived.Test.YtgiheheakgigkaaRows
import Derived.ProofKit
import Derived.OpenShut
import Derived.ShutString
import Derived.ChangeOld
import Derived.Below
import Derived.Deep.DeepHandedRow
import Derived.Lib.SmallJoins
import Derived.Deep.Slices
import Derived.ChangeSame
namespace Go.Proofs.Ytgiheheakgigkaa
open Go.ChangeShapes Go.WideShapes Go.ChangeAt Go.RowKit Go.Deep
set_option linter.unusedVariables false
set_option linter.unusedSimpArgs false
theorem cells25 : Try.prog.cellsOf 25 = 2 := by kernel_rfl
theorem cells9 : Try.prog.cellsOf 9 = 1 := by kernel_rfl
theorem cells23 : Try.prog.cellsOf 23 = 1 := by kernel_rfl
section
variable {H : Type} {enc : TypeId × Value → H} {w : World} {base : Nat}
set_option maxRecDepth 4000 in
theorem row_cells {fuel : Nat} (ih : ∀ n, n < fuel → ∀ {cs : List Value} {x : DataW H × List MemPlace}, DataW.trod enc Try.prog w base (fun _ => true) true n 25 cs = some x →
    ∃ (a : ByteArray) (p : Option Addr) (c : Nat) (ts : List T), cs = [.string a, .slice p ts.length c] ∧ okT (.mk a ts) ∧ RowD (mem 0 w) w p c ts) {v : Value} {x : DataW H × List MemPlace} (h : DataW.trod enc Try.prog w base (fun _ => true) true fuel 23 [v] = some x) :
    ∃ (p : Option Addr) (c : Nat) (ts : List T), v = .slice p ts.length c ∧ ts.length ≤ maxLen ∧ okL ts ∧ RowD (mem 0 w) w p c ts := by
  rcases DataW.trod_slice Try.underlying23 h with ⟨h4, _⟩ | ⟨a, len, cap, elems, rest, n, hmn, h4, _, hb, hl, hm, hel, hi, _, _⟩
  · simp at h4
    exact ⟨none, 0, [], h4, Nat.zero_le _, by rw [okL]; trivial, .inl ⟨rfl, fun _ => rfl⟩⟩
  · simp at h4
    subst h4
    by_cases h0 : len = 0
    · subst h0
      exact ⟨some a, cap, [], rfl, Nat.zero_le _, by rw [okL]; trivial, .inl ⟨rfl, fun h => by cases h⟩⟩
    · have key : ∀ i, i < len → ∃ (a' : ByteArray) (q : Option Addr) (d : Nat) (us : List T), (w.cell? (a.add (i * 2)) = some (.string a') ∧ w.cell? ((a.add (i * 2)).add 1) = some (.slice q us.length d)) ∧ okT (.mk a' us) ∧ RowD (mem 0 w) w q d us := by
        intro i hil
        have h5 := hi i hil
        rw [List.getElem?_eq_getElem (by omega)] at h5
        obtain ⟨cs', hcs', htr⟩ := Option.bind_eq_some_iff.1 h5
        obtain ⟨a', q, d, us, rfl, hw, hr⟩ := ih n (by omega) htr
        rw [cells25] at hcs'
        obtain ⟨_, _, hat⟩ := World.cells?_some hcs'
        have a0 := hat 0 (by omega)
        have a1 := hat 1 (by omega)
        exact ⟨a', q, d, us, ⟨by simpa [Addr.add] using a0, by simpa using a1⟩, hw, hr⟩
      obtain ⟨_, _, _, _, ⟨c0', _⟩, _⟩ := key 0 (by omega)
      have e00 : a.add (0 * 2) = a := by simp [Addr.add]
      rw [e00] at c0'
      obtain ⟨b, off, sp⟩ := a
      have hsp : sp = none := by
        cases sp with
        | none => rfl
        | some s => exfalso; unfold World.cell? at c0'; split at c0' <;> simp at c0'
      subst hsp
      have hlt : b < w.heap.size := World.block_lt_of_cell? w _ c0'
      have hadd : ∀ o j, (⟨b, o, none⟩ : Addr).add j = ⟨b, o + j, none⟩ := fun o j => Go.WideShapes.add_plain _ _ _
      have key2 : ∀ i, ∃ t : T, i < len → AtD (mem 0 w) t w b (off + i * 2) ∧ okT t := by
        intro i
        by_cases hil : i < len
        · obtain ⟨a', q, d, us, ⟨b0, b1⟩, hw, hr⟩ := key i hil
          refine ⟨.mk a' us, fun _ => ⟨?_, hw⟩⟩
          rw [atD_mk]
          simp only [hadd] at b0 b1
          exact ⟨q, d, b0, b1, hr⟩
        · exact ⟨zeroT, fun h => absurd h hil⟩
      refine ⟨some ⟨b, off, none⟩, cap, (List.range len).map fun i => (key2 i).choose, by simp, by simp; omega, okL_iff.2 fun t ht => ?_, .inr ⟨b, off, rfl, ⟨Nat.zero_le _, hlt⟩, atDL_of fun k hk => ?_, by simp; omega⟩⟩
      · obtain ⟨i, hi1, rfl⟩ := List.mem_map.1 ht
        exact ((key2 i).choose_spec (by simpa using hi1)).2
      · simp at hk
        simpa using ((key2 k).choose_spec hk).1
set_option maxRecDepth 4000 in
theorem tree_cells : ∀ (fuel : Nat) {cs : List Value} {x : DataW H × List MemPlace}, DataW.trod enc Try.prog w base (fun _ => true) true fuel 25 cs = some x →
    ∃ (a : ByteArray) (p : Option Addr) (c : Nat) (ts : List T), cs = [.string a, .slice p ts.length c] ∧ okT (.mk a ts) ∧ RowD (mem 0 w) w p c ts := by
  intro fuel
  induction fuel using Nat.strongRecOn with
  | _ fuel ih =>
  intro cs x h
  obtain ⟨fs, hfs, hof⟩ : ∃ fs, Try.prog.underlying 25 = some (.struct fs) ∧ fs.map (fun f => (f.offset, f.type)) = #[(0, 9), (1, 23)] := ⟨_, Try.underlying25, by simp⟩
  obtain ⟨xs, m, hfm, _, hlen, hxl, hf⟩ := DataW.trod_struct hfs h
  rw [cells25] at hlen
  match cs, hlen with
  | [c0, c1], _ =>
    have hsz : fs.size = 2 := by have := congrArg Array.size hof; simpa using this
    have get : ∀ (i o t : Nat), i < 2 → (#[(0, 9), (1, 23)] : Array (Nat × Nat))[i]? = some (o, t) → ∃ f, fs[i]? = some f ∧ f.offset = o ∧ f.type = t := by
      intro i o t hi ht
      have hi' : i < fs.size := by omega
      have e := congrArg (fun l => l[i]?) hof
      simp only [Array.getElem?_map, Array.getElem?_eq_getElem hi', Option.map_some] at e
      refine ⟨fs[i], Array.getElem?_eq_getElem hi', ?_⟩
      have e2 := e.trans ht
      simp at e2
      exact e2
    have val : ∀ (i o t : Nat), i < 2 → (#[(0, 9), (1, 23)] : Array (Nat × Nat))[i]? = some (o, t) → ∃ y, DataW.trod enc Try.prog w base (fun _ => true) true m t (([c0, c1].drop o).take (Try.prog.cellsOf t)) = some y := by
      intro i o t hi ht
      obtain ⟨f, h1, h2, h3⟩ := get i o t hi ht
      have h4 := hf i f h1
      rw [h2, h3] at h4
      exact ⟨_, h4.trans (List.getElem?_eq_getElem (by omega))⟩
    obtain ⟨y0, v0⟩ := val 0 0 9 (by omega) rfl
    obtain ⟨y1, v1⟩ := val 1 1 23 (by omega) rfl
    rw [cells9] at v0
    rw [cells23] at v1
    obtain ⟨nm, e3, _, w3⟩ := DataW.trod_string Try.underlying9 v0
    simp at e3
    have v4' : DataW.trod enc Try.prog w base (fun _ => true) true m 23 [c1] = some y1 := v1
    obtain ⟨p, c, ts, h1, h2, h3, h4⟩ := row_cells (fun n hn => ih n (by omega)) v4'
    exact ⟨nm, p, c, ts, by rw [e3, h1], okT_mk.2 ⟨w3, h2, h3⟩, h4⟩
theorem open_tree {v : Value} {d : DataW H} {p : List MemPlace} {r : Reach} (hv : Value.okWide Try.prog w r base 25 v) (h : DataW.Trod enc Try.prog w 0 (fun _ => true) true 25 v d p) :
    ∃ (a : ByteArray) (q : Option Addr) (c : Nat) (ts : List T), v = .agg #[.string a, .slice q ts.length c] ∧ okT (.mk a ts) ∧ RowD (mem 0 w) w q c ts := by
  obtain ⟨cs, rfl, hsz⟩ := okWide_struct Try.underlying25 hv
  obtain ⟨fuel, hf⟩ := h
  obtain ⟨a, q, c, ts, hcs, h1⟩ := tree_cells fuel hf
  refine ⟨a, q, c, ts, ?_, h1⟩
  simp [Value.cells] at hcs
  rw [show cs = #[.string a, .slice q ts.length c] by cases cs; simp_all]
theorem open_trees {v : Value} {d : DataW H} {p : List MemPlace} {r : Reach} (hv : Value.okWide Try.prog w r base 23 v) (h : DataW.Trod enc Try.prog w 0 (fun _ => true) true 23 v d p) :
    ∃ (q : Option Addr) (c : Nat) (ts : List T), v = .slice q ts.length c ∧ ts.length ≤ maxLen ∧ okL ts ∧ RowD (mem 0 w) w q c ts := by
  obtain ⟨q0, l0, c0, rfl⟩ := okWide_slice Try.underlying23 hv
  obtain ⟨fuel, hf⟩ := h
  exact row_cells (fun n hn => tree_cells n) hf
end
end Go.Proofs.Ytgiheheakgigkaa
