/- Arguments that came in: states, lists of numbers, lists of states. -/
import Derived.Test.YtbpmkbnldoeffaaH
import Derived.ProofKit
import Derived.OpenShut
import Derived.ChangeOld
import Derived.Below
import Derived.Lib.SmallJoins
import Derived.Deep.Slices
import Derived.ChangeSame
namespace Go.Proofs.Ytbpmkbnldoeffaa
open Go.ChangeShapes Go.WideShapes Go.ChangeAt Go.RowKit Go.Deep Go.Joins
set_option linter.unusedVariables false
set_option linter.unusedSimpArgs false
theorem cells26 : Try.prog.cellsOf 26 = 4 := by kernel_rfl
theorem cells3 : Try.prog.cellsOf 3 = 1 := by kernel_rfl
section
variable {H : Type} {enc : TypeId × Value → H} {w : World} {base : Nat}
theorem bo_cells {n : Nat} {cs : List Value} {x : DataW H × List MemPlace} (h : DataW.trod enc Try.prog w base (fun _ => true) true n 26 cs = some x) : ∃ a b c d : Int, cs = [.int .i64 a, .int .i64 b, .int .i64 c, .int .i64 d] := by
  obtain ⟨fs, hfs, hof⟩ : ∃ fs, Try.prog.underlying 26 = some (.struct fs) ∧ fs.map (fun f => (f.offset, f.type)) = #[(0, 3), (1, 3), (2, 3), (3, 3)] := ⟨_, Try.underlying26, by simp⟩
  obtain ⟨xs, m, _, _, hlen, hxl, hf⟩ := DataW.trod_struct hfs h
  rw [cells26] at hlen
  match cs, hlen with
  | [c0, c1, c2, c3], _ =>
    have hsz : fs.size = 4 := by have := congrArg Array.size hof; simpa using this
    have get : ∀ i, i < 4 → ∃ f, fs[i]? = some f ∧ f.offset = i ∧ f.type = 3 := by
      intro i hi
      have hi' : i < fs.size := by omega
      have e := congrArg (fun l => l[i]?) hof
      simp only [Array.getElem?_map, Array.getElem?_eq_getElem hi', Option.map_some] at e
      refine ⟨fs[i], Array.getElem?_eq_getElem hi', ?_⟩
      match i, hi with
      | 0, _ => simp at e; exact e
      | 1, _ => simp at e; exact e
      | 2, _ => simp at e; exact e
      | 3, _ => simp at e; exact e
    have val : ∀ i (hi : i < 4), ∃ v, ([c0, c1, c2, c3].drop i).take 1 = [v] ∧ ∃ k : Int, v = .int .i64 k := by
      intro i hi
      obtain ⟨f, h1, h2, h3⟩ := get i hi
      have h4 := hf i f h1
      rw [h2, h3, cells3] at h4
      have hxi : xs[i]? = some (xs[i]'(by omega)) := List.getElem?_eq_getElem (by omega)
      rw [hxi] at h4
      obtain ⟨k, h5, _⟩ := DataW.trod_int Try.underlying3 h4
      exact ⟨_, h5, k, rfl⟩
    obtain ⟨v0, e0, k0, rfl⟩ := val 0 (by omega)
    obtain ⟨v1, e1, k1, rfl⟩ := val 1 (by omega)
    obtain ⟨v2, e2, k2, rfl⟩ := val 2 (by omega)
    obtain ⟨v3, e3, k3, rfl⟩ := val 3 (by omega)
    simp at e0 e1 e2 e3
    exact ⟨k0, k1, k2, k3, by rw [e0, e1, e2, e3]⟩
theorem open_bo {v : Value} {d : DataW H} {p : List MemPlace} {r : Reach} (hv : Value.okWide Try.prog w r base 26 v) (h : DataW.Trod enc Try.prog w 0 (fun _ => true) true 26 v d p) :
    ∃ s : BO, v = .agg #[.int .i64 s.1, .int .i64 s.2.1, .int .i64 s.2.2.1, .int .i64 s.2.2.2] := by
  obtain ⟨cs, rfl, hsz⟩ := okWide_struct Try.underlying26 hv
  obtain ⟨fuel, hf⟩ := h
  obtain ⟨a, b, c, e, hcs⟩ := bo_cells hf
  refine ⟨(a, b, c, e), ?_⟩
  simp [Value.cells] at hcs
  rw [show cs = #[.int .i64 a, .int .i64 b, .int .i64 c, .int .i64 e] by cases cs; simp_all]
theorem open_rn {v : Value} {d : DataW H} {p : List MemPlace} {r : Reach} (hv : Value.okWide Try.prog w r base 34 v) (h : DataW.Trod enc Try.prog w 0 (fun _ => true) true 34 v d p) : ∃ zs, Rn w v zs := by
  obtain ⟨a, len, cap, rfl⟩ := okWide_slice Try.underlying34 hv
  obtain ⟨fuel, hf⟩ := h
  rcases open_ints Try.underlying34 Try.underlying3 (by kernel_rfl) hf with ⟨hcs, _⟩ | ⟨x, l, c, zs, hcs, _, hl, hm, hz, _, hcell, hwz⟩
  · simp [Value.cells] at hcs
    obtain ⟨rfl, rfl, rfl⟩ := hcs
    exact ⟨[], .inl ⟨_, _, rfl, rfl⟩⟩
  · simp [Value.cells] at hcs
    obtain ⟨rfl, rfl, rfl⟩ := hcs
    by_cases h0 : len = 0
    · subst h0; exact ⟨[], .inl ⟨_, _, rfl, rfl⟩⟩
    · have hzl : zs.length = cap := by simpa using hz
      have c0 := hcell 0 (by omega)
      have e0 : x.add 0 = x := by simp [Addr.add]
      rw [e0] at c0
      obtain ⟨b, off, sp⟩ := x
      have hsp : sp = none := by
        cases sp with
        | none => rfl
        | some s => exfalso; unfold World.cell? at c0; split at c0 <;> simp at c0
      subst hsp
      refine ⟨zs.take len, .inr ⟨b, off, cap, by simp; omega, by simp; omega, World.block_lt_of_cell? w _ c0, fun k hk => ?_⟩⟩
      simp at hk
      have := hcell k (by omega)
      rw [show (⟨b, off, none⟩ : Addr).add k = ⟨b, off + k, none⟩ from Go.WideShapes.add_plain _ _ _] at this
      rw [this]
      have h1 : k < len := by omega
      simp [List.getD_eq_getElem?_getD, List.getElem?_take, h1]
theorem open_rb {v : Value} {d : DataW H} {p : List MemPlace} {r : Reach} (hv : Value.okWide Try.prog w r base 22 v) (h : DataW.Trod enc Try.prog w 0 (fun _ => true) true 22 v d p) : ∃ zs, Rb w v zs := by
  obtain ⟨a', len', cap', rfl⟩ := okWide_slice Try.underlying22 hv
  obtain ⟨fuel, hf⟩ := h
  rcases open_slice Try.underlying22 hf with ⟨h0, _⟩ | ⟨a, len, cap, m, n, D, Pl, hcs, hb, hl, hm, hmm, hx, hi⟩
  · simp [Value.cells] at h0
    obtain ⟨rfl, rfl, rfl⟩ := h0
    exact ⟨[], .inl ⟨_, _, rfl, rfl⟩⟩
  · simp [Value.cells] at hcs
    obtain ⟨rfl, rfl, rfl⟩ := hcs
    by_cases h0 : len' = 0
    · subst h0; exact ⟨[], .inl ⟨_, _, rfl, rfl⟩⟩
    · simp at hmm
      subst hmm
      have key : ∀ i, i < len' → ∃ s : BO, w.cell? (a.add (i * 4)) = some (.int .i64 s.1) ∧ w.cell? ((a.add (i * 4)).add 1) = some (.int .i64 s.2.1) ∧ w.cell? ((a.add (i * 4)).add 2) = some (.int .i64 s.2.2.1) ∧ w.cell? ((a.add (i * 4)).add 3) = some (.int .i64 s.2.2.2) := by
        intro i hil
        obtain ⟨cs', hc, ht⟩ := hi i (by omega)
        rw [cells26] at hc
        obtain ⟨x0, x1, x2, x3, rfl⟩ := bo_cells ht
        obtain ⟨_, _, hat⟩ := World.cells?_some hc
        have a0 := hat 0 (by omega)
        have a1 := hat 1 (by omega)
        have a2 := hat 2 (by omega)
        have a3 := hat 3 (by omega)
        exact ⟨(x0, x1, x2, x3), by simpa [Addr.add] using a0, by simpa using a1, by simpa using a2, by simpa using a3⟩
      obtain ⟨s0, c0, _⟩ := key 0 (by omega)
      have e0 : a.add (0 * 4) = a := by simp [Addr.add]
      rw [e0] at c0
      obtain ⟨b, off, sp⟩ := a
      have hsp : sp = none := by
        cases sp with
        | none => rfl
        | some s => exfalso; unfold World.cell? at c0; split at c0 <;> simp at c0
      subst hsp
      have hadd : ∀ o j, (⟨b, o, none⟩ : Addr).add j = ⟨b, o + j, none⟩ := fun o j => Go.WideShapes.add_plain _ _ _
      have key2 : ∀ i, ∃ s : BO, i < len' → w.cell? ⟨b, off + i * 4, none⟩ = some (.int .i64 s.1) ∧ w.cell? ⟨b, off + i * 4 + 1, none⟩ = some (.int .i64 s.2.1) ∧ w.cell? ⟨b, off + i * 4 + 2, none⟩ = some (.int .i64 s.2.2.1) ∧ w.cell? ⟨b, off + i * 4 + 3, none⟩ = some (.int .i64 s.2.2.2) := by
        intro i
        by_cases hil : i < len'
        · obtain ⟨s, h1, h2, h3, h4⟩ := key i hil
          rw [hadd] at h1
          rw [hadd, hadd] at h2 h3 h4
          exact ⟨s, fun _ => ⟨h1, h2, h3, h4⟩⟩
        · exact ⟨(0, 0, 0, 0), fun h => absurd h hil⟩
      refine ⟨(List.range len').map (fun i => (key2 i).choose), .inr ⟨b, off, _, by simp; rfl, by simp; omega, World.block_lt_of_cell? w _ c0, fun k hk => ?_⟩⟩
      simp at hk
      have hg : ((List.range len').map (fun i => (key2 i).choose)).getD k (0, 0, 0, 0) = (key2 k).choose := by simp [List.getD_eq_getElem?_getD, hk]
      rw [hg]
      exact (key2 k).choose_spec hk
end
end Go.Proofs.Ytbpmkbnldoeffaa
