/- Calls that came in as an argument. -/
import Derived.Test.YtihoegihmgeenaaAH
import Derived.ProofKit
import Derived.OpenShut
import Derived.ChangeOld
import Derived.Below
import Derived.Deep.Slices
import Derived.ChangeSame
namespace Go.Proofs.Ytihoegihmgeenaa
open Go.ChangeShapes Go.WideShapes Go.ChangeAt Go.RowKit Go.Deep
set_option linter.unusedVariables false
set_option linter.unusedSimpArgs false
theorem cells33 : Try.prog.cellsOf 33 = 3 := by kernel_rfl
theorem cells3 : Try.prog.cellsOf 3 = 1 := by kernel_rfl
section
variable {H : Type} {enc : TypeId × Value → H} {w : World} {base : Nat} {spare : Nat → Bool} {held : Bool}
theorem act_open {n : Nat} {cs : List Value} {x : DataW H × List MemPlace} (h : DataW.trod enc Try.prog w base spare held n 33 cs = some x) : ∃ a b c : Int, cs = [.int .i64 a, .int .i64 b, .int .i64 c] := by
  obtain ⟨fs, hfs, hof⟩ : ∃ fs, Try.prog.underlying 33 = some (.struct fs) ∧ fs.map (fun f => (f.offset, f.type)) = #[(0, 3), (1, 3), (2, 3)] := ⟨_, Try.underlying33, by simp⟩
  obtain ⟨xs, m, _, _, hlen, hxl, hf⟩ := DataW.trod_struct hfs h
  rw [cells33] at hlen
  match cs, hlen with
  | [c0, c1, c2], _ =>
    have hsz : fs.size = 3 := by have := congrArg Array.size hof; simpa using this
    have get : ∀ i, i < 3 → ∃ f, fs[i]? = some f ∧ f.offset = i ∧ f.type = 3 := by
      intro i hi
      have hi' : i < fs.size := by omega
      have e := congrArg (fun l => l[i]?) hof
      simp only [Array.getElem?_map, Array.getElem?_eq_getElem hi', Option.map_some] at e
      refine ⟨fs[i], Array.getElem?_eq_getElem hi', ?_⟩
      match i, hi with
      | 0, _ => simp at e; exact e
      | 1, _ => simp at e; exact e
      | 2, _ => simp at e; exact e
    have val : ∀ i (hi : i < 3), ∃ v, ([c0, c1, c2].drop i).take 1 = [v] ∧ ∃ k : Int, v = .int .i64 k := by
      intro i hi
      obtain ⟨f, h1, h2, h3⟩ := get i hi
      have h4 := hf i f h1
      rw [h2, h3, cells3] at h4
      have hxi : xs[i]? = some (xs[i]'(by omega)) := List.getElem?_eq_getElem (by omega)
      rw [hxi] at h4
      obtain ⟨k, h5, _⟩ := DataW.trod_int Try.underlying3 h4
      exact ⟨_, h5, k, rfl⟩
    obtain ⟨v0, e0, k0, rfl⟩ := val 0 (by omega)
    obtain ⟨v1, e1, k1, rfl⟩ := val 1 (by omega)
    obtain ⟨v2, e2, k2, rfl⟩ := val 2 (by omega)
    simp at e0 e1 e2
    exact ⟨k0, k1, k2, by rw [e0, e1, e2]⟩
theorem acts_open {fuel : Nat} {v : Value} {x : DataW H × List MemPlace} (h : DataW.trod enc Try.prog w base (fun _ => true) held fuel 22 [v] = some x) : ∃ ac, Acts w w.heap.size v ac := by
  rcases open_slice Try.underlying22 h with ⟨h0, _⟩ | ⟨a, len, cap, m, n, D, Pl, hcs, hb, hl, hm, hmm, hx, hi⟩
  · exact ⟨[], .inl ⟨none, 0, by simpa using h0, rfl⟩⟩
  · simp only [List.cons.injEq, and_true] at hcs
    subst hcs
    by_cases h0 : len = 0
    · subst h0; exact ⟨[], .inl ⟨_, cap, rfl, rfl⟩⟩
    · simp at hmm
      subst hmm
      have key : ∀ i, i < len → ∃ p q r : Int, w.cell? (a.add (i * 3)) = some (.int .i64 p) ∧ w.cell? ((a.add (i * 3)).add 1) = some (.int .i64 q) ∧ w.cell? ((a.add (i * 3)).add 2) = some (.int .i64 r) := by
        intro i hil
        obtain ⟨cs', hc, ht⟩ := hi i (by omega)
        rw [cells33] at hc
        obtain ⟨p, q, r, rfl⟩ := act_open ht
        obtain ⟨_, _, hat⟩ := World.cells?_some hc
        have a0 := hat 0 (by omega)
        have a1 := hat 1 (by omega)
        have a2 := hat 2 (by omega)
        exact ⟨p, q, r, by simpa [Addr.add] using a0, by simpa using a1, by simpa using a2⟩
      obtain ⟨p0, q0, r0, c0, _⟩ := key 0 (by omega)
      have e0 : a.add (0 * 3) = a := by simp [Addr.add]
      rw [e0] at c0
      obtain ⟨b, off, sp⟩ := a
      have hsp : sp = none := by
        cases sp with
        | none => rfl
        | some s => exfalso; unfold World.cell? at c0; split at c0 <;> simp at c0
      subst hsp
      have hadd : ∀ j, (⟨b, off, none⟩ : Addr).add j = ⟨b, off + j, none⟩ := fun j => Go.WideShapes.add_plain _ _ _
      have hadd2 : ∀ o j, (⟨b, o, none⟩ : Addr).add j = ⟨b, o + j, none⟩ := fun o j => Go.WideShapes.add_plain _ _ _
      have key2 : ∀ i, ∃ act : AAct, i < len → w.cell? ⟨b, off + i * 3, none⟩ = some (.int .i64 act.1) ∧ w.cell? ⟨b, off + i * 3 + 1, none⟩ = some (.int .i64 act.2.1) ∧ w.cell? ⟨b, off + i * 3 + 2, none⟩ = some (.int .i64 act.2.2) := by
        intro i
        by_cases hil : i < len
        · obtain ⟨p, q, r, h1, h2, h3⟩ := key i hil
          rw [hadd] at h1
          rw [hadd, hadd2] at h2 h3
          exact ⟨(p, q, r), fun _ => ⟨h1, h2, h3⟩⟩
        · exact ⟨(0, 0, 0), fun h => absurd h hil⟩
      refine ⟨(List.range len).map (fun i => (key2 i).choose), .inr ⟨b, off, _, by simp; rfl, by simp; omega, World.block_lt_of_cell? w _ c0, fun k hk => ?_⟩⟩
      simp at hk
      have hg : ((List.range len).map (fun i => (key2 i).choose)).getD k (0, 0, 0) = (key2 k).choose := by simp [List.getD_eq_getElem?_getD, hk]
      rw [hg]
      exact (key2 k).choose_spec hk
end
end Go.Proofs.Ytihoegihmgeenaa
