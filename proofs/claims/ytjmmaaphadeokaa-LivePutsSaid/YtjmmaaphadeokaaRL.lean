/- What the laws take: a program (two numbers, instructions, numbers) and two numbers, opened. -/
import Derived.Test.YtjmmaaphadeokaaA
import Derived.Deep.Slices
import Derived.Deep.Fields
import Derived.ChangeSame
import Derived.ProofKit
import Derived.OpenShut
import Derived.Lib.SmallJoins
import Derived.ChangeOld
namespace Go.Proofs.Ytjmmaaphadeokaa
open Go.ChangeShapes Go.WideShapes Go.RowKit Go.Deep Go.Joins
set_option linter.unusedVariables false
set_option maxRecDepth 100000
theorem okWide_array {P : Program} {w : World} {r : Reach} {base : Nat} {t : TypeId} {v : Value} {n : Nat} {e : TypeId} (ht : P.underlying t = some (.array n e)) (h : Value.okWide P w r base t v) : ∃ cs, v = .agg cs ∧ cs.size = P.cellsOf t := by
  simp only [Value.okWide, ht] at h
  obtain ⟨cs, h1, h2, _⟩ := h
  exact ⟨cs, h1, h2⟩
section
variable {H : Type} {enc : TypeId × Value → H} {w : World} {base : Nat} {sp : Nat → Bool} {held : Bool}
theorem u52 : Try.prog.underlying 52 = some (.int .i64) := by kernel_rfl
theorem u44 : Try.prog.underlying 44 = some (.int .u64) := by kernel_rfl
theorem cells54 : Try.prog.cellsOf 54 = 6 := by kernel_rfl
theorem cells25 : Try.prog.cellsOf 25 = 4 := by kernel_rfl
theorem cells3 : Try.prog.cellsOf 3 = 1 := by kernel_rfl
theorem open_ins {fuel : Nat} {cs : List Value} {x : DataW H × List MemPlace} (h : DataW.trod enc Try.prog w base (fun _ => true) held fuel 22 cs = some x) :
    ∃ (p : Option Addr) (c : Nat) (l : List I6), cs = [.slice p l.length c] ∧ RI w p c l := by
  rcases open_slice Try.underlying22 h with ⟨hcs, _⟩ | ⟨a, len, cap, m, n, D, Pl, hcs, _, hl, hm, hmm, _, hi⟩
  · exact ⟨none, 0, [], hcs, fun _ => rfl, by simp, fun k hk => by simp at hk⟩
  · have ho : ∀ (j : Nat) (f : Field), (#[{ name := "Op", type := 52, offset := 0, embedded := false, tag := "", pkgPath := "", byteOffset := 0 }, { name := "Dst", type := 3, offset := 1, embedded := false, tag := "", pkgPath := "", byteOffset := 8 }, { name := "A", type := 3, offset := 2, embedded := false, tag := "", pkgPath := "", byteOffset := 16 }, { name := "B", type := 3, offset := 3, embedded := false, tag := "", pkgPath := "", byteOffset := 24 }, { name := "C", type := 3, offset := 4, embedded := false, tag := "", pkgPath := "", byteOffset := 32 }, { name := "Imm", type := 44, offset := 5, embedded := false, tag := "", pkgPath := "", byteOffset := 40 }] : Array Field)[j]? = some f → f.offset = j ∧ Try.prog.cellsOf f.type = 1 := hone_of (by kernel_rfl)
    have key : ∀ i, i < len → ∃ z : I6, ∃ b o, a = ⟨b, o, none⟩ ∧ A6 w b (o + i * 6) z := fun i hil => by
      have him : i < m := by rw [hmm]; simp; omega
      obtain ⟨cs', hc, ht'⟩ := hi i him
      rw [cells54] at hc
      obtain ⟨ys, n', _, _, hlen, hyl, hf⟩ := DataW.trod_struct Try.underlying54 ht'
      obtain ⟨_, hcl, hat⟩ := World.cells?_some hc
      rw [cells54] at hlen
      match cs', hlen with
      | [c0, c1, c2, c3, c4, c5], _ =>
        have g := fun (j : Nat) (f : Field) hj (hj6 : j < 6) => show ∃ y, DataW.trod enc Try.prog w base (fun _ => true) held n' f.type (([c0, c1, c2, c3, c4, c5].drop f.offset).take (Try.prog.cellsOf f.type)) = some y from
          ⟨_, (hf j f hj).trans (List.getElem?_eq_getElem (by have : ys.length = 6 := hyl; omega))⟩
        obtain ⟨y0, e0⟩ := g 0 _ rfl (by omega)
        obtain ⟨y1, e1⟩ := g 1 _ rfl (by omega)
        obtain ⟨y2, e2⟩ := g 2 _ rfl (by omega)
        obtain ⟨y3, e3⟩ := g 3 _ rfl (by omega)
        obtain ⟨y4, e4⟩ := g 4 _ rfl (by omega)
        obtain ⟨y5, e5⟩ := g 5 _ rfl (by omega)
        rw [(ho 0 _ rfl).2] at e0
        rw [(ho 1 _ rfl).2] at e1
        rw [(ho 2 _ rfl).2] at e2
        rw [(ho 3 _ rfl).2] at e3
        rw [(ho 4 _ rfl).2] at e4
        rw [(ho 5 _ rfl).2] at e5
        obtain ⟨z0, q0, -⟩ := DataW.trod_int u52 e0
        obtain ⟨z1, q1, -⟩ := DataW.trod_int Try.underlying3 e1
        obtain ⟨z2, q2, -⟩ := DataW.trod_int Try.underlying3 e2
        obtain ⟨z3, q3, -⟩ := DataW.trod_int Try.underlying3 e3
        obtain ⟨z4, q4, -⟩ := DataW.trod_int Try.underlying3 e4
        obtain ⟨z5, q5, -⟩ := DataW.trod_int u44 e5
        simp at q0 q1 q2 q3 q4 q5
        subst q0 q1 q2 q3 q4 q5
        have h0 := hat 0 (by omega)
        have h1 := hat 1 (by omega)
        have h2 := hat 2 (by omega)
        have h3 := hat 3 (by omega)
        have h4 := hat 4 (by omega)
        have h5 := hat 5 (by omega)
        obtain ⟨cz, hcz, -⟩ := hi 0 (by omega)
        rw [cells54] at hcz
        obtain ⟨_, hclz, hatz⟩ := World.cells?_some hcz
        have hz := hatz 0 (by omega)
        rw [List.getElem?_eq_getElem (by omega)] at hz
        obtain ⟨b, o, s⟩ := a
        have hs : s = none := by simpa [Addr.add] using World.cell?_spot hz
        subst hs
        refine ⟨⟨z0, z1, z2, z3, z4, z5⟩, b, o, rfl, ?_⟩
        simp only [add_plain] at h0 h1 h2 h3 h4 h5
        exact ⟨h0, h1, h2, h3, h4, h5⟩
    have key2 : ∀ i, ∃ z : I6, i < len → ∃ b o, a = ⟨b, o, none⟩ ∧ A6 w b (o + i * 6) z := fun i => by
      by_cases hil : i < len
      · obtain ⟨z, hz⟩ := key i hil
        exact ⟨z, fun _ => hz⟩
      · exact ⟨⟨0, 0, 0, 0, 0, 0⟩, fun h => absurd h hil⟩
    refine ⟨some a, cap, (List.range len).map fun i => (key2 i).choose, by simpa using hcs, fun h => by simp at h, by simpa using hl, fun k hk => ?_⟩
    obtain ⟨b, o, h1, h2⟩ := (key2 k).choose_spec (by simpa using hk)
    exact ⟨b, o, by rw [h1], by simpa using h2⟩
theorem open_out {fuel : Nat} {cs : List Value} {x : DataW H × List MemPlace} (h : DataW.trod enc Try.prog w base (fun _ => true) held fuel 23 cs = some x) :
    ∃ (p : Option Addr) (c : Nat) (l : List Int), cs = [.slice p l.length c] ∧ RO w p c l := by
  rcases open_ints Try.underlying23 Try.underlying3 cells3 h with ⟨hcs, _⟩ | ⟨a, len, cap, zs, hcs, _, hl, hm, hz, _, hcell, _⟩
  · exact ⟨none, 0, [], hcs, fun _ => rfl, by simp, fun k hk => by simp at hk⟩
  · have hz' : zs.length = cap := by simpa using hz
    refine ⟨some a, cap, zs.take len, by rw [hcs, List.length_take, Nat.min_eq_left (by omega)], fun h => by simp at h, by simp; omega, fun k hk => ?_⟩
    have hk' : k < len := by simp at hk; omega
    have hc := hcell k (by omega)
    have hc0 := hcell 0 (by omega)
    obtain ⟨b, o, s⟩ := a
    have hs : s = none := by simpa [Addr.add] using World.cell?_spot hc0
    subst hs
    rw [add_plain] at hc
    refine ⟨b, o, rfl, hc.trans ?_⟩
    simp [List.getElem_take, List.getElem?_eq_getElem (show k < zs.length by omega)]
theorem open_code {r : Reach} {b0 : Nat} {v : Value} {d : DataW H} {ps : List MemPlace} (hv : Value.okWide Try.prog w r b0 25 v) (h : DataW.Trod enc Try.prog w base (fun _ => true) held 25 v d ps) :
    ∃ (W R : Int) (p q : Option Addr) (pc qc : Nat) (ins : List I6) (out : List Int), v = .agg #[.int .i64 W, .int .i64 R, .slice p ins.length pc, .slice q out.length qc] ∧ RI w p pc ins ∧ RO w q qc out ∧ (Lit.int .i64 W).wf = true ∧ (Lit.int .i64 R).wf = true := by
  obtain ⟨v0, v1, v2, v3, y0, y1, y2, y3, n, rfl, rfl, rfl, h0, h1, h2, h3⟩ := open_agg4 Try.underlying25 (by kernel_rfl) cells25 hv h
  obtain ⟨W, e0, -, w0⟩ := DataW.trod_int Try.underlying3 h0
  obtain ⟨R, e1, -, w1⟩ := DataW.trod_int Try.underlying3 h1
  obtain ⟨p, pc, ins, e2, hi⟩ := open_ins h2
  obtain ⟨q, qc, out, e3, ho⟩ := open_out h3
  simp at e0 e1 e2 e3
  subst e0 e1 e2 e3
  exact ⟨W, R, p, q, pc, qc, ins, out, rfl, hi, ho, w0, w1⟩
theorem ints_array {n : Nat} {t : TypeId} {fuel : Nat} {cs : List Value} {x : DataW H × List MemPlace} (ht : Try.prog.underlying t = some (.array n 3)) (hc : Try.prog.cellsOf t = n) (h : DataW.trod enc Try.prog w base sp held fuel t cs = some x) : ∃ zs : List Int, zs.length = n ∧ cs = zs.map (Value.int .i64) ∧ ∀ z ∈ zs, (Lit.int .i64 z).wf = true := by
  obtain ⟨xs, m, _, _, hlen, _, hf⟩ := DataW.trod_array ht h
  rw [hc] at hlen
  have key : ∀ i, i < n → ∃ z : Int, cs[i]? = some (.int .i64 z) ∧ (Lit.int .i64 z).wf = true := fun i hi => by
    have h1 := hf i hi
    rw [cells3, List.getElem?_eq_getElem (by omega)] at h1
    obtain ⟨z, h2, _, hw⟩ := DataW.trod_int Try.underlying3 h1
    refine ⟨z, ?_, hw⟩
    have h3 := congrArg (fun l => l[0]?) h2
    simpa [List.getElem?_take, List.getElem?_drop] using h3
  have key2 : ∀ i, ∃ z : Int, i < n → cs[i]? = some (.int .i64 z) ∧ (Lit.int .i64 z).wf = true := fun i => by
    by_cases hi : i < n
    · obtain ⟨z, hz⟩ := key i hi
      exact ⟨z, fun _ => hz⟩
    · exact ⟨0, fun h => absurd h hi⟩
  refine ⟨(List.range n).map fun i => (key2 i).choose, by simp, ?_, ?_⟩
  · apply List.ext_getElem?
    intro i
    by_cases hi : i < n
    · rw [((key2 i).choose_spec hi).1]; simp [hi]
    · rw [List.getElem?_eq_none (by omega), List.getElem?_eq_none (by simp; omega)]
  · intro z hz
    simp only [List.mem_map, List.mem_range] at hz
    obtain ⟨i, hi, rfl⟩ := hz
    exact ((key2 i).choose_spec hi).2
theorem open_two {r : Reach} {b0 : Nat} {v : Value} {d : DataW H} {p : List MemPlace} (hv : Value.okWide Try.prog w r b0 41 v) (h : DataW.Trod enc Try.prog w base sp held 41 v d p) : ∃ a b : Int, v = .agg #[.int .i64 a, .int .i64 b] ∧ (Lit.int .i64 a).wf = true ∧ (Lit.int .i64 b).wf = true := by
  obtain ⟨cs, rfl, hsz⟩ := okWide_array Try.underlying41 hv
  obtain ⟨fuel, hf⟩ := h
  obtain ⟨zs, hl, he, hw⟩ := ints_array (cs := cs.toList) Try.underlying41 (by kernel_rfl) hf
  match zs, hl with
  | [a, b], _ => exact ⟨a, b, by rw [show cs = #[.int .i64 a, .int .i64 b] by cases cs; simp_all], hw a (by simp), hw b (by simp)⟩
end
end Go.Proofs.Ytjmmaaphadeokaa
