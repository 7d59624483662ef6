/- What the rows' list of variables gives: the table of kinds stands in block 0. -/
import Derived.Test.YtnlpiaejfmdckaaDoorCards
import Derived.Test.YtnlpiaejfmdckaaDoorTie
import Derived.Test.YtnlpiaejfmdckaaDoorO
import Derived.WalkKit
import Derived.ProofKit
import Derived.OpenShut
import Derived.ChangeOld
import Derived.Below
import Derived.Deep.DeepHandedRow
import Derived.Lib.LaidTab
namespace Go.Proofs.YtnlpiaejfmdckaaDoor
open Go.ChangeShapes Go.WideShapes Go.ChangeAt Go.RowKit
set_option linter.unusedVariables false
theorem own : ownKnob Tryd.prog.godebug = none := by kernel_rfl
theorem laidOut : laidOutB Tryd.prog = true := by kernel_rfl
theorem gTab : Tryd.prog.globalNamed "saturate/proof.kinds" = some 0 := by kernel_rfl
theorem gTabType : (Tryd.prog.globals[0]?).map (·.type) = some 50 := by kernel_rfl
theorem cells50 : Tryd.prog.cellsOf 50 = 39 := by kernel_rfl
theorem cells49 : Tryd.prog.cellsOf 49 = 3 := by kernel_rfl
theorem cells9' : Tryd.prog.cellsOf 9 = 1 := by kernel_rfl
theorem cells3' : Tryd.prog.cellsOf 3 = 1 := by kernel_rfl
/-- one row of the table, as the list has it -/
def rowK (H : Type) (i : Nat) : DataW H := .agg [.lit (.string (nmK i).data.toList), .lit (.int .i64 (lsK i)), .lit (.int .i64 (msK i))]
theorem laid_eq : (Rows.laid_saturate_proof_kinds : DataW Unit) = .agg ((List.range 13).map (rowK Unit)) := by kernel_rfl
set_option maxRecDepth 10000 in
theorem row_cells {enc : TypeId × Value → Unit} {w : World} {base : Nat} {sp : Nat → Bool} {held : Bool} {fuel i : Nat} {cs : List Value} {y : DataW Unit × List MemPlace}
    (h : DataW.trod enc Tryd.prog w base sp held fuel 49 cs = some y) (hy : y.1 = rowK Unit i) : cs = [.string (nmK i), .int .i64 (lsK i), .int .i64 (msK i)] := by
  obtain ⟨ys, m, _, rfl, hl, hyl, hf⟩ := DataW.trod_struct Tryd.underlying49 h
  rw [cells49] at hl
  match cs, hl with
  | [c0, c1, c2], _ =>
  match ys, hyl with
  | [y0, y1, y2], _ =>
    have h0 : DataW.trod enc Tryd.prog w base sp held m 9 (([c0, c1, c2].drop 0).take (Tryd.prog.cellsOf 9)) = some y0 := hf 0 _ rfl
    have h1 : DataW.trod enc Tryd.prog w base sp held m 3 (([c0, c1, c2].drop 1).take (Tryd.prog.cellsOf 3)) = some y1 := hf 1 _ rfl
    have h2 : DataW.trod enc Tryd.prog w base sp held m 3 (([c0, c1, c2].drop 2).take (Tryd.prog.cellsOf 3)) = some y2 := hf 2 _ rfl
    rw [cells9'] at h0
    rw [cells3'] at h1 h2
    obtain ⟨s, e0, f0, _⟩ := DataW.trod_string Tryd.underlying9 (x := y0) h0
    obtain ⟨a, e1, f1, _⟩ := DataW.trod_int Tryd.underlying3 (x := y1) h1
    obtain ⟨b, e2, f2, _⟩ := DataW.trod_int Tryd.underlying3 (x := y2) h2
    simp at e0 e1 e2
    subst f0 f1 f2 e0 e1 e2
    simp only [rowK, List.map_cons, List.map_nil, DataW.agg.injEq, List.cons.injEq, DataW.lit.injEq, Lit.string.injEq, Lit.int.injEq, true_and, and_true] at hy
    obtain ⟨g0, g1, g2⟩ := hy
    rw [show s = nmK i from ByteArray.ext (Array.ext' g0), g1, g2]
theorem tab_cells {enc : TypeId × Value → Unit} {w : World} {base : Nat} {sp : Nat → Bool} {held : Bool} {fuel : Nat} {cs : List Value} {p : List MemPlace}
    (h : DataW.trod enc Tryd.prog w base sp held fuel 50 cs = some (Rows.laid_saturate_proof_kinds, p)) (i : Nat) (hi : i < 13) : (cs.drop (i * 3)).take 3 = [.string (nmK i), .int .i64 (lsK i), .int .i64 (msK i)] := by
  obtain ⟨xs, m, _, hx, hl, hxl, hf⟩ := DataW.trod_array Tryd.underlying50 h
  rw [laid_eq] at hx
  have hxs : xs.map (·.1) = (List.range 13).map (rowK Unit) := by
    have := congrArg Prod.fst hx
    simp only [DataW.agg.injEq] at this
    exact this.symm
  have h1 := hf i hi
  rw [cells49, List.getElem?_eq_getElem (by omega)] at h1
  refine row_cells h1 ?_
  have h2 := congrArg (·[i]?) hxs
  simp only [List.getElem?_map, List.getElem?_eq_getElem (show i < xs.length by omega), Option.map_some] at h2
  rw [List.getElem?_eq_getElem (by simp; exact hi)] at h2
  simpa using h2
theorem tb_of {W : World} (h : laidMet Tryd.prog [("saturate/proof.kinds", Rows.laid_saturate_proof_kinds)] W) : Tb W := by
  obtain ⟨ps, ⟨g', t', cs, fuel, p, q, hg', ht', hvar, hd, _, _⟩, _⟩ := h
  obtain rfl := Option.some.inj (gTab.symm.trans hg')
  obtain rfl := Option.some.inj (gTabType.symm.trans ht')
  intro n hn
  have hc := tab_cells hd n hn
  have hv := World.var?_cell gTab hvar
  have key : ∀ j v, ([.string (nmK n), .int .i64 (lsK n), .int .i64 (msK n)] : List Value)[j]? = some v → W.cell? ⟨0, n * 3 + j, none⟩ = some v := fun j v hj => by
    have hj3 : j < 3 := by
      have := (List.getElem?_eq_some_iff.1 hj).1
      simpa using this
    rw [hv]
    rw [← hc, List.getElem?_take, if_pos hj3, List.getElem?_drop] at hj
    simpa using hj
  exact ⟨by simpa using key 0 _ rfl, key 1 _ rfl, key 2 _ rfl⟩
/-- a world for the witness: the settled one, the table in block 0 -/
noncomputable def laidWorld (os : Os) : World :=
  { World.holding Tryd.prog os ⟨#[], #[], []⟩ with heap := (World.holding Tryd.prog os ⟨#[], #[], []⟩).heap.modify 0 fun
      | .cells _ t frozen => .cells #[.string ⟨#[]⟩, .int .i64 0, .int .i64 0, .string ⟨#[114, 101, 102, 108]⟩, .int .i64 0, .int .i64 0, .string ⟨#[115, 121, 109]⟩, .int .i64 1, .int .i64 1, .string ⟨#[116, 114, 97, 110, 115]⟩, .int .i64 2, .int .i64 2, .string ⟨#[99, 111, 110, 103]⟩, .int .i64 0, .int .i64 3, .string ⟨#[114, 117, 108, 101]⟩, .int .i64 0, .int .i64 12, .string ⟨#[102, 111, 108, 100]⟩, .int .i64 0, .int .i64 0, .string ⟨#[116, 111, 112]⟩, .int .i64 0, .int .i64 0, .string ⟨#[110, 111, 100, 101]⟩, .int .i64 0, .int .i64 3, .string ⟨#[109, 101, 101, 116]⟩, .int .i64 2, .int .i64 2, .string ⟨#[109, 111, 118, 101]⟩, .int .i64 2, .int .i64 2, .string ⟨#[115, 105, 110, 103, 108, 101]⟩, .int .i64 1, .int .i64 1, .string ⟨#[103, 105, 118, 101, 110]⟩, .int .i64 0, .int .i64 0] t frozen
      | o => o }
end Go.Proofs.YtnlpiaejfmdckaaDoor
