/- Width of package opinfo returns what the reference returns, for every operator number, width, value and list of widths of operands, and the examples of the document hold. No condition. -/
import Derived.Test.YtngmhgcnohgaiaaF
import Derived.WalkKit
import Derived.ProofKit
import Derived.OpenShut
import Derived.ChangeOld
import Derived.Below
import Derived.Lib.SmallJoins
namespace Go.Proofs.Ytngmhgcnohgaiaa.opinfoWidths
open Go.ChangeShapes Go.WideShapes Go.ChangeAt Go.RowKit Go.Joins
set_option linter.unusedVariables false
theorem own : ownKnob Try.prog.godebug = none := by kernel_rfl
theorem laidOut : laidOutB Try.prog = true := by kernel_rfl
theorem cells29 : Try.prog.cellsOf 29 = 4 := by kernel_rfl
set_option maxRecDepth 100000 in
theorem lifted (os : Os) (started : os.Started) (H : Type) (enc : TypeId × Value → H) :
    ReturnsInHanded {} Try.checked os 4 .any (Rows.opinfoWidthsSpec.pre6 enc Try.prog Try.f4 Rows.opinfoWidthsRow.domain false) (Rows.opinfoWidthsSpec.post enc Try.prog Try.f4 false true false false) := by
  refine returnsInHanded_of_change (C := Try.checked) own started (by kernel_rfl) Try.func4
    (ChangeSpec.witness6 (enc := enc) (C := Try.checked) false ⟨#[], #[.agg #[.int .i64 0, .int .i64 0, .int .u64 0, .slice none 0 0]], []⟩ 8 (by kernel_rfl) (by kernel_rfl) (by kernel_rfl) (by kernel_rfl)) ?_
  intro W base args ds gs before hval0 hW hcnd _
  have hval : ∀ (j : Nat) t v, Try.f4.params[j]? = some t → args[j]? = some v → Value.okWide Try.prog W .any base t v := hval0
  have hW' := hW
  obtain ⟨p, q, hA0, hV, rfl, hfz, hnd⟩ := hW
  have hA : DataW.TrodAll enc Try.prog W 0 (fun _ => true) true Try.f4.params.toList args.toList ds p := hA0
  rw [Try.params4] at hA hval
  obtain ⟨v0, vs0, d0, ds0, p0, q0, hargs, rfl, rfl, h0, r0⟩ := trodAll_cons hA
  obtain ⟨rfl, rfl, rfl⟩ := trodAll_nil r0
  obtain rfl : args = #[v0] := by cases args; simp_all
  obtain ⟨rfl, rfl⟩ := trodVars_none hV
  have k0 := h0
  have lt0 : ∀ x ∈ p0, x.block < W.heap.size := by obtain ⟨m, hm⟩ := k0; exact DataW.trod_lt m _ _ _ hm
  obtain ⟨op, x, v, sv, zs, rfl, hv0, hv1, hl, hs⟩ : ∃ (op x v : Int) (sv : Value) (zs : List Int), v0 = .agg #[.int .i64 op, .int .i64 x, .int .u64 v, sv] ∧ 0 ≤ v ∧ v < 18446744073709551616 ∧ zs.length ≤ 9223372036854775807 ∧ SlI W sv zs := by
    obtain ⟨c0, c1, c2, c3, y0, y1, y2, y3, n, rfl, _, _, g0, g1, g2, g3⟩ := open_agg4 Try.underlying29 (by kernel_rfl) cells29 (hval 0 29 v0 rfl rfl) h0
    obtain ⟨op, e0, _, _⟩ := DataW.trod_int Try.underlying22 g0
    obtain ⟨x, e1, _, _⟩ := DataW.trod_int Try.underlying3 g1
    obtain ⟨v, e2, _, wv⟩ := DataW.trod_int Try.underlying26 g2
    simp at e0 e1 e2
    subst e0 e1 e2
    have hb : 0 ≤ v ∧ v < 18446744073709551616 := by have := bounds_u64 wv; omega
    rcases open_ints Try.underlying27 Try.underlying3 (by kernel_rfl) g3 with ⟨hcs, _⟩ | ⟨a, l, c, zs, hcs, _, hl, hm, hz, _, hcell, hwz⟩
    · simp at hcs
      exact ⟨op, x, v, c3, [], rfl, hb.1, hb.2, by simp, Or.inl ⟨none, 0, hcs, rfl⟩⟩
    · simp at hcs
      unfold maxLen at hm
      have hzl : l ≤ zs.length := by rw [hz]; split <;> omega
      by_cases h00 : l = 0
      · subst h00
        exact ⟨op, x, v, c3, [], rfl, hb.1, hb.2, by simp, Or.inl ⟨_, _, hcs, rfl⟩⟩
      · obtain ⟨b, off, rfl, hc⟩ := ints_at hcell (by omega)
        have hlen : (zs.take l).length = l := by simp; omega
        refine ⟨op, x, v, c3, zs.take l, rfl, hb.1, hb.2, by omega, Or.inr ⟨b, off, c, by rw [hlen]; exact hcs, fun k hk => ?_⟩⟩
        rw [hc k (by omega)]
        simp [List.getD_eq_getElem?_getD, show k < l by omega]
  clear hA0 hval0
  have hfit : fitB v 64 = true := by unfold fitB; apply decide_eq_true; show v < 18446744073709551616; omega
  refine (widths_walk op x v sv zs W hv0 hfit hl hs).mono fun e W' ⟨he, hu⟩ => ?_
  have bel := hu.b
  subst he
  exact ⟨_, rfl, _, _, _, [], _, [], hW', trodAll_mk1 (shut_bool Try.underlying4 _), (trodAll_cons_mk (Below.trod laidOut (by kernel_rfl) (of_decide_eq_true (by kernel_rfl)) k0 bel lt0) trodAll_mk0), rfl, bel.frame _, fun h => by cases h⟩
theorem over : Rows.opinfoWidthsRow.holds Try.pinned (OpenSpec.ofChange Rows.opinfoWidthsSpec) :=
  OpenClaim.holds_of_wide 4 Try.f4 rfl rfl rfl rfl rfl rfl rfl ⟨rfl, rfl, rfl, rfl, rfl⟩ rfl rfl rfl rfl rfl (by kernel_rfl) Try.func4 (by kernel_rfl)
    (of_decide_eq_true (by kernel_rfl)) (by unfold Func.isWrapper; first | (rw [if_pos (by decide +kernel)]; kernel_rfl) | (rw [if_neg (by decide +kernel)]; exact ⟨rfl, rfl⟩))
    (fun os started H enc _ => lifted os started H enc)
/-- The statement. -/
theorem proved : Rows.OpinfoWidthsSaid := over
#print axioms proved
end Go.Proofs.Ytngmhgcnohgaiaa.opinfoWidths
