/- After any calls on disjoint sets all results follow from the operations that have not been undone; for every sequence of calls (longer than 30: the document's example only). -/
import Derived.Test.YtihoegihmgeenaaAI
import Derived.Test.YtihoegihmgeenaaAJ
namespace Go.Proofs.Ytihoegihmgeenaa.ufSets
open Go.ChangeShapes Go.WideShapes Go.ChangeAt Go.RowKit
set_option linter.unusedVariables false
theorem own : ownKnob Try.prog.godebug = none := by kernel_rfl
theorem laidOut : laidOutB Try.prog = true := by kernel_rfl
set_option maxHeartbeats 4000000 in
theorem walk_long (p : Option Addr) (n c : Nat) (w : World) (h : 30 < n) : Calls Try.prog 4 #[.slice p n c] w fun e w' => e = .returned (.bool true) ∧ Below w.heap.size w w' := by
  have hd : decide ((30 : Int) < (n : Int)) = true := by simp; omega
  have hi : (30 : Int) < (n : Int) := by omega
  go_enter Try.func4, Try.ntmps4
  go_wp2_with fail
  refine (new_any w.heap.size w (Nat.le_refl _)).mono ?_
  rintro e w1 ⟨rfl, _, hb⟩
  have Hb := Lib.hid hb
  clear hb
  go_wp2_with fail
  refine (lives_any w1).mono ?_
  rintro e w2 ⟨rfl, hb2⟩
  have Hb2 := Lib.hid hb2
  clear hb2
  go_wp2_with fail
  go_ret
  exact ⟨rfl, below_chain Hb.out Hb2.out⟩
set_option maxHeartbeats 4000000 in
theorem walk_short (v : Value) (ac : List AAct) (w : World) (ha : Acts w w.heap.size v ac) (h : ac.length ≤ 30) : Calls Try.prog 4 #[v] w fun e w' => e = .returned (.bool true) ∧ Below w.heap.size w w' := by
  obtain ⟨p, c, rfl⟩ := ha.shape
  have hd : decide ((30 : Int) < (ac.length : Int)) = false := by simp; omega
  have hi : ¬ (30 : Int) < (ac.length : Int) := by omega
  have HA := Lib.hid ha
  clear ha
  go_enter Try.func4, Try.ntmps4
  go_wp2_with fail
  refine (new_any w.heap.size w (Nat.le_refl _)).mono ?_
  rintro e w1 ⟨rfl, ⟨F, u⟩, hb⟩
  have Hb := Lib.hid hb
  have hrun := Lib.hid (run_any w.heap.size w.heap.size F _ ac w1 u (HA.out.below hb) (by omega))
  clear hb u
  go_wp2_with fail
  refine hrun.out.mono ?_
  rintro e w2 ⟨lv, l, h', F', rfl, k, hh, hb2⟩
  have Hb2 := Lib.hid hb2
  have hsz := Lib.hid k.u.base
  have hag := Lib.hid (agree_any _ _ h' F' lv l w2 k (by omega))
  clear k hb2
  go_wp2_with fail
  refine hag.out.mono ?_
  rintro e w4 ⟨rfl, hb4⟩
  have Hb4 := Lib.hid hb4
  clear hb4
  go_wp2_with fail
  refine (lives_any w4).mono ?_
  rintro e w3 ⟨rfl, hb3⟩
  have Hb3 := Lib.hid hb3
  clear hb3
  go_wp2_with fail
  go_ret
  exact ⟨rfl, (Hb.out.trans Hb2.out).trans (below_mono (below_chain Hb4.out Hb3.out) hsz.out)⟩
set_option maxRecDepth 100000 in
theorem lifted (os : Os) (started : os.Started) (H : Type) (enc : TypeId × Value → H) :
    ReturnsInHanded {} Try.checked os 4 .any (Rows.unionfindSetsSpec.pre6 enc Try.prog Try.f4 Rows.unionfindSetsRow.domain false) (Rows.unionfindSetsSpec.post enc Try.prog Try.f4 false true false false) := by
  refine returnsInHanded_of_change (C := Try.checked) own started (by kernel_rfl) Try.func4
    (ChangeSpec.witness6 (enc := enc) (C := Try.checked) false ⟨#[], #[.slice none 0 0], []⟩ 8 (by kernel_rfl) (by kernel_rfl) (by kernel_rfl) (by kernel_rfl)) ?_
  intro W base args ds gs before hval0 hW hcnd _
  have hval : ∀ (j : Nat) t v, Try.f4.params[j]? = some t → args[j]? = some v → Value.okWide Try.prog W .any base t v := hval0
  have hW' := hW
  obtain ⟨p, q, hA0, hV, rfl, hfz, hnd⟩ := hW
  have hA : DataW.TrodAll enc Try.prog W 0 (fun _ => true) true Try.f4.params.toList args.toList ds p := hA0
  rw [Try.params4] at hA hval
  obtain ⟨v0, vs0, d0, ds0, p0, q0, hargs, rfl, rfl, h0, r0⟩ := trodAll_cons hA
  obtain ⟨rfl, rfl, rfl⟩ := trodAll_nil r0
  obtain rfl : args = #[v0] := by cases args; simp_all
  obtain ⟨rfl, rfl⟩ := trodVars_none hV
  obtain ⟨a0, len0, cap0, rfl⟩ := okWide_slice Try.underlying22 (hval 0 22 v0 rfl rfl)
  have k0 := h0
  have lt0 : ∀ x ∈ p0, x.block < W.heap.size := by obtain ⟨m, hm⟩ := k0; exact DataW.trod_lt m _ _ _ hm
  obtain ⟨ac, w0⟩ : ∃ ac, Acts W W.heap.size (.slice a0 len0 cap0) ac := by
    obtain ⟨fuel, hf⟩ := h0
    exact acts_open hf
  clear hA0 hval0
  have hwalk : Calls Try.prog 4 #[.slice a0 len0 cap0] W fun e w' => e = .returned (.bool true) ∧ Below W.heap.size W w' := by
    by_cases hl : 30 < len0
    · exact walk_long a0 len0 cap0 W hl
    · have hlen : ac.length = len0 := by
        obtain ⟨p, c, e⟩ := w0.shape
        injection e with _ e2 _
        exact e2.symm
      exact walk_short _ ac W w0 (by omega)
  refine hwalk.mono fun e W' ⟨he, bel⟩ => ?_
  subst he
  exact ⟨_, rfl, _, _, _, [], _, [], hW', trodAll_mk1 (shut_bool Try.underlying4 _), (trodAll_cons_mk (Below.trod laidOut (by kernel_rfl) (of_decide_eq_true (by kernel_rfl)) k0 bel lt0) trodAll_mk0), rfl, bel.frame _, fun h => by cases h⟩
theorem over : Rows.unionfindSetsRow.holds Try.pinned (OpenSpec.ofChange Rows.unionfindSetsSpec) :=
  OpenClaim.holds_of_wide 4 Try.f4 rfl rfl rfl rfl rfl rfl rfl ⟨rfl, rfl, rfl, rfl, rfl⟩ rfl rfl rfl rfl rfl (by kernel_rfl) Try.func4 (by kernel_rfl)
    (of_decide_eq_true (by kernel_rfl)) (by unfold Func.isWrapper; first | (rw [if_pos (by decide +kernel)]; kernel_rfl) | (rw [if_neg (by decide +kernel)]; exact ⟨rfl, rfl⟩))
    (fun os started H enc _ => lifted os started H enc)
/-- The statement. -/
theorem proved : Rows.UnionfindSetsSaid := over
#print axioms proved
end Go.Proofs.Ytihoegihmgeenaa.ufSets
