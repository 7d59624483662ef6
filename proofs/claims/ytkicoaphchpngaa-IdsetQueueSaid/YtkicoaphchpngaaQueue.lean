/- A work list returns the specified results for every sequence of operations (longer than 300: the document's examples only). -/
import Derived.Test.YtkicoaphchpngaaAH
import Derived.WalkKit
import Derived.ProofKit
import Derived.OpenShut
import Derived.ShutString
import Derived.ChangeOld
import Derived.Below
import Derived.Deep.Slices
import Derived.ChangeSame
namespace Go.Proofs.Ytkicoaphchpngaa.idsetQueue
open Go.ChangeShapes Go.WideShapes Go.ChangeAt Go.RowKit Go.Deep
set_option linter.unusedVariables false
set_option linter.unusedSimpArgs false
theorem own : ownKnob Try.prog.godebug = none := by kernel_rfl
theorem laidOut : laidOutB Try.prog = true := by kernel_rfl
theorem cells3 : Try.prog.cellsOf 3 = 1 := by kernel_rfl
theorem cells37 : Try.prog.cellsOf 37 = 2 := by kernel_rfl
section
variable {H : Type} {enc : TypeId × Value → H} {w : World} {base : Nat} {spare : Nat → Bool} {held : Bool}
theorem act_open {n : Nat} {cs : List Value} {x : DataW H × List MemPlace} (h : DataW.trod enc Try.prog w base spare held n 37 cs = some x) : ∃ a b : Int, cs = [.int .i64 a, .int .i64 b] ∧ (Lit.int .i64 b).wf = true := by
  obtain ⟨fs, hfs, hof⟩ : ∃ fs, Try.prog.underlying 37 = some (.struct fs) ∧ fs.map (fun f => (f.offset, f.type)) = #[(0, 3), (1, 3)] := ⟨_, Try.underlying37, by simp⟩
  obtain ⟨xs, m, _, _, hlen, hxl, hf⟩ := DataW.trod_struct hfs h
  rw [cells37] at hlen
  match cs, hlen with
  | [c0, c1], _ =>
    have hsz : fs.size = 2 := by have := congrArg Array.size hof; simpa using this
    have get : ∀ i, i < 2 → ∃ f, fs[i]? = some f ∧ f.offset = i ∧ f.type = 3 := by
      intro i hi
      have hi' : i < fs.size := by omega
      have e := congrArg (fun l => l[i]?) hof
      simp only [Array.getElem?_map, Array.getElem?_eq_getElem hi', Option.map_some] at e
      refine ⟨fs[i], Array.getElem?_eq_getElem hi', ?_⟩
      match i, hi with
      | 0, _ => simp at e; exact e
      | 1, _ => simp at e; exact e
    have val : ∀ i (hi : i < 2), ∃ v, ([c0, c1].drop i).take 1 = [v] ∧ ∃ k : Int, v = .int .i64 k ∧ (Lit.int .i64 k).wf = true := by
      intro i hi
      obtain ⟨f, h1, h2, h3⟩ := get i hi
      have h4 := hf i f h1
      rw [h2, h3, cells3] at h4
      have hxi : xs[i]? = some (xs[i]'(by omega)) := List.getElem?_eq_getElem (by omega)
      rw [hxi] at h4
      obtain ⟨k, h5, _, hw⟩ := DataW.trod_int Try.underlying3 h4
      exact ⟨_, h5, k, rfl, hw⟩
    obtain ⟨v0, e0, k0, rfl, _⟩ := val 0 (by omega)
    obtain ⟨v1, e1, k1, rfl, w1⟩ := val 1 (by omega)
    simp at e0 e1
    exact ⟨k0, k1, by rw [e0, e1], w1⟩
theorem acts_open {fuel : Nat} {v : Value} {x : DataW H × List MemPlace} (h : DataW.trod enc Try.prog w base (fun _ => true) held fuel 33 [v] = some x) : ∃ ac, QOps w w.heap.size v ac := by
  rcases open_slice Try.underlying33 h with ⟨h0, _⟩ | ⟨a, len, cap, m, n, D, Pl, hcs, hb, hl, hm, hmm, hx, hi⟩
  · exact ⟨[], .inl ⟨none, 0, by simpa using h0, rfl⟩⟩
  · simp only [List.cons.injEq, and_true] at hcs
    subst hcs
    by_cases h0 : len = 0
    · subst h0; exact ⟨[], .inl ⟨_, cap, rfl, rfl⟩⟩
    · simp at hmm
      subst hmm
      have key : ∀ i, i < len → ∃ p q : Int, w.cell? (a.add (i * 2)) = some (.int .i64 p) ∧ w.cell? ((a.add (i * 2)).add 1) = some (.int .i64 q) ∧ (Lit.int .i64 q).wf = true := by
        intro i hil
        obtain ⟨cs', hc, ht⟩ := hi i (by omega)
        rw [cells37] at hc
        obtain ⟨p, q, rfl, hw⟩ := act_open ht
        obtain ⟨_, _, hat⟩ := World.cells?_some hc
        have a0 := hat 0 (by omega)
        have a1 := hat 1 (by omega)
        exact ⟨p, q, by simpa [Addr.add] using a0, by simpa using a1, hw⟩
      obtain ⟨p0, q0, c0, _⟩ := key 0 (by omega)
      have e0 : a.add (0 * 2) = a := by simp [Addr.add]
      rw [e0] at c0
      obtain ⟨b, off, sp⟩ := a
      have hsp : sp = none := by
        cases sp with
        | none => rfl
        | some s => exfalso; unfold World.cell? at c0; split at c0 <;> simp at c0
      subst hsp
      have hadd : ∀ j, (⟨b, off, none⟩ : Addr).add j = ⟨b, off + j, none⟩ := fun j => Go.WideShapes.add_plain _ _ _
      have hadd2 : ∀ o j, (⟨b, o, none⟩ : Addr).add j = ⟨b, o + j, none⟩ := fun o j => Go.WideShapes.add_plain _ _ _
      have key2 : ∀ i, ∃ act : QOp, i < len → w.cell? ⟨b, off + i * 2, none⟩ = some (.int .i64 act.1) ∧ w.cell? ⟨b, off + i * 2 + 1, none⟩ = some (.int .i64 act.2) ∧ (Lit.int .i64 act.2).wf = true := by
        intro i
        by_cases hil : i < len
        · obtain ⟨p, q, h1, h2, h3⟩ := key i hil
          rw [hadd] at h1
          rw [hadd, hadd2] at h2
          exact ⟨(p, q), fun _ => ⟨h1, h2, h3⟩⟩
        · exact ⟨(0, 0), fun h => absurd h hil⟩
      refine ⟨(List.range len).map (fun i => (key2 i).choose), .inr ⟨b, off, _, by simp; rfl, by simp; omega, World.block_lt_of_cell? w _ c0, fun k hk => ?_⟩⟩
      simp at hk
      have hg : ((List.range len).map (fun i => (key2 i).choose)).getD k (0, 0) = (key2 k).choose := by simp [List.getD_eq_getElem?_getD, hk]
      rw [hg]
      exact (key2 k).choose_spec hk
end
set_option maxRecDepth 100000 in
theorem lifted (os : Os) (started : os.Started) (H : Type) (enc : TypeId × Value → H) :
    ReturnsInHanded {} Try.checked os 6 .any (Rows.idsetQueueSpec.pre6 enc Try.prog Try.f6 Rows.idsetQueueRow.domain false) (Rows.idsetQueueSpec.post enc Try.prog Try.f6 false true false false) := by
  refine returnsInHanded_of_change (C := Try.checked) own started (by kernel_rfl) Try.func6
    (ChangeSpec.witness6 (enc := enc) (C := Try.checked) false ⟨#[], #[.slice none 0 0], []⟩ 8 (by kernel_rfl) (by kernel_rfl) (by kernel_rfl) (by kernel_rfl)) ?_
  intro W base args ds gs before hval0 hW hcnd _
  have hval : ∀ (j : Nat) t v, Try.f6.params[j]? = some t → args[j]? = some v → Value.okWide Try.prog W .any base t v := hval0
  have hW' := hW
  obtain ⟨p, q, hA0, hV, rfl, hfz, hnd⟩ := hW
  have hA : DataW.TrodAll enc Try.prog W 0 (fun _ => true) true Try.f6.params.toList args.toList ds p := hA0
  rw [Try.params6] at hA hval
  obtain ⟨v0, vs0, d0, ds0, p0, q0, hargs, rfl, rfl, h0, r0⟩ := trodAll_cons hA
  obtain ⟨rfl, rfl, rfl⟩ := trodAll_nil r0
  obtain rfl : args = #[v0] := by cases args; simp_all
  obtain ⟨rfl, rfl⟩ := trodVars_none hV
  obtain ⟨a0, len0, cap0, rfl⟩ := okWide_slice Try.underlying33 (hval 0 33 v0 rfl rfl)
  have k0 := h0
  have lt0 : ∀ x ∈ p0, x.block < W.heap.size := by obtain ⟨m, hm⟩ := k0; exact DataW.trod_lt m _ _ _ hm
  obtain ⟨ac, w0⟩ : ∃ ac, QOps W W.heap.size (.slice a0 len0 cap0) ac := by
    obtain ⟨fuel, hf⟩ := h0
    exact acts_open hf
  clear hA0 hval0
  have hwalk : Calls Try.prog 6 #[.slice a0 len0 cap0] W fun e w' => e = .returned (.bool true) ∧ Below W.heap.size W w' := by
    by_cases hl : 300 < len0
    · exact queue_long a0 len0 cap0 W hl
    · have hlen : ac.length = len0 := by
        obtain ⟨p, c, e⟩ := w0.shape
        injection e with _ e2 _
        exact e2.symm
      exact queue_short _ ac W w0 (by omega)
  refine hwalk.mono fun e W' ⟨he, bel⟩ => ?_
  subst he
  exact ⟨_, rfl, _, _, _, [], _, [], hW', trodAll_mk1 (shut_bool Try.underlying4 _), (trodAll_cons_mk (Below.trod laidOut (by kernel_rfl) (of_decide_eq_true (by kernel_rfl)) k0 bel lt0) trodAll_mk0), rfl, bel.frame _, fun h => by cases h⟩
theorem over : Rows.idsetQueueRow.holds Try.pinned (OpenSpec.ofChange Rows.idsetQueueSpec) :=
  OpenClaim.holds_of_wide 6 Try.f6 rfl rfl rfl rfl rfl rfl rfl ⟨rfl, rfl, rfl, rfl, rfl⟩ rfl rfl rfl rfl rfl (by kernel_rfl) Try.func6 (by kernel_rfl)
    (of_decide_eq_true (by kernel_rfl)) (by unfold Func.isWrapper; first | (rw [if_pos (by decide +kernel)]; kernel_rfl) | (rw [if_neg (by decide +kernel)]; exact ⟨rfl, rfl⟩))
    (fun os started H enc _ => lifted os started H enc)
/-- The statement. -/
theorem proved : Rows.IdsetQueueSaid := over
#print axioms proved
end Go.Proofs.Ytkicoaphchpngaa.idsetQueue
