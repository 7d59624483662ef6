/- A window put back changes nothing, and put back without its dead instructions it changes no final value of Out and adds no trap, for every program, window and all initial values (programs of more than 40 instructions or 20 results, or refused ones: the document's examples only). -/
import Derived.Test.YtjmmaaphadeokaaZN
import Derived.WalkKit
import Derived.ProofKit
import Derived.OpenShut
import Derived.ShutString
import Derived.ChangeOld
import Derived.Below
namespace Go.Proofs.Ytjmmaaphadeokaa.livePuts
open Go.ChangeShapes Go.WideShapes Go.ChangeAt Go.RowKit
set_option linter.unusedVariables false

theorem own : ownKnob Try.prog.godebug = none := by kernel_rfl
theorem laidOut : laidOutB Try.prog = true := by kernel_rfl
theorem bounds {n : Int} (h : (Lit.int .i64 n).wf = true) : -9223372036854775808 ≤ n ∧ n ≤ 9223372036854775807 := by
  simp [Lit.wf, IntKind.min, IntKind.max, IntKind.signed, IntKind.bits] at h
  omega

theorem walk (W R : Int) (p q : Option Addr) (pc qc : Nat) (ins : List I6) (out : List Int) (f n : Int) (s : List Int) (w : World) (hi : RI w p pc ins) (ho : RO w q qc out) (wf : (Lit.int .i64 f).wf = true) (wn : (Lit.int .i64 n).wf = true) (hs : s.length = 8) :
    Calls Try.prog 9 #[.agg #[.int .i64 W, .int .i64 R, .slice p ins.length pc, .slice q out.length qc], .agg #[.int .i64 f, .int .i64 n], .agg (ua s)] w fun e w' => e = .returned (.bool true) ∧ Below w.heap.size w w' := by
  by_cases h40 : ins.length ≤ 40
  · by_cases h : ins.length ≤ 300 ∧ out.length ≤ 20
    · by_cases hv : chkE W R ins out = 0
      · by_cases hx : 0 ≤ f ∧ 0 ≤ n ∧ f + n ≤ ins.length
        · obtain ⟨a, rfl⟩ : ∃ a : Nat, f = a := ⟨f.toNat, by omega⟩
          obtain ⟨b, rfl⟩ : ∃ b : Nat, n = b := ⟨n.toNat, by omega⟩
          exact plaw W R p q pc qc ins out a b s w hi ho h40 h.2 (chk_zero.1 hv) (by omega) hs
        · exact plaw_err W R p q pc qc ins out f n s w hi ho h40 h.2 (chk_zero.1 hv) (bounds wf).2 (bounds wn).2 hx
      · exact plaw_bad W R p q pc qc ins out f n s w hi ho h40 h.2 hv
    · exact plaw_heavy W R p q pc qc _ _ f n s w h40 (decide_eq_false h)
  · exact plaw_long W R p q pc qc _ _ f n s w (by omega)

set_option maxRecDepth 100000 in
theorem lifted (os : Os) (started : os.Started) (H : Type) (enc : TypeId × Value → H) :
    ReturnsInHanded {} Try.checked os 9 .any (Rows.livePutsSpec.pre6 enc Try.prog Try.f9 Rows.livePutsRow.domain false) (Rows.livePutsSpec.post enc Try.prog Try.f9 false true false false) := by
  refine returnsInHanded_of_change (C := Try.checked) own started (by kernel_rfl) Try.func9
    (ChangeSpec.witness6 (enc := enc) (C := Try.checked) false ⟨#[], #[.agg #[.int .i64 0, .int .i64 0, .slice none 0 0, .slice none 0 0], .agg #[.int .i64 0, .int .i64 0], .agg #[.int .u64 0, .int .u64 0, .int .u64 0, .int .u64 0, .int .u64 0, .int .u64 0, .int .u64 0, .int .u64 0]], []⟩ 8 (by kernel_rfl) (by kernel_rfl) (by kernel_rfl) (by kernel_rfl)) ?_
  intro W base args ds gs before hval0 hW hcnd _
  have hval : ∀ (j : Nat) t v, Try.f9.params[j]? = some t → args[j]? = some v → Value.okWide Try.prog W .any base t v := hval0
  have hW' := hW
  obtain ⟨p, q, hA0, hV, rfl, hfz, hnd⟩ := hW
  have hA : DataW.TrodAll enc Try.prog W 0 (fun _ => true) true Try.f9.params.toList args.toList ds p := hA0
  rw [Try.params9] at hA hval
  obtain ⟨v0, vs0, d0, ds0, p0, q0, hargs, rfl, rfl, h0, r0⟩ := trodAll_cons hA
  obtain ⟨v1, vs1, d1, ds1, p1, q1, rfl, rfl, rfl, h1, r1⟩ := trodAll_cons r0
  obtain ⟨v2, vs2, d2, ds2, p2, q2, rfl, rfl, rfl, h2, r2⟩ := trodAll_cons r1
  obtain ⟨rfl, rfl, rfl⟩ := trodAll_nil r2
  obtain rfl : args = #[v0, v1, v2] := by cases args; simp_all
  obtain ⟨rfl, rfl⟩ := trodVars_none hV
  have lt0 : ∀ x ∈ p0, x.block < W.heap.size := by obtain ⟨m, hm⟩ := h0; exact DataW.trod_lt m _ _ _ hm
  have lt1 : ∀ x ∈ p1, x.block < W.heap.size := by obtain ⟨m, hm⟩ := h1; exact DataW.trod_lt m _ _ _ hm
  have lt2 : ∀ x ∈ p2, x.block < W.heap.size := by obtain ⟨m, hm⟩ := h2; exact DataW.trod_lt m _ _ _ hm
  obtain ⟨Wa, Ra, pa, qa, pca, qca, insa, outa, rfl, hia, hoa, -, -⟩ := open_code (hval 0 25 v0 rfl rfl) h0
  obtain ⟨f, n, rfl, wf, wn⟩ := open_two (hval 1 41 v1 rfl rfl) h1
  obtain ⟨s, hs, rfl⟩ := open_regs (hval 2 45 v2 rfl rfl) h2
  clear hA0 hval0
  refine (walk Wa Ra pa qa pca qca insa outa f n s W hia hoa wf wn hs).mono fun e W' ⟨he, bel⟩ => ?_
  subst he
  exact ⟨_, rfl, _, _, _, [], _, [], hW', trodAll_mk1 (shut_bool Try.underlying4 _), (trodAll_cons_mk (Below.trod laidOut (by kernel_rfl) (of_decide_eq_true (by kernel_rfl)) h0 bel lt0) (trodAll_cons_mk (Below.trod laidOut (by kernel_rfl) (of_decide_eq_true (by kernel_rfl)) h1 bel lt1) (trodAll_cons_mk (Below.trod laidOut (by kernel_rfl) (of_decide_eq_true (by kernel_rfl)) h2 bel lt2) trodAll_mk0))), rfl, bel.frame _, fun h => by cases h⟩

theorem over : Rows.livePutsRow.holds Try.pinned (OpenSpec.ofChange Rows.livePutsSpec) :=
  OpenClaim.holds_of_wide 9 Try.f9 rfl rfl rfl rfl rfl rfl rfl ⟨rfl, rfl, rfl, rfl, rfl⟩ rfl rfl rfl rfl rfl (by kernel_rfl) Try.func9 (by kernel_rfl)
    (of_decide_eq_true (by kernel_rfl)) (by unfold Func.isWrapper; first | (rw [if_pos (by decide +kernel)]; kernel_rfl) | (rw [if_neg (by decide +kernel)]; exact ⟨rfl, rfl⟩))
    (fun os started H enc _ => lifted os started H enc)

/-- The statement. -/
theorem proved : Rows.LivePutsSaid := over
#print axioms proved
end Go.Proofs.Ytjmmaaphadeokaa.livePuts
