/- The map of the tree of links has no more entries than there are links. -/
import Derived.Test.YtpnjmkmobdaefaaC
namespace Go.Proofs.Ytpnjmkmobdaefaa
open Go.RowKit Go.Maps Go.WideElems
set_option linter.unusedVariables false
set_option linter.unusedSimpArgs false
theorem key_int {v : Value} {l : Lit} (h : keyOf Try.prog 3 v = some l) : ∃ x, l = .int .i64 x := by
  have h : mapKey Try.prog 3 v = some l := by
    rw [← h]; simp [keyOf, Try.underlying3]
  cases v <;> simp [mapKey, Try.underlying3] at h
  obtain ⟨_, rfl⟩ := h
  exact ⟨_, rfl⟩
theorem any_sorted {H : Type} (f : Lit × DataW H → Bool) : ∀ (E : List (Lit × DataW H)), (E.foldr DataW.insert []).any f = E.any f
  | [] => rfl
  | x :: E => by rw [List.foldr_cons, any_insert, any_sorted f E]; rfl
theorem nodup_keys {M : List L3} {up : Int → Option Nat} {h : Option Nat} (u : UH M up h) : ∀ (E : List (Lit × DataW Unit)), E.Pairwise (fun p q => p.1 ≠ q.1) → (∀ p ∈ E, ∃ x j, p.1 = .int .i64 x ∧ up x = some j) → ∃ l : List Nat, l.length = E.length ∧ l.Nodup ∧ ∀ j ∈ l, j < M.length ∧ ∃ p ∈ E, ∃ x, p.1 = .int .i64 x ∧ up x = some j
  | [], _, _ => ⟨[], rfl, List.nodup_nil, fun j hj => (by cases hj)⟩
  | p :: E, hp, hE => by
    rw [List.pairwise_cons] at hp
    obtain ⟨l, h1, h2, h3⟩ := nodup_keys u E hp.2 (fun q hq => hE q (List.mem_cons_of_mem _ hq))
    obtain ⟨x, j, e1, e2⟩ := hE p List.mem_cons_self
    have hj : j < M.length := by
      obtain ⟨m, e, _⟩ := u.ends x j e2
      exact (List.getElem?_eq_some_iff.1 e).1
    refine ⟨j :: l, by simp [h1], List.nodup_cons.2 ⟨fun hm => ?_, h2⟩, fun i hi => ?_⟩
    · obtain ⟨_, q, hq, y, f1, f2⟩ := h3 j hm
      have := up_inj u e2 f2
      subst this
      exact hp.1 q hq (by rw [e1, f1])
    · rcases List.mem_cons.1 hi with rfl | hi
      · exact ⟨hj, p, List.mem_cons_self, x, e1, e2⟩
      · obtain ⟨a, q, hq, y, f⟩ := h3 i hi
        exact ⟨a, q, List.mem_cons_of_mem _ hq, y, f⟩
theorem mp_norm {w : World} {b N : Nat} {up : Int → Option Nat} {M : List L3} {h : Option Nat} (hm : MP w b N (upI up)) (u : UH M up h) : MP w b M.length (upI up) := by
  obtain ⟨D, ⟨es, cl, hb, F, hs, rfl⟩, rd⟩ := hm
  refine ⟨_, ⟨es, cl, hb, F, ?_, rfl⟩, rd⟩
  have hk := fit_keys F
  have ha := fit_apart keyLaw F
  have hl : (es.toList.map (rg Try.prog 3 (plainElem (H := Unit) Try.prog 3))).length = es.size := by simp
  rw [← hl]
  generalize es.toList.map (rg Try.prog 3 (plainElem (H := Unit) Try.prog 3)) = E at *
  obtain ⟨l, h1, h2, h3⟩ := nodup_keys u E ha (fun p hp => by
    obtain ⟨v, hv⟩ := hk p hp
    obtain ⟨x, hx⟩ := key_int hv
    have hh := (rd.2 x).1
    rw [has_eq, any_sorted] at hh
    have : E.any (fun p => p.1.sameKey (.int .i64 x)) = true := List.any_eq_true.2 ⟨p, hp, by rw [hx]; simp [Lit.sameKey]⟩
    rw [this] at hh
    unfold upI at hh
    cases e : up x with
    | none => rw [e] at hh; simp at hh
    | some j => exact ⟨x, j, hx, e⟩)
  rw [← h1]
  exact pigeon _ l h2 (fun k hk => (h3 k hk).1)
theorem FB.norm {w : World} {B : Nat} {o : FO} {M : List L3} {N N' : Nat} {h : Option Nat} (f : FB w B o M N) (u : UH M o.up h) (h1 : M.length ≤ N') (h2 : MP w o.mo N' o.ov) (h3 : MP w o.mb N' o.bl) : FB w B o M N' :=
  ⟨f.blk, f.links, f.lost, (mp_norm f.mup u).mono h1, h2, h3, f.n1, f.n2, f.n3, f.l0, f.l1, f.l2, f.l3, f.ok, f.okc⟩
end Go.Proofs.Ytpnjmkmobdaefaa
