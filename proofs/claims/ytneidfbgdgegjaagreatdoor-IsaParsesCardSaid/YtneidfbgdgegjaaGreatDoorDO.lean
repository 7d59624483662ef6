/- A range over an iterator that keeps a variable of its own: a law of the caller's side. -/
import Derived.Test.YtneidfbgdgegjaaGreatDoorDA
import Derived.RangeFuncNested
import Derived.RangeFuncBox
import Derived.RangeFuncLeaves
import Derived.RangeFuncCalls
import Derived.Shelf.Abstract
import Derived.OwnWalkIn
import Derived.TacticsInMore
import Derived.LoopNIn
import Derived.LoopIn
namespace Go.Proofs.YtneidfbgdgegjaaGreatDoor
open Go.RowKit Go.Shelf
set_option linter.unusedVariables false
set_option linter.unusedSimpArgs false
/-- an iterator's word, for invariants that bear the steps St which it takes by itself -/
def SeqSt {α : Type} (F : Fence) (n : Nat) (P : Program) (gf : Nat) (lb : Array Value) (encs : α → Array Value) (Kp St : World → World → Prop) (S Sp : List α → Prop) (N : Nat) (w : World) : Prop :=
  ∀ (l : Nat) (J Jx : List α → World → Prop) (W : World), Below w.heap.size w W → (∀ pre A B, J pre A → St A B → J pre B) →
    (∀ pre x A, J pre A → pre.length < N → YieldAt F (n - 1) P l (encs x) A fun e B => (e = .returned (.bool true) ∧ J (pre ++ [x]) B ∧ Kp A B) ∨ (e = .returned (.bool false) ∧ Jx (pre ++ [x]) B)) →
    J [] W → CallsIn F n P gf (#[.func (.yield l) #[] #[]] ++ lb) W fun e B => (∃ v, e = .returned v) ∧ ((∃ xs, S xs ∧ J xs B) ∨ (∃ pre, Sp pre ∧ Jx pre B))
section
variable {α : Type} {F : Fence} {n : Nat} {P : Program} {g : Operand} {ps : Array Tmp} {assign body : Code} {Q : Exit → Act → World → Prop} {a : Act} {w : World}
theorem rf_law (hro : F.round = none) (h1 : 1 ≤ n) {gf : Nat} {lb : Array Value} (hg : a.eval g = .func (.func gf) #[] lb) (hFg : F.fn gf) (eg : ∀ args w, (callFunc gf args).run P w = .ok (.enter gf args) w)
    {encs : α → Array Value} {Kp St : World → World → Prop} {S Sp : List α → Prop} {N : Nat} (hseq : SeqSt F (n - 1) P gf lb encs Kp St S Sp N w)
    (hKt : ∀ {A B C : World}, Kp A B → Kp B C → Kp A C) (hKb : ∀ (W : World) (l : Nat) (o : Obj), w.heap.size ≤ l → Kp W (W.putObj l o)) (hps : ∀ x, (encs x).size = ps.size)
    (hSt : ∀ A B, St A B → ∀ k o, w.heap.size ≤ k → A.heap[k]? = some o → B.heap[k]? = some o)
    (I : List α → World → Prop) (Ix : List α → World → Prop) (hI : OwnFrom w.heap.size I) (hIx : OwnFrom w.heap.size Ix) (hIs : ∀ pre A B, I pre A → St A B → I pre B) (h0 : I [] w) (a₁ : α → Act)
    (hassign : ∀ (l : Nat) (x : α) (W : World) (K : Act → World → Prop), K (a₁ x) W → assign.wpIn (F.inRound l) (n - 1 - 1) P (Exit.then K (fun _ _ _ => False)) { tmps := (ps.zip (encs x)).foldl (fun t (p, v) => t.setIfInBounds p v) a.tmps, defers := [] } W)
    (hbody : ∀ (l : Nat) (pre : List α) (x : α) (W : World), w.heap.size ≤ l → l < W.heap.size → I pre W → pre.length < N → body.wpIn (F.inRound l) (n - 1 - 1) P (ownPostG w.heap.size Kp I (fun c pre W => c = .ret ∧ Ix pre W) (pre ++ [x]) W) (a₁ x) W)
    (hdone : ∀ (D : Nat) (xs : List α) (W : World), w.heap.size ≤ D → S xs → I xs W → W.heap[D]? = some (.deferred (some [])) → Q .normal { a with defers := { target := .collected D, args := #[] } :: a.defers } W)
    (hstop : ∀ (D : Nat) (pre : List α) (W : World), w.heap.size ≤ D → Sp pre → Ix pre W → W.heap[D]? = some (.deferred (some [])) → Code.ret.wpIn F n P Q { a with defers := { target := .collected D, args := #[] } :: a.defers } W) :
    (Code.rangeFunc g ps assign body).wpIn F n P Q a w := by
  refine wpIn_rangeFunc fun fn hfn => ?_
  rw [hro]
  -- the loop's record, and the two blocks of book-keeping
  let R : LoopState → Option Code → Loop := fun st pe => { state := st, pending := pe, fn, tmps := a.tmps, params := ps, assign, body, defers := w.heap.size }
  have eD : ((w.alloc (.deferred (some []))).alloc (.loop (R .ready none))).heap[w.heap.size]? = some (.deferred (some [])) := (heap_alloc_old _ _ (by simp)).trans (heap_alloc_new w _)
  have eL : ((w.alloc (.deferred (some []))).alloc (.loop (R .ready none))).heap[w.heap.size + 1]? = some (.loop (R .ready none)) := by
    have := heap_alloc_new (w.alloc (.deferred (some []))) (.loop (R .ready none))
    rwa [sz1] at this
  have eI : I [] ((w.alloc (.deferred (some []))).alloc (.loop (R .ready none))) := hI.alloc _ (hI.alloc _ h0)
  have eB : Below w.heap.size w ((w.alloc (.deferred (some []))).alloc (.loop (R .ready none))) := bk_alloc (bk_alloc (BK.refl w) _) _
  obtain ⟨W1, hW1⟩ : ∃ W1, W1 = (w.alloc (.deferred (some []))).alloc (.loop (R .ready none)) := ⟨_, rfl⟩
  rw [← hW1] at eD eL eI eB
  refine ⟨w.heap.size + 1, [{ target := .collected w.heap.size, args := #[] }], W1, { target := .fn (.func gf) lb, args := #[.func (.yield (w.heap.size + 1)) #[] #[]] }, W1, gf, #[.func (.yield (w.heap.size + 1)) #[] #[]] ++ lb, W1, ?_, ?_, ?_, ?_, fun _ => h1, ?_⟩
  · rw [hW1]; exact run_enterLoop_outer _ _ _ _ _
  · simp only [resolve, hg]
    simp [go_sem]
  · intro f' hf'; simp [Target.leads] at hf'; subst hf'; exact hFg
  · simp [invoke, go_sem, eg]
  -- the iterator, at the invariant 'I, and the two blocks lie as they should'
  refine (hseq (w.heap.size + 1) (fun pre W => I pre W ∧ W.heap[w.heap.size + 1]? = some (.loop (R .ready none)) ∧ W.heap[w.heap.size]? = some (.deferred (some [])))
    (fun pre W => Ix pre W ∧ W.heap[w.heap.size + 1]? = some (.loop (R .done (some .ret))) ∧ W.heap[w.heap.size]? = some (.deferred (some []))) W1 eB
    (fun pre A B ⟨p1, p2, p3⟩ s => ⟨hIs pre A B p1 s, hSt A B s _ _ (by omega) p2, hSt A B s _ _ (Nat.le_refl _) p3⟩) ?_ ⟨eI, eL, eD⟩).mono ?_
  · rintro pre x A ⟨p1, p2, p3⟩ hlen
    have hlt : w.heap.size + 1 < A.heap.size := (Array.getElem?_eq_some_iff.1 p2).1
    refine ⟨fn, _, assign, body, run_yield (P := P) (args := encs x) p2 (hps x), roundIn_of_wpIn hfn (hassign _ x A _ ?_)⟩
    -- the round begins: its record is busy
    have q2 : (A.putObj (w.heap.size + 1) (.loop { R .ready none with state := .busy })).heap[w.heap.size + 1]? = some (.loop { R .ready none with state := .busy }) := World.putObj_heap_same hlt
    have q3 : (A.putObj (w.heap.size + 1) (.loop { R .ready none with state := .busy })).heap[w.heap.size]? = some (.deferred (some [])) := (World.putObj_heap_other (by omega)).trans p3
    have qK : Kp A (A.putObj (w.heap.size + 1) (.loop { R .ready none with state := .busy })) := hKb _ _ _ (by omega)
    have qI : I pre (A.putObj (w.heap.size + 1) (.loop { R .ready none with state := .busy })) := hI.putObj _ p1 (by omega) p2 rfl
    refine ⟨_, run_beginRound p2 rfl, ?_⟩
    obtain ⟨A2, hA2⟩ : ∃ A2, A2 = A.putObj (w.heap.size + 1) (.loop { R .ready none with state := .busy }) := ⟨_, rfl⟩
    rw [← hA2] at q2 q3 qK qI
    rw [← hA2]
    refine wpIn_mono (hbody _ pre x A2 (by omega) (Array.getElem?_eq_some_iff.1 q2).1 qI hlen) ?_
    -- the round ends
    have hend : ∀ (jump : Option Code) (B : World), KeepsFrom w.heap.size A2 B →
        B.heap[w.heap.size + 1]? = some (.loop { R .ready none with state := .busy }) ∧
        (Instr.endRound (w.heap.size + 1) jump).run P B = .ok (.bool jump.isNone) (B.putObj (w.heap.size + 1) (.loop (R (if jump.isNone then .ready else .done) jump))) ∧
        (B.putObj (w.heap.size + 1) (.loop (R (if jump.isNone then .ready else .done) jump))).heap[w.heap.size + 1]? = some (.loop (R (if jump.isNone then .ready else .done) jump)) ∧
        (B.putObj (w.heap.size + 1) (.loop (R (if jump.isNone then .ready else .done) jump))).heap[w.heap.size]? = some (.deferred (some [])) := fun jump B hk => by
      have l1 := hk.same _ _ (by omega) q2 rfl
      exact ⟨l1, run_endRound (P := P) jump l1, World.putObj_heap_same (Array.getElem?_eq_some_iff.1 l1).1, (World.putObj_heap_other (by omega)).trans (hk.same _ _ (Nat.le_refl _) q3 rfl)⟩
    rintro e a3 B hp
    cases e with
    | normal =>
      obtain ⟨k1, k2, k3⟩ := hp
      obtain ⟨l1, l2, l3, l4⟩ := hend none B k1
      exact ⟨_, _, l2, .inl ⟨rfl, ⟨hI.putObj _ k3 (by omega) l1 rfl, l3, l4⟩, hKt qK (hKt k2 (hKb _ _ _ (by omega)))⟩⟩
    | ret =>
      obtain ⟨k1, _, k3⟩ := hp
      obtain ⟨l1, l2, l3, l4⟩ := hend (some .ret) B k1
      exact ⟨_, _, l2, .inr ⟨rfl, hIx.putObj _ k3 (by omega) l1 rfl, l3, l4⟩⟩
    | exit id => exact absurd hp.2.1 (by intro h; cases h)
    | goto t => exact absurd hp.2.1 (by intro h; cases h)
    | panic ch => exact hp.elim
    | outgrown => exact hp.elim
  · rintro e B ⟨⟨v, rfl⟩, (⟨xs, s1, s2, s3, s4⟩ | ⟨pre, s1, s2, s3, s4⟩)⟩
    · exact ⟨none, _, run_endLoop (P := P) s3 (by simp [R]), hdone _ xs _ (Nat.le_refl _) s1 (hI.putObj _ s2 (by omega) s3 rfl) ((World.putObj_heap_other (by omega)).trans s4)⟩
    · exact ⟨some .ret, _, run_endLoop (P := P) s3 (by simp [R]), hstop _ pre _ (Nat.le_refl _) s1 (hIx.putObj _ s2 (by omega) s3 rfl) ((World.putObj_heap_other (by omega)).trans s4)⟩
end
end Go.Proofs.YtneidfbgdgegjaaGreatDoor
