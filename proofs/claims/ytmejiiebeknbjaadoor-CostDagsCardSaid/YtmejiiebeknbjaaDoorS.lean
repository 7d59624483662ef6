/- The law of the order of terms: the parts. -/
import Derived.Test.YtmejiiebeknbjaaDoorM
import Derived.Test.YtmejiiebeknbjaaDoorR
import Derived.Deep.MidRow
namespace Go.Proofs.YtmejiiebeknbjaaDoor
open Go.RowKit Go.Maps
set_option linter.unusedVariables false
set_option linter.unusedSimpArgs false
theorem row1 {w : World} {op1 wd1 : Int} {vl1 : Nat} {nm1 : ByteArray} {ts1 : List T} {p1 : Option Addr} {c1 : Nat} (h1 : Row w p1 c1 ts1) (f1 : Wf op1 wd1 vl1 nm1) :
    Row (w.alloc (.cells #[.int .i64 op1, .int .i64 wd1, .int .u64 vl1, .string nm1, .slice p1 ts1.length c1] 34)) (some ⟨w.heap.size, 0, none⟩) 1 [T.mk op1 wd1 vl1 nm1 ts1] := by
  have h0 := heap_alloc_new w (.cells #[.int .i64 op1, .int .i64 wd1, .int .u64 vl1, .string nm1, .slice p1 ts1.length c1] 34)
  have k1 := h1.keep (bk_alloc (BK.refl w) (.cells #[.int .i64 op1, .int .i64 wd1, .int .u64 vl1, .string nm1, .slice p1 ts1.length c1] 34))
  generalize w.alloc (.cells #[.int .i64 op1, .int .i64 wd1, .int .u64 vl1, .string nm1, .slice p1 ts1.length c1] 34) = W at h0 k1 ⊢
  refine .inr ⟨_, _, rfl, ?_, by unfold maxLen; simp⟩
  rw [AtL, AtL]
  refine ⟨?_, trivial⟩
  · rw [at_mk]
    refine ⟨p1, c1, ⟨?_, ?_, ?_, ?_, ?_⟩, f1, k1⟩
    all_goals rw [cell_of_row W _ _ _ _ _ h0]; rfl
theorem row2 {w : World} {op1 wd1 : Int} {vl1 : Nat} {nm1 : ByteArray} {ts1 : List T} {p1 : Option Addr} {c1 : Nat} {op2 wd2 : Int} {vl2 : Nat} {nm2 : ByteArray} {ts2 : List T} {p2 : Option Addr} {c2 : Nat} (h1 : Row w p1 c1 ts1) (f1 : Wf op1 wd1 vl1 nm1) (h2 : Row w p2 c2 ts2) (f2 : Wf op2 wd2 vl2 nm2) :
    Row (w.alloc (.cells #[.int .i64 op1, .int .i64 wd1, .int .u64 vl1, .string nm1, .slice p1 ts1.length c1, .int .i64 op2, .int .i64 wd2, .int .u64 vl2, .string nm2, .slice p2 ts2.length c2] 34)) (some ⟨w.heap.size, 0, none⟩) 2 [T.mk op1 wd1 vl1 nm1 ts1, T.mk op2 wd2 vl2 nm2 ts2] := by
  have h0 := heap_alloc_new w (.cells #[.int .i64 op1, .int .i64 wd1, .int .u64 vl1, .string nm1, .slice p1 ts1.length c1, .int .i64 op2, .int .i64 wd2, .int .u64 vl2, .string nm2, .slice p2 ts2.length c2] 34)
  have k1 := h1.keep (bk_alloc (BK.refl w) (.cells #[.int .i64 op1, .int .i64 wd1, .int .u64 vl1, .string nm1, .slice p1 ts1.length c1, .int .i64 op2, .int .i64 wd2, .int .u64 vl2, .string nm2, .slice p2 ts2.length c2] 34))
  have k2 := h2.keep (bk_alloc (BK.refl w) (.cells #[.int .i64 op1, .int .i64 wd1, .int .u64 vl1, .string nm1, .slice p1 ts1.length c1, .int .i64 op2, .int .i64 wd2, .int .u64 vl2, .string nm2, .slice p2 ts2.length c2] 34))
  generalize w.alloc (.cells #[.int .i64 op1, .int .i64 wd1, .int .u64 vl1, .string nm1, .slice p1 ts1.length c1, .int .i64 op2, .int .i64 wd2, .int .u64 vl2, .string nm2, .slice p2 ts2.length c2] 34) = W at h0 k1 k2 ⊢
  refine .inr ⟨_, _, rfl, ?_, by unfold maxLen; simp⟩
  rw [AtL, AtL, AtL]
  refine ⟨?_, ?_, trivial⟩
  · rw [at_mk]
    refine ⟨p1, c1, ⟨?_, ?_, ?_, ?_, ?_⟩, f1, k1⟩
    all_goals rw [cell_of_row W _ _ _ _ _ h0]; rfl
  · rw [at_mk]
    refine ⟨p2, c2, ⟨?_, ?_, ?_, ?_, ?_⟩, f2, k2⟩
    all_goals rw [cell_of_row W _ _ _ _ _ h0]; rfl
theorem row3 {w : World} {op1 wd1 : Int} {vl1 : Nat} {nm1 : ByteArray} {ts1 : List T} {p1 : Option Addr} {c1 : Nat} {op2 wd2 : Int} {vl2 : Nat} {nm2 : ByteArray} {ts2 : List T} {p2 : Option Addr} {c2 : Nat} (h1 : Row w p1 c1 ts1) (f1 : Wf op1 wd1 vl1 nm1) (h2 : Row w p2 c2 ts2) (f2 : Wf op2 wd2 vl2 nm2) :
    Row (w.alloc (.cells #[.int .i64 op1, .int .i64 wd1, .int .u64 vl1, .string nm1, .slice p1 ts1.length c1, .int .i64 op2, .int .i64 wd2, .int .u64 vl2, .string nm2, .slice p2 ts2.length c2, .int .i64 op1, .int .i64 wd1, .int .u64 vl1, .string nm1, .slice p1 ts1.length c1] 34)) (some ⟨w.heap.size, 0, none⟩) 3 [T.mk op1 wd1 vl1 nm1 ts1, T.mk op2 wd2 vl2 nm2 ts2, T.mk op1 wd1 vl1 nm1 ts1] := by
  have h0 := heap_alloc_new w (.cells #[.int .i64 op1, .int .i64 wd1, .int .u64 vl1, .string nm1, .slice p1 ts1.length c1, .int .i64 op2, .int .i64 wd2, .int .u64 vl2, .string nm2, .slice p2 ts2.length c2, .int .i64 op1, .int .i64 wd1, .int .u64 vl1, .string nm1, .slice p1 ts1.length c1] 34)
  have k1 := h1.keep (bk_alloc (BK.refl w) (.cells #[.int .i64 op1, .int .i64 wd1, .int .u64 vl1, .string nm1, .slice p1 ts1.length c1, .int .i64 op2, .int .i64 wd2, .int .u64 vl2, .string nm2, .slice p2 ts2.length c2, .int .i64 op1, .int .i64 wd1, .int .u64 vl1, .string nm1, .slice p1 ts1.length c1] 34))
  have k2 := h2.keep (bk_alloc (BK.refl w) (.cells #[.int .i64 op1, .int .i64 wd1, .int .u64 vl1, .string nm1, .slice p1 ts1.length c1, .int .i64 op2, .int .i64 wd2, .int .u64 vl2, .string nm2, .slice p2 ts2.length c2, .int .i64 op1, .int .i64 wd1, .int .u64 vl1, .string nm1, .slice p1 ts1.length c1] 34))
  generalize w.alloc (.cells #[.int .i64 op1, .int .i64 wd1, .int .u64 vl1, .string nm1, .slice p1 ts1.length c1, .int .i64 op2, .int .i64 wd2, .int .u64 vl2, .string nm2, .slice p2 ts2.length c2, .int .i64 op1, .int .i64 wd1, .int .u64 vl1, .string nm1, .slice p1 ts1.length c1] 34) = W at h0 k1 k2 ⊢
  refine .inr ⟨_, _, rfl, ?_, by unfold maxLen; simp⟩
  rw [AtL, AtL, AtL, AtL]
  refine ⟨?_, ?_, ?_, trivial⟩
  · rw [at_mk]
    refine ⟨p1, c1, ⟨?_, ?_, ?_, ?_, ?_⟩, f1, k1⟩
    all_goals rw [cell_of_row W _ _ _ _ _ h0]; rfl
  · rw [at_mk]
    refine ⟨p2, c2, ⟨?_, ?_, ?_, ?_, ?_⟩, f2, k2⟩
    all_goals rw [cell_of_row W _ _ _ _ _ h0]; rfl
  · rw [at_mk]
    refine ⟨p1, c1, ⟨?_, ?_, ?_, ?_, ?_⟩, f1, k1⟩
    all_goals rw [cell_of_row W _ _ _ _ _ h0]; rfl
theorem small_size {t : T} {m : Int} (h0 : 0 ≤ m) (h : smallB t m = true) : (size t : Int) ≤ m := by
  unfold smallB at h
  rw [left_spec t m h0] at h
  split at h
  · assumption
  · simp at h
theorem dag_swap (c : List Int) (t u : T) (h1 : size t + size u ≤ 1000) : sumC c (subsL [] [u, t]) = sumC c (subsL [] [t, u]) :=
  dag_eq c (by simp only [sizeL]; omega) (by simp only [sizeL]; omega) (fun x => by simp [or_comm])
theorem dag_twice (c : List Int) (t u : T) (h1 : size t + size u + size t ≤ 1000) : sumC c (subsL [] [t, u, t]) = sumC c (subsL [] [t, u]) :=
  dag_eq c (by simp only [sizeL]; omega) (by simp only [sizeL]; omega) (fun x => by
    simp only [List.mem_cons, List.not_mem_nil, or_false, exists_eq_or_imp, exists_eq_left]
    constructor
    · rintro (h | h | h)
      · exact .inl h
      · exact .inr h
      · exact .inl h
    · rintro (h | h)
      · exact .inl h
      · exact .inr (.inl h))
theorem dag_one (c : List Int) (t u : T) (h1 : size t + size u ≤ 1000) : sumC c (subsL [] [t]) ≤ sumC c (subsL [] [t, u]) :=
  dag_le c (by simp only [sizeL]; omega) (by simp only [sizeL]; omega) (fun x ⟨v, hv, hx⟩ => ⟨v, by rw [List.mem_singleton] at hv; simp [hv], hx⟩)
/-- a call of Dag over a slice -/
def DagC (cs : List Int) (ts : List T) (n : Nat) (r : Int) : Prop := ∀ (wc : World) (p : Option Addr) (c : Nat), Row wc p c ts → Tb wc →
  Calls Tryd.prog 18 #[.agg (ca cs), .slice p n c] wc fun e w' => e = .returned (.int .i64 r) ∧ BK wc w'
theorem dagC (cs : List Int) (hcs : cs.length = 32) (ts : List T) (h : sizeL ts ≤ 1000) : DagC cs ts ts.length (sumC cs (subsL [] ts)) := fun wc p c hr ht => dag18 cs hcs ts wc p c hr ht h
theorem order_calls (cs : List Int) (hcs : cs.length = 32) (t u : T) (ht : smallB t 40 = true) (hu : smallB u 40 = true) :
    ∃ s a b r, DagC cs [t, u] 2 s ∧ DagC cs [u, t] 2 s ∧ DagC cs [t, u, t] 3 s ∧ DagC cs [t] 1 a ∧ DagC cs [u] 1 b ∧ (∀ w, Calls Tryd.prog 11 #[.int .i64 a, .int .i64 b] w fun e w' => e = .returned (.int .i64 r) ∧ w = w') ∧ a ≤ s ∧ s ≤ r := by
  have h1 := small_size (by omega) ht
  have h2 := small_size (by omega) hu
  refine ⟨sumC cs (subsL [] [t, u]), sumC cs (subsL [] [t]), sumC cs (subsL [] [u]), _, dagC cs hcs [t, u] (by simp only [sizeL]; omega), ?_, ?_, dagC cs hcs [t] (by simp only [sizeL]; omega), dagC cs hcs [u] (by simp only [sizeL]; omega), add11 _ _, dag_one cs t u (by omega), dag_add cs t u (by omega)⟩
  · have h := dagC cs hcs [u, t] (by simp only [sizeL]; omega)
    rw [dag_swap cs t u (by omega)] at h
    exact h
  · have h := dagC cs hcs [t, u, t] (by simp only [sizeL]; omega)
    rw [dag_twice cs t u (by omega)] at h
    exact h
end Go.Proofs.YtmejiiebeknbjaaDoor
