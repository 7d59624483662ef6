/- The chapter's example. -/
import Derived.Test.YtnlpiaejfmdckaaDoorM
namespace Go.Proofs.YtnlpiaejfmdckaaDoor
open Go.RowKit
set_option linter.unusedVariables false
set_option linter.unusedSimpArgs false
set_option maxHeartbeats 1000000 in
theorem clamp50 (w : World) : Calls Tryd.prog 50 #[.int .i64 8] w fun e w' => e = .returned (.int .i64 8) ∧ w = w' := by
  go_enter Tryd.func50, Tryd.ntmps50
  go_wp2_with fail
  go_ret
  exact ⟨rfl, rfl⟩
set_option maxRecDepth 100000 in
set_option maxHeartbeats 4000000 in
theorem var32 (w : World) : Calls Tryd.prog 32 #[.string ⟨#[120]⟩, .int .i64 8] w fun e w' => e = .returned (.agg #[.int .i64 1, .int .i64 8, .int .u64 0, .string ⟨#[120]⟩, .slice none 0 0]) ∧ BK w w' := by
  have KA := Lib.hid (bk_alloc (BK.refl w) (.cells #[.int .i64 0, .int .i64 0, .int .u64 0, .string ⟨#[]⟩, .slice none 0 0] 42))
  have NA := Lib.hid (heap_alloc_new w (.cells #[.int .i64 0, .int .i64 0, .int .u64 0, .string ⟨#[]⟩, .slice none 0 0] 42))
  have C50 := Lib.hid (fun w => clamp50 w)
  go_enter Tryd.func32, Tryd.ntmps32
  go_wp2_with fail
  refine (C50.out _).mono ?_
  rintro e w' ⟨rfl, rfl⟩
  generalize w.alloc (.cells #[.int .i64 0, .int .i64 0, .int .u64 0, .string ⟨#[]⟩, .slice none 0 0] 42) = w1 at *
  have x0 := cell_of_row _ w.heap.size 0 _ 42 (0, 0) NA.out
  have x1 := cell_of_row _ w.heap.size 1 _ 42 (0, 0) NA.out
  have x2 := cell_of_row _ w.heap.size 2 _ 42 (0, 0) NA.out
  have x3 := cell_of_row _ w.heap.size 3 _ 42 (0, 0) NA.out
  have x4 := cell_of_row _ w.heap.size 4 _ 42 (0, 0) NA.out
  have f0 := frozen_of_row _ w.heap.size 0 _ 42 NA.out
  have f1 := frozen_of_row _ w.heap.size 1 _ 42 NA.out
  have f2 := frozen_of_row _ w.heap.size 2 _ 42 NA.out
  have f3 := frozen_of_row _ w.heap.size 3 _ 42 NA.out
  have f4 := frozen_of_row _ w.heap.size 4 _ 42 NA.out
  go_wp2_with fail
  exact bodyPost_ret (v := .agg #[.int .i64 1, .int .i64 8, .int .u64 0, .string ⟨#[120]⟩, .slice none 0 0]) (results_cell_row Tryd.results32 _ _ w.heap.size 42 #[.int .i64 1, .int .i64 8, .int .u64 0, .string ⟨#[120]⟩, .slice none 0 0] (0, 0) _ rfl (put5_heap (w := w1) NA.out rfl _ _ _ _ _) Tryd.underlying42 rfl (by kernel_rfl)) rfl
    ⟨rfl, put5_bk KA.out w.heap.size 0 _ _ _ _ _ (Nat.le_refl _)⟩
def zt : T := .mk 0 0 0 ⟨#[]⟩ []
def sA : S := ⟨1, [], 0, [], zt, zt⟩
def sB : S := ⟨1, [], 0, [], .mk 1 8 0 ⟨#[120]⟩ [], zt⟩
def sC : S := ⟨2, [0], 0, [], zt, zt⟩
def sD : S := ⟨2, [1], 0, [], zt, zt⟩
def q0 : Pt := ⟨none, 0, none, 0, none, 0, none, 0⟩
def q1 (g : Nat) : Pt := ⟨some ⟨g, 0, none⟩, 1, none, 0, none, 0, none, 0⟩
def a3 (g : Nat) : Array Value := #[.int .i64 1, .slice none 0 0, .int .i64 0, .slice none 0 0, .int .i64 0, .int .i64 0, .int .u64 0, .string ⟨#[]⟩, .slice none 0 0, .int .i64 0, .int .i64 0, .int .u64 0, .string ⟨#[]⟩, .slice none 0 0,
  .int .i64 1, .slice none 0 0, .int .i64 0, .slice none 0 0, .int .i64 1, .int .i64 8, .int .u64 0, .string ⟨#[120]⟩, .slice none 0 0, .int .i64 0, .int .i64 0, .int .u64 0, .string ⟨#[]⟩, .slice none 0 0,
  .int .i64 2, .slice (some ⟨g, 0, none⟩) 1 1, .int .i64 0, .slice none 0 0, .int .i64 0, .int .i64 0, .int .u64 0, .string ⟨#[]⟩, .slice none 0 0, .int .i64 0, .int .i64 0, .int .u64 0, .string ⟨#[]⟩, .slice none 0 0]
def a2 (g : Nat) : Array Value := #[.int .i64 1, .slice none 0 0, .int .i64 0, .slice none 0 0, .int .i64 0, .int .i64 0, .int .u64 0, .string ⟨#[]⟩, .slice none 0 0, .int .i64 0, .int .i64 0, .int .u64 0, .string ⟨#[]⟩, .slice none 0 0,
  .int .i64 2, .slice (some ⟨g, 0, none⟩) 1 1, .int .i64 0, .slice none 0 0, .int .i64 0, .int .i64 0, .int .u64 0, .string ⟨#[]⟩, .slice none 0 0, .int .i64 0, .int .i64 0, .int .u64 0, .string ⟨#[]⟩, .slice none 0 0]
theorem em {D : Nat → Prop} {w : World} : RowD D w none 0 [] := .inl ⟨rfl, fun _ => rfl⟩
theorem emI {D : Nat → Prop} {w : World} : RowI D w none 0 [] := .inl ⟨rfl, fun _ => rfl⟩
theorem emU {D : Nat → Prop} {w : World} : RowU D w none 0 [] := .inl ⟨rfl, fun _ => rfl⟩
theorem one_row (w : World) (z : Int) : RowI (mem 0 (w.alloc (.cells #[.int .i64 z] 3))) (w.alloc (.cells #[.int .i64 z] 3)) (some ⟨w.heap.size, 0, none⟩) 1 [z] :=
  .inr ⟨_, 0, rfl, ⟨Nat.zero_le _, by rw [sz1]; omega⟩, fun k hk => by
    obtain rfl : k = 0 := by simp at hk; omega
    exact cell_of_row _ w.heap.size 0 _ 3 (0, 0) (heap_alloc_new w _), Nat.le_refl _⟩
theorem cs_at {w : World} {g : Nat} {A xs : Array Value} {o : Nat} (h : w.heap[g]? = some (.cells A 44 (0, 0))) (hx : ∀ j v, xs[j]? = some v → A[o + j]? = some v) : Cs w g o xs := fun j v hj => by
  rw [cell_of_row _ g _ A 44 (0, 0) h]; exact hx j v hj
theorem sub14 {A xs : Array Value} {o : Nat} (h : (A.toList.drop o).take 14 = xs.toList) : ∀ j v, xs[j]? = some v → A[o + j]? = some v := by
  intro j v hj
  have h1 : xs.toList[j]? = some v := by simpa using hj
  rw [← h, List.getElem?_take] at h1
  split at h1
  · rw [List.getElem?_drop] at h1; simpa using h1
  · cases h1
theorem rows3 (w : World) (z : Int) (hz : z = 0) : RowS (mem 0 ((w.alloc (.cells #[.int .i64 0] 3)).alloc (.cells (a3 w.heap.size) 44))) ((w.alloc (.cells #[.int .i64 0] 3)).alloc (.cells (a3 w.heap.size) 44)) (some ⟨w.heap.size + 1, 0, none⟩) 3 [sA, sB, sC] := by
  have h := two_boxes w #[.int .i64 0] (a3 w.heap.size) 3 44
  have hl := (Array.getElem?_eq_some_iff.1 h.2.2).1
  refine .inr ⟨_, 0, rfl, ⟨Nat.zero_le _, hl⟩, fun k hk => ?_, Nat.le_refl _⟩
  rw [Nat.zero_add]
  match k, hk with
  | 0, _ => exact ⟨q0, cs_at h.2.2 (sub14 rfl), ⟨emI, emU, em, em⟩⟩
  | 1, _ => exact ⟨q0, cs_at h.2.2 (sub14 rfl), ⟨emI, emU, em, em⟩⟩
  | 2, _ => exact ⟨q1 w.heap.size, cs_at h.2.2 (sub14 rfl), ⟨(one_row w 0).bk (bk_alloc (BK.refl _) _) (Nat.le_refl _), emU, em, em⟩⟩
theorem rows2 (w : World) : RowS (mem 0 ((w.alloc (.cells #[.int .i64 1] 3)).alloc (.cells (a2 w.heap.size) 44))) ((w.alloc (.cells #[.int .i64 1] 3)).alloc (.cells (a2 w.heap.size) 44)) (some ⟨w.heap.size + 1, 0, none⟩) 2 [sA, sD] := by
  have h := two_boxes w #[.int .i64 1] (a2 w.heap.size) 3 44
  have hl := (Array.getElem?_eq_some_iff.1 h.2.2).1
  refine .inr ⟨_, 0, rfl, ⟨Nat.zero_le _, hl⟩, fun k hk => ?_, Nat.le_refl _⟩
  rw [Nat.zero_add]
  match k, hk with
  | 0, _ => exact ⟨q0, cs_at h.2.2 (sub14 rfl), ⟨emI, emU, em, em⟩⟩
  | 1, _ => exact ⟨q1 w.heap.size, cs_at h.2.2 (sub14 rfl), ⟨(one_row w 1).bk (bk_alloc (BK.refl _) _) (Nat.le_refl _), emU, em, em⟩⟩
theorem k1 : chk [sA, sB, sC] = (0, 0) := by kernel_rfl
theorem k2 : chk [sA, sD] = (1, 14) := by kernel_rfl
theorem k3 : chk [] = (0, 8) := by kernel_rfl
theorem k4 : ndd [sA, sB, sC] = [0, 2] := by kernel_rfl
theorem k5 : trm [sA, sB, sC] = [sA, sC] := by kernel_rfl
theorem k6 : dpt [sA, sB, sC] = 2 := by kernel_rfl
theorem k7 : nameK 9 = ⟨#[109, 101, 101, 116]⟩ := by kernel_rfl
theorem sm0 : smT zt := by unfold zt; rw [smT_mk, smL]; exact ⟨by decide, trivial⟩
theorem okAll : ∀ s ∈ [sA, sB, sC, sD], okQ s ∧ ∀ r ∈ s.rf, inR r 0 := by
  intro s hs
  have hx : smT (.mk 1 8 0 ⟨#[120]⟩ []) := by rw [smT_mk, smL]; exact ⟨by decide, trivial⟩
  simp only [List.mem_cons, List.not_mem_nil, or_false] at hs
  rcases hs with rfl | rfl | rfl | rfl
  · exact ⟨⟨by decide, by decide, fun u hu => (by cases hu), sm0, sm0⟩, fun r hr => (by cases hr)⟩
  · exact ⟨⟨by decide, by decide, fun u hu => (by cases hu), hx, sm0⟩, fun r hr => (by cases hr)⟩
  · exact ⟨⟨by decide, by decide, fun u hu => (by cases hu), sm0, sm0⟩, fun r hr => by rw [show r = 0 from List.mem_singleton.1 hr]; unfold inR; omega⟩
  · exact ⟨⟨by decide, by decide, fun u hu => (by cases hu), sm0, sm0⟩, fun r hr => by rw [show r = 1 from List.mem_singleton.1 hr]; unfold inR; omega⟩
end Go.Proofs.YtnlpiaejfmdckaaDoor
