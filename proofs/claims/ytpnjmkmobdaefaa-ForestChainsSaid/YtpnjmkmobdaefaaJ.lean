/- New; Link that adds nothing. -/
import Derived.Test.YtpnjmkmobdaefaaI
namespace Go.Proofs.Ytpnjmkmobdaefaa
open Go.RowKit Go.Maps
set_option linter.unusedVariables false
set_option linter.unusedSimpArgs false
def NP (w : World) (e : Ending) (w' : World) : Prop := ∃ o, e = .returned (.pointer (some ⟨o.f, 0, none⟩)) ∧ FS w' w.heap.size o [] 0 ∧ BK w w'
theorem mp_made (w : World) : MP (w.alloc (.map #[] 0)) w.heap.size 0 (fun _ => none) := ⟨_, World.ownsMap_made w _ _ _, Rd.empty⟩
set_option maxRecDepth 100000 in
set_option maxHeartbeats 1000000 in
theorem new11 (w : World) : Calls Try.prog 11 #[] w (NP w) := by
  have hmm := @run_makeMap Try.prog
  have m1 := mp_made w
  have m2 := mp_made (w.alloc (.map #[] 0))
  have m3 := mp_made ((w.alloc (.map #[] 0)).alloc (.map #[] 0))
  rw [sz1] at m2
  rw [sz1, sz1] at m3
  have k1 := bk_alloc (BK.refl w) (.map #[] 0)
  have k2 := bk_alloc k1 (.map #[] 0)
  have k3 := bk_alloc k2 (.map #[] 0)
  have QQ := Lib.hid (show ∀ sv, sv = fields (w.heap.size + 1 + 1 + 1) (.slice none 0 0) w.heap.size (w.heap.size + 1) (w.heap.size + 1 + 1) (.slice none 0 0) → NP w (.returned (.pointer (some ⟨w.heap.size + 1 + 1 + 1, 0, none⟩))) ((((w.alloc (.map #[] 0)).alloc (.map #[] 0)).alloc (.map #[] 0)).alloc (.cells sv 52)) from by
    intro sv hsv
    subst hsv
    refine ⟨⟨w.heap.size + 1 + 1 + 1, w.heap.size, w.heap.size + 1, w.heap.size + 1 + 1, .slice none 0 0, .slice none 0 0, fun _ => none, fun _ => none, fun _ => none, []⟩, rfl, ⟨?_, trivial, ?_, ?_⟩, bk_alloc k3 _⟩
    · have hb := heap_alloc_new (((w.alloc (.map #[] 0)).alloc (.map #[] 0)).alloc (.map #[] 0)) (.cells (fields (w.heap.size + 1 + 1 + 1) (.slice none 0 0) w.heap.size (w.heap.size + 1) (w.heap.size + 1 + 1) (.slice none 0 0)) 52)
      rw [sz1, sz1, sz1] at hb
      refine ⟨hb, World.ownsRow_nil _ _ _ _, World.ownsRow_nil _ _ _ _, ?_, ?_, ?_, ?_, ?_, ?_, ?_, ?_, ?_, ?_, fun l hl => (by cases hl), fun x hx => (by cases hx)⟩
      · exact m1.at ((heap_alloc_old _ _ (by simp only [sz1]; omega)).trans ((heap_alloc_old _ _ (by simp only [sz1]; omega)).trans (heap_alloc_old _ _ (by simp only [sz1]; omega))))
      · exact m2.at ((heap_alloc_old _ _ (by simp only [sz1]; omega)).trans (heap_alloc_old _ _ (by simp only [sz1]; omega)))
      · exact m3.at (heap_alloc_old _ _ (by simp only [sz1]; omega))
      · show w.heap.size ≠ w.heap.size + 1; omega
      · show w.heap.size ≠ w.heap.size + 1 + 1; omega
      · show w.heap.size + 1 ≠ w.heap.size + 1 + 1; omega
      · show w.heap.size ≤ w.heap.size + 1 + 1 + 1; omega
      · show w.heap.size ≤ w.heap.size; omega
      · show w.heap.size ≤ w.heap.size + 1; omega
      · show w.heap.size ≤ w.heap.size + 1 + 1; omega
    · exact ⟨fun x k h => (by cases h), fun k l _ h => (by cases h), ⟨fun _ => 0, fun x k l h => (by cases h)⟩⟩
    · exact fun _ => rfl)
  clear m1 m2 m3 k1 k2 k3
  go_enter Try.func11, Try.ntmps11
  go_wp2_with fail
  go_ret
  exact QQ.out _ rfl
set_option maxHeartbeats 1000000 in
theorem link16_neg (w : World) (B : Nat) (o : FO) (M : List L3) (N : Nat) (h : FS w B o M N) (a b y : Int) (hn : a < 0 ∨ b < 0) : Calls Try.prog 16 #[.pointer (some ⟨o.f, 0, none⟩), .int .i64 a, .int .i64 b, .int .i64 y] w fun e w' => e = .returned (.bool false) ∧ w = w' := by
  have US := Lib.hid (usable_yes o.f w h.fb.k0)
  clear h
  by_cases h1 : a < 0
  · clear hn
    go_enter Try.func16, Try.ntmps16
    go_wp2_with fail
    refine US.out.mono ?_
    rintro e w' ⟨rfl, rfl⟩
    go_wp2_with fail
    go_ret
    exact ⟨rfl, rfl⟩
  · have h2 : b < 0 := by omega
    have h3 : ¬ a < 0 := by omega
    clear hn
    go_enter Try.func16, Try.ntmps16
    go_wp2_with fail
    refine US.out.mono ?_
    rintro e w' ⟨rfl, rfl⟩
    go_wp2_with fail
    go_ret
    exact ⟨rfl, rfl⟩
set_option maxHeartbeats 1000000 in
theorem link16_same (w : World) (B : Nat) (o : FO) (M : List L3) (N : Nat) (h : FS w B o M N) (a b y : Int) (ha : okI a) (hb : okI b) (g1 : 0 ≤ a) (g2 : 0 ≤ b) (hs : CR M.reverse a b) : Calls Try.prog 16 #[.pointer (some ⟨o.f, 0, none⟩), .int .i64 a, .int .i64 b, .int .i64 y] w fun e w' => e = .returned (.bool false) ∧ w = w' := by
  have US := Lib.hid (usable_yes o.f w h.fb.k0)
  obtain ⟨z, z1, z2, z3, z4⟩ := h.root ha
  obtain ⟨z', y1, y2, y3, y4⟩ := h.root hb
  have e := (h.roots z2 z3 y2 y3).2 hs
  subst e
  have Z := Lib.hid (z4 w h.fb)
  have Y := Lib.hid (y4 w h.fb)
  have h1 : ¬ a < 0 := by omega
  have h2 : ¬ b < 0 := by omega
  clear h z1 z2 z3 z4 y1 y2 y3 y4 hs
  go_enter Try.func16, Try.ntmps16
  go_wp2_with fail
  refine US.out.mono ?_
  rintro e w' ⟨rfl, rfl⟩
  go_wp2_with fail
  refine Z.out.mono ?_
  rintro e w' ⟨rfl, rfl⟩
  go_wp2_with fail
  refine Y.out.mono ?_
  rintro e w' ⟨rfl, rfl⟩
  go_wp2_with fail
  go_ret
  exact ⟨rfl, rfl⟩
end Go.Proofs.Ytpnjmkmobdaefaa
