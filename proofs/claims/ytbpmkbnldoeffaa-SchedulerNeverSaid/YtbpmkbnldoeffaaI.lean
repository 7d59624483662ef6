/- The example of the document. -/
import Derived.Test.YtbpmkbnldoeffaaF
namespace Go.Proofs.Ytbpmkbnldoeffaa
open Go.RowKit
set_option linter.unusedVariables false
set_option linter.unusedSimpArgs false
theorem bk_alloc {w0 w : World} (h : BK w0 w) (o : Obj) : BK w0 (w.alloc o) := by
  have h : Below w0.heap.size w0 w := h
  exact h.alloc h.size o
theorem bk_set {w0 w : World} (h : BK w0 w) (p : Addr) (x : Value) (hp : w0.heap.size ≤ p.block) : BK w0 (w.setCell p x) := by
  have h : Below w0.heap.size w0 w := h
  exact h.setCell hp x
theorem bk_tr {a b c : World} (h : BK a b) (k : BK b c) : BK a c := bk_chain h k
theorem bk_size {w0 w : World} (h : BK w0 w) : w0.heap.size ≤ w.heap.size := by
  have h : Below w0.heap.size w0 w := h
  exact h.size
theorem take1 (w : World) : Calls Try.prog 17 #[.agg #[.int .i64 10, .int .i64 2, .int .i64 0, .int .i64 0], .int .i64 0, .int .i64 11] w fun e w' => e = .returned (.tuple #[.agg #[.int .i64 10, .int .i64 2, .int .i64 1, .int .i64 3], .bool false]) ∧ Below w.heap.size w w' := by
  have h := take_any 10 2 0 0 0 11 w
  rwa [show nL 10 = 10 by decide, show nL 2 = 2 by decide, show rT 10 0 11 = 1 by decide, show rU 10 2 0 0 0 11 = 3 by decide, show tkB 10 0 11 = false by decide] at h
theorem take2 (w : World) : Calls Try.prog 17 #[.agg #[.int .i64 10, .int .i64 2, .int .i64 0, .int .i64 0], .int .i64 0, .int .i64 10] w fun e w' => e = .returned (.tuple #[.agg #[.int .i64 10, .int .i64 2, .int .i64 0, .int .i64 0], .bool true]) ∧ Below w.heap.size w w' := by
  have h := take_any 10 2 0 0 0 10 w
  rwa [show nL 10 = 10 by decide, show nL 2 = 2 by decide, show rT 10 0 10 = 0 by decide, show rU 10 2 0 0 0 10 = 0 by decide, show tkB 10 0 10 = true by decide] at h
def L8 (w : World) (b off : Nat) : Prop := w.cell? ⟨b, off, none⟩ = some (.int .i64 10) ∧ w.cell? ⟨b, off + 1, none⟩ = some (.int .i64 2) ∧ w.cell? ⟨b, off + 2, none⟩ = some (.int .i64 0) ∧ w.cell? ⟨b, off + 3, none⟩ = some (.int .i64 0) ∧
  w.cell? ⟨b, off + 4, none⟩ = some (.int .i64 10) ∧ w.cell? ⟨b, off + 5, none⟩ = some (.int .i64 2) ∧ w.cell? ⟨b, off + 6, none⟩ = some (.int .i64 0) ∧ w.cell? ⟨b, off + 7, none⟩ = some (.int .i64 0) ∧ b < w.heap.size
theorem L8.keep {w w' : World} {b off : Nat} (h : L8 w b off) (hb : BK w w') : L8 w' b off := by
  have hb : Below w.heap.size w w' := hb
  obtain ⟨a0, a1, a2, a3, a4, a5, a6, a7, hlt⟩ := h
  have k : ∀ o u, w.cell? ⟨b, o, none⟩ = some u → w'.cell? ⟨b, o, none⟩ = some u := fun o u e => (hb.cell (p := ⟨b, o, none⟩) hlt).trans e
  exact ⟨k _ _ a0, k _ _ a1, k _ _ a2, k _ _ a3, k _ _ a4, k _ _ a5, k _ _ a6, k _ _ a7, Nat.lt_of_lt_of_le hlt hb.size⟩
theorem new1 (w : World) : Calls Try.prog 9 #[.int .i64 2, .int .i64 10, .int .i64 2] w fun e w' => ∃ b off cap, e = .returned (.slice (some ⟨b, off, none⟩) 2 cap) ∧ L8 w' b off ∧ Below w.heap.size w w' := by
  refine (new_any 2 10 2 w).mono ?_
  rintro e w' ⟨v, rfl, hv, hb⟩
  rw [show nS 10 2 (nR 2) = [(10, 2, 0, 0), (10, 2, 0, 0)] by decide] at hv
  rcases hv with ⟨a, cap, _, h⟩ | ⟨b, off, cap, rfl, _, h3, h4⟩
  · simp at h
  · obtain ⟨a0, a1, a2, a3⟩ := h4 0 (by simp)
    obtain ⟨b0, b1, b2, b3⟩ := h4 1 (by simp)
    exact ⟨b, off, cap, rfl, ⟨by simpa using a0, by simpa using a1, by simpa using a2, by simpa using a3, by simpa using b0, by simpa using b1, by simpa using b2, by simpa using b3, h3⟩, hb⟩
theorem new2 (w : World) : Calls Try.prog 9 #[.int .i64 (-1), .int .i64 1, .int .i64 1] w fun e w' => ∃ a cap, e = .returned (.slice a 0 cap) ∧ Below w.heap.size w w' := by
  refine (new_any (-1) 1 1 w).mono ?_
  rintro e w' ⟨v, rfl, hv, hb⟩
  rw [show nS 1 1 (nR (-1)) = [] by decide] at hv
  rcases hv with ⟨a, cap, rfl, h⟩ | ⟨b, off, cap, rfl, h2, _⟩
  · exact ⟨a, cap, rfl, hb⟩
  · simp at h2
theorem ban1 (w : World) : Calls Try.prog 15 #[.slice (some ⟨w.heap.size, 0, none⟩) 2 2, .int .i64 1] (w.alloc (.cells #[.int .i64 10, .int .i64 2, .int .i64 1, .int .i64 3, .int .i64 10, .int .i64 2, .int .i64 0, .int .i64 0] 26)) fun e w' => e = .returned (.int .i64 1) ∧ BK w w' := by
  have h := banned_some w.heap.size 0 2 [(10, 2, 1, 3), (10, 2, 0, 0)] 1 (w.alloc (.cells #[.int .i64 10, .int .i64 2, .int .i64 1, .int .i64 3, .int .i64 10, .int .i64 2, .int .i64 0, .int .i64 0] 26)) (by simp) (by simp) (by
    intro k hk
    match k, hk with
    | 0, _ => simp [World.cell?_alloc_new]
    | 1, _ => simp [World.cell?_alloc_new])
  rw [show bn [(10, 2, 1, 3), (10, 2, 0, 0)] 1 [((10 : Int), (2 : Int), (1 : Int), (3 : Int)), (10, 2, 0, 0)].length = 1 by decide] at h
  exact h.mono fun e w' ⟨he, hb⟩ => ⟨he, bk_chain (bk_alloc (BK.refl _) _) hb⟩
theorem ban1b {w0 : World} (w : World) (hb : BK w0 w) : Calls Try.prog 15 #[.slice (some ⟨w.heap.size, 0, none⟩) 2 2, .int .i64 1] (w.alloc (.cells #[.int .i64 10, .int .i64 2, .int .i64 1, .int .i64 3, .int .i64 10, .int .i64 2, .int .i64 0, .int .i64 0] 26)) fun e w' => e = .returned (.int .i64 1) ∧ BK w0 w' :=
  (ban1 w).mono fun e w' ⟨he, h⟩ => ⟨he, bk_chain hb h⟩
theorem s12 {w' : World} {p q b off : Nat} {x0 x1 x2 x3 y0 y1 y2 y3 : Value} (h : Bx w' p x0 x1 x2 x3 ∧ Bx w' q y0 y1 y2 y3 ∧ L8 w' b off) : w'.cell? ⟨p, 0, none⟩ = some x0 ∧ w'.cell? ⟨p, 1, none⟩ = some x1 ∧ w'.cell? ⟨p, 2, none⟩ = some x2 ∧ w'.cell? ⟨p, 3, none⟩ = some x3 ∧
    w'.cell? ⟨q, 0, none⟩ = some y0 ∧ w'.cell? ⟨q, 1, none⟩ = some y1 ∧ w'.cell? ⟨q, 2, none⟩ = some y2 ∧ w'.cell? ⟨q, 3, none⟩ = some y3 ∧
    w'.cell? ⟨b, off + 4, none⟩ = some (.int .i64 10) ∧ w'.cell? ⟨b, off + 5, none⟩ = some (.int .i64 2) ∧ w'.cell? ⟨b, off + 6, none⟩ = some (.int .i64 0) ∧ w'.cell? ⟨b, off + 7, none⟩ = some (.int .i64 0) := by
  obtain ⟨⟨a0, a1, a2, a3⟩, ⟨b0, b1, b2, b3⟩, ⟨_, _, _, _, c4, c5, c6, c7, _⟩⟩ := h
  exact ⟨a0, a1, a2, a3, b0, b1, b2, b3, c4, c5, c6, c7⟩
theorem ready1 (w : World) : Calls Try.prog 11 #[.agg #[.int .i64 10, .int .i64 2, .int .i64 1, .int .i64 3], .int .i64 2] w fun e w' => e = .returned (.bool false) ∧ Below w.heap.size w w' := ready_any 10 2 1 3 2 w
theorem ready2 (w : World) : Calls Try.prog 11 #[.agg #[.int .i64 10, .int .i64 2, .int .i64 1, .int .i64 3], .int .i64 3] w fun e w' => e = .returned (.bool true) ∧ Below w.heap.size w w' := ready_any 10 2 1 3 3 w
theorem thr1 (w : World) : Calls Try.prog 13 #[.agg #[.int .i64 10, .int .i64 2, .int .i64 1, .int .i64 3]] w fun e w' => e = .returned (.int .i64 20) ∧ Below w.heap.size w w' := thr_any 10 2 1 3 w
set_option maxRecDepth 100000 in
set_option maxHeartbeats 4000000 in
theorem lives_any (w : World) : Calls Try.prog 8 #[] w fun e w' => e = .returned (.bool true) ∧ Below w.heap.size w w' := by
  go_enter Try.func8, Try.ntmps8
  go_wp2_with fail
  refine (new1 _).mono ?_
  rintro e w1 ⟨b, off, cap, rfl, k1, hb1⟩
  have K1 := Lib.hid k1
  obtain ⟨a0, a1, a2, a3, a4, a5, a6, a7, hlt⟩ := k1
  have H1 := Lib.hid (show BK w w1 from hb1)
  clear hb1
  go_wp2_with fail
  refine (new2 _).mono ?_
  rintro e w2 ⟨p2, c2, rfl, hb2⟩
  have k2 := K1.out.keep hb2
  have K2 := Lib.hid k2
  have H2 := Lib.hid (bk_chain H1.out hb2)
  clear a0 a1 a2 a3 a4 a5 a6 a7 hlt hb2
  obtain ⟨a0, a1, a2, a3, a4, a5, a6, a7, hlt⟩ := k2
  go_wp2_with fail
  refine (take1 _).mono ?_
  rintro e w3 ⟨rfl, hb3⟩
  have k3 := K2.out.keep hb3
  have K3 := Lib.hid k3
  have H3 := Lib.hid (bk_chain H2.out hb3)
  clear a0 a1 a2 a3 a4 a5 a6 a7 hlt hb3
  obtain ⟨a0, a1, a2, a3, a4, a5, a6, a7, hlt⟩ := k3
  go_wp2_with fail
  refine (take2 _).mono ?_
  rintro e w4 ⟨rfl, hb4⟩
  have x4 := (box_new w3 (.int .i64 10) (.int .i64 2) (.int .i64 1) (.int .i64 3) 26).keep hb4 (by simp)
  have k4 := K3.out.keep (bk_chain (bk_alloc (BK.refl w3) _) hb4)
  have h3z : w3.heap.size < w4.heap.size := by have := hb4.size; simp at this; omega
  have H4 := Lib.hid (bk_alloc (bk_chain (bk_alloc H3.out _) hb4) (.cells #[.int .i64 10, .int .i64 2, .int .i64 0, .int .i64 0] 26))
  have KC := Lib.hid (fun wc (hb : BK (w4.alloc (.cells #[.int .i64 10, .int .i64 2, .int .i64 0, .int .i64 0] 26)) wc) => And.intro ((x4.keep (bk_alloc (BK.refl w4) _) h3z).keep hb (by simp; omega)) (And.intro ((box_new w4 (.int .i64 10) (.int .i64 2) (.int .i64 0) (.int .i64 0) 26).keep hb (by simp)) ((k4.keep (bk_alloc (BK.refl w4) _)).keep hb)))
  have k0 : BK (w4.alloc (.cells #[.int .i64 10, .int .i64 2, .int .i64 0, .int .i64 0] 26)) (w4.alloc (.cells #[.int .i64 10, .int .i64 2, .int .i64 0, .int .i64 0] 26)) := BK.refl _
  clear a0 a1 a2 a3 a4 a5 a6 a7 hlt hb4 x4 k4
  go_wp2_with fail
  obtain ⟨⟨q0, q1, q2, q3⟩, ⟨r0, r1, r2, r3⟩, ⟨_, _, _, _, a4, a5, a6, a7, _⟩⟩ := KC.out _ k0
  go_region_held3 (fun w' => w'.cell? ⟨w3.heap.size, 0, none⟩ = some (.int .i64 10) ∧ w'.cell? ⟨w3.heap.size, 1, none⟩ = some (.int .i64 2) ∧ w'.cell? ⟨w3.heap.size, 2, none⟩ = some (.int .i64 1) ∧ w'.cell? ⟨w3.heap.size, 3, none⟩ = some (.int .i64 3) ∧
      w'.cell? ⟨w4.heap.size, 0, none⟩ = some (.int .i64 10) ∧ w'.cell? ⟨w4.heap.size, 1, none⟩ = some (.int .i64 2) ∧ w'.cell? ⟨w4.heap.size, 2, none⟩ = some (.int .i64 0) ∧ w'.cell? ⟨w4.heap.size, 3, none⟩ = some (.int .i64 0) ∧
      w'.cell? ⟨b, off + 4, none⟩ = some (.int .i64 10) ∧ w'.cell? ⟨b, off + 5, none⟩ = some (.int .i64 2) ∧ w'.cell? ⟨b, off + 6, none⟩ = some (.int .i64 0) ∧ w'.cell? ⟨b, off + 7, none⟩ = some (.int .i64 0))
    (first | exact s12 (KC.out _ (by repeat (first | assumption | refine bk_drew ?_ | refine bk_alloc ?_ _))) | (go_keep; done))
    (first | (go_at_call 15; (with_reducible refine (ban1b (w0 := w4.alloc (.cells #[.int .i64 10, .int .i64 2, .int .i64 0, .int .i64 0] 26)) _ (by repeat (first | assumption | refine bk_drew ?_ | refine bk_alloc ?_ _))).mono ?_); rintro e w' ⟨rfl, hb'⟩) | (go_at_call 13; (with_reducible refine (bkc (w0 := w4.alloc (.cells #[.int .i64 10, .int .i64 2, .int .i64 0, .int .i64 0] 26)) (thr1 _) (by repeat (first | assumption | refine bk_drew ?_ | refine bk_alloc ?_ _))).mono ?_); rintro e w' ⟨rfl, hb'⟩) | (go_at_call 11; (with_reducible refine (bkc (w0 := w4.alloc (.cells #[.int .i64 10, .int .i64 2, .int .i64 0, .int .i64 0] 26)) (ready2 _) (by repeat (first | assumption | refine bk_drew ?_ | refine bk_alloc ?_ _))).mono ?_); rintro e w' ⟨rfl, hb'⟩) | (go_at_call 11; (with_reducible refine (bkc (w0 := w4.alloc (.cells #[.int .i64 10, .int .i64 2, .int .i64 0, .int .i64 0] 26)) (ready1 _) (by repeat (first | assumption | refine bk_drew ?_ | refine bk_alloc ?_ _))).mono ?_); rintro e w' ⟨rfl, hb'⟩))
  all_goals go_wp2_with fail
  all_goals go_ret
  all_goals exact ⟨rfl, bk_tr H4.out (by repeat (first | assumption | refine bk_drew ?_ | refine bk_alloc ?_ _))⟩
end Go.Proofs.Ytbpmkbnldoeffaa
