/- One call on both: Undo. -/
import Derived.Test.YtihoegihmgeenaaAC
namespace Go.Proofs.Ytihoegihmgeenaa
open Go.RowKit
set_option linter.unusedVariables false
set_option linter.unusedSimpArgs false
set_option maxRecDepth 100000 in
set_option maxHeartbeats 4000000 in
theorem step_undo_no (B b : Nat) (h : List HOp) (F : Nat → Prop) (lv : Value) (l : List ROp) (x y : Int) (w : World) (k : Both w B b h F lv l) (hs : h.length ≤ 100) (hn : x < 0 ∨ h.length < x) :
    Calls Try.prog 21 #[.pointer (some ⟨b, 0, none⟩), lv, .agg #[.int .i64 3, .int .i64 x, .int .i64 y]] w (StepPost w B b h) := by
  have k1 := k.below (below_alloc w (.cells #[.int .i64 3, .int .i64 x, .int .i64 y] 33))
  have h1 := Lib.hid (undo_no B b h F x _ k1.u hn (by omega))
  have hB := k.u.base
  have hl := M_len h l k.o.m
  obtain ⟨p, c, rfl⟩ := own_shape k.o.own
  have K1 := Lib.hid k1
  have fin : ∀ w', w' = w.alloc (.cells #[.int .i64 3, .int .i64 x, .int .i64 y] 33) → StepPost w B b h (.returned (.tuple #[.slice p l.length c, .bool true])) w' :=
    fun w' e => by subst e; exact ⟨_, l, h, F, rfl, K1.out, by omega, below_mono (below_alloc w _) hB⟩
  have Fin := Lib.hid fin
  clear k k1 fin
  by_cases h0 : x < 0
  · have hd : decide (x < 0) = true := by simpa using h0
    clear hn hl
    go_enter Try.func21, Try.ntmps21
    go_wp2_with fail
    refine h1.out.mono ?_
    rintro e w1 ⟨rfl, rfl⟩
    go_wp2_with fail
    go_ret2
    exact Fin.out _ rfl
  · have hd : decide (x < 0) = false := by simpa using h0
    have hlx : (l.length : Int) < x := by omega
    have hd2 : decide ((l.length : Int) < x) = true := by simpa using hlx
    clear hn hl
    go_enter Try.func21, Try.ntmps21
    go_wp2_with fail
    refine h1.out.mono ?_
    rintro e w1 ⟨rfl, rfl⟩
    go_wp2_with fail
    go_ret2
    exact Fin.out _ rfl
theorem rops_take (l : List ROp) (m : Nat) : (rops l).take (m * 3) = rops (l.take m) := by
  induction m generalizing l with
  | zero => simp [rops]
  | succ m ih =>
    cases l with
    | nil => simp [rops]
    | cons a l =>
      have := ih l
      simp only [rops, List.flatMap_cons, List.take_succ_cons] at this ⊢
      rw [show (m + 1) * 3 = m * 3 + 1 + 1 + 1 by omega]
      simp only [List.cons_append, List.nil_append, List.take_succ_cons]
      rw [this]
set_option maxRecDepth 100000 in
set_option maxHeartbeats 4000000 in
theorem step_undo_yes (B b : Nat) (h : List HOp) (F : Nat → Prop) (lv : Value) (l : List ROp) (x : Nat) (y : Int) (w : World) (k : Both w B b h F lv l) (hs : h.length ≤ 60) (hx : x ≤ h.length) :
    Calls Try.prog 21 #[.pointer (some ⟨b, 0, none⟩), lv, .agg #[.int .i64 3, .int .i64 x, .int .i64 y]] w (StepPost w B b h) := by
  have k1 := k.below (below_alloc w (.cells #[.int .i64 3, .int .i64 x, .int .i64 y] 33))
  have h1 := Lib.hid (undo_yes B b h F x _ k1.u hx hs)
  have hB := k.u.base
  have hl := M_len h l k.o.m
  have hxl : x ≤ l.length := by omega
  have hF := Lib.hid (fun j hj => (k.u.lt j hj).2)
  have hm : M (l.take x) (h.drop (h.length - x)) := by have := M_pre k.o.m x hx; unfold pre at this; exact this
  have HM := Lib.hid hm
  have Hok := Lib.hid (ok_drop (h.length - x) h k.o.ok)
  have hd : decide ((x : Int) < 0) = false := by simp
  have hd2 : decide (l.length < x) = false := by simp; omega
  have hlen : (l.take x).length = x := by simp; omega
  have HL := Lib.hid hlen
  have K1 := Lib.hid k1
  by_cases h0 : l.length = 0
  · have hl0 : l = [] := List.eq_nil_of_length_eq_zero h0
    have hx0 : x = 0 := by omega
    subst hl0
    subst hx0
    obtain ⟨p, c, rfl⟩ := own_shape k.o.own
    clear k k1 hm hlen h0 hl
    have Hsl : Hid (∀ w' F', U w' B b (h.drop (h.length - 0)) F' → Step (w.alloc (.cells #[.int .i64 3, .int .i64 (0 : Nat), .int .i64 y] 33)) w' F F' → StepPost w B b h (.returned (.tuple #[.slice p 0 c, .bool true])) w') := Lib.hid (by
      intro w' F' u' s'
      have A := K1.out.after s'
      exact ⟨_, [], _, F', rfl, ⟨u', ⟨A.1.own, HM.out, u'.ok⟩, A.2⟩, by simp, (below_mono (below_alloc w _) hB).trans (K1.out.u.step s')⟩)
    cases p with
    | none =>
      go_enter Try.func21, Try.ntmps21
      go_wp2_with fail
      refine h1.out.mono ?_
      rintro e w1 ⟨rfl, F', u', s'⟩
      have ob : w1.heap[w.heap.size]? = some (.cells #[.int .i64 3, .int .i64 (0 : Nat), .int .i64 y] 33 (0, 0)) :=
        (s'.block _ (by simp) (fun g => by have := hF.out _ g; omega)).trans (heap_alloc_new w _)
      obtain ⟨_, o1, o2⟩ := act_cells ob
      have Fin := Lib.hid (Hsl.out w1 F' u' s')
      clear ob u' s'
      go_wp2_with fail
      go_ret2
      exact Fin.out
    | some ad =>
      go_enter Try.func21, Try.ntmps21
      go_wp2_with fail
      refine h1.out.mono ?_
      rintro e w1 ⟨rfl, F', u', s'⟩
      have ob : w1.heap[w.heap.size]? = some (.cells #[.int .i64 3, .int .i64 (0 : Nat), .int .i64 y] 33 (0, 0)) :=
        (s'.block _ (by simp) (fun g => by have := hF.out _ g; omega)).trans (heap_alloc_new w _)
      obtain ⟨_, o1, o2⟩ := act_cells ob
      have Fin := Lib.hid (Hsl.out w1 F' u' s')
      clear ob u' s'
      go_wp2_with fail
      go_ret2
      exact Fin.out
  · obtain ⟨g, c, rfl, _⟩ := World.ownsRow.form k.o.own (by omega)
    have hc := own_cap k.o.own
    clear k k1 hm hlen hl
    go_enter Try.func21, Try.ntmps21
    go_wp2_with fail
    refine h1.out.mono ?_
    rintro e w1 ⟨rfl, F', u', s'⟩
    have ob : w1.heap[w.heap.size]? = some (.cells #[.int .i64 3, .int .i64 x, .int .i64 y] 33 (0, 0)) :=
      (s'.block _ (by simp) (fun g => by have := hF.out _ g; omega)).trans (heap_alloc_new w _)
    obtain ⟨_, o1, o2⟩ := act_cells ob
    have A := K1.out.after s'
    have ot := own_take A.1.own hxl
    rw [rops_take] at ot
    have fin : StepPost w B b h (.returned (.tuple #[.slice (some ⟨g, 0, none⟩) x c, .bool true])) w1 :=
      ⟨_, l.take x, _, F', rfl, ⟨u', ⟨by rw [HL.out]; exact ot, HM.out, u'.ok⟩, fun j hj => A.2 j hj⟩, by simp; omega, (below_mono (below_alloc w _) hB).trans (K1.out.u.step s')⟩
    have Fin := Lib.hid fin
    clear ob A ot fin u' s'
    go_wp2_with fail
    go_ret2
    exact Fin.out
end Go.Proofs.Ytihoegihmgeenaa
