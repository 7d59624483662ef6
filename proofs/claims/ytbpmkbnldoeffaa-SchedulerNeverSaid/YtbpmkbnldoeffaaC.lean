/- Package scheduler and its reference: Take. -/
import Derived.Test.YtbpmkbnldoeffaaB
namespace Go.Proofs.Ytbpmkbnldoeffaa
open Go.RowKit
set_option linter.unusedVariables false
set_option linter.unusedSimpArgs false
def tkB (l t f : Int) : Bool := decide (nI f ≤ th l t)
def tU (b t i : Int) : Int := nI i + 1 + gr (nL b) (nT t)
def tT (t : Int) : Int := nT (nT t + 1)
theorem nI_b (i : Int) : 0 ≤ nI i ∧ nI i ≤ 1099511627776 := by unfold nI cl; omega
theorem gr_b (b t : Int) : 1 ≤ gr (nL b) (nT t) ∧ gr (nL b) (nT t) ≤ 1099511627776 := ⟨gr_ge (nL b) (nT t) (nL_b b).2.2, gr_le (nL b) (nT t)⟩
theorem tU_b (b t i : Int) : 1 ≤ tU b t i ∧ tU b t i ≤ 2199023255553 := by
  have h1 := nI_b i
  have h2 := gr_b b t
  unfold tU; omega
theorem th_n (l t : Int) : th (nL l) (nT t) = th l t := by
  unfold th nL nT; rw [cl_cl _ _ _ (by omega), cl_cl _ _ _ (by omega)]
theorem nclamp_any (n : Int) (w : World) : Calls Try.prog 21 #[.int .i64 n, .int .i64 0, .int .i64 1099511627776] w fun e w' => e = .returned (.int .i64 (nI n)) ∧ w = w' := clamp_any _ _ _ w
theorem rnclamp_any (n : Int) (w : World) : Calls Try.prog 23 #[.int .i64 n, .int .i64 0, .int .i64 1099511627776] w fun e w' => e = .returned (.int .i64 (nI n)) ∧ w = w' := rclamp_any _ _ _ w
theorem thrn_any (l b t u : Int) (w : World) : Calls Try.prog 13 #[.agg #[.int .i64 (nL l), .int .i64 b, .int .i64 (nT t), .int .i64 u]] w fun e w' => e = .returned (.int .i64 (th l t)) ∧ Below w.heap.size w w' := by
  have := thr_any (nL l) b (nT t) u w
  rwa [th_n] at this
theorem rthrn_any (l b t u : Int) (w : World) : Calls Try.prog 14 #[.agg #[.int .i64 (nL l), .int .i64 b, .int .i64 (nT t), .int .i64 u]] w fun e w' => e = .returned (.int .i64 (th l t)) ∧ Below w.heap.size w w' := by
  have := rthr_any (nL l) b (nT t) u w
  rwa [th_n] at this
/-- a state stored over a boxed one -/
abbrev st4 (w : World) (p : Nat) (x0 x1 x2 x3 : Value) : World := (((w.setCell ⟨p, 0, none⟩ x0).setCell ⟨p, 1, none⟩ x1).setCell ⟨p, 2, none⟩ x2).setCell ⟨p, 3, none⟩ x3
theorem bx_set {w : World} {p : Nat} {x0 x1 x2 x3 y0 y1 y2 y3 : Value} (h : Bx w p y0 y1 y2 y3) : Bx (st4 w p x0 x1 x2 x3) p x0 x1 x2 x3 := by
  obtain ⟨a0, a1, a2, a3⟩ := h
  refine ⟨?_, ?_, ?_, ?_⟩ <;> simp [World.cell?_setCell_same', World.cell?_setCell_other, a0, a1, a2, a3]
theorem bx_other {w : World} {p q : Nat} {x0 x1 x2 x3 y0 y1 y2 y3 : Value} (h : Bx w q y0 y1 y2 y3) (hpq : p ≠ q) : Bx (st4 w p x0 x1 x2 x3) q y0 y1 y2 y3 := by
  obtain ⟨a0, a1, a2, a3⟩ := h
  refine ⟨?_, ?_, ?_, ?_⟩ <;> simp [World.cell?_setCell_other, a0, a1, a2, a3, hpq]
theorem below_set {w : World} {B p : Nat} {w0 : World} {x0 x1 x2 x3 : Value} (h : Below B w0 w) (hp : B ≤ p) : Below B w0 (st4 w p x0 x1 x2 x3) :=
  (((h.setCell hp _).setCell hp _).setCell hp _).setCell hp _
/-- the two variables of Take -/
structure TK (w : World) (p : Nat) (l b t u : Int) : Prop where
  box : Bx w p (.int .i64 l) (.int .i64 b) (.int .i64 t) (.int .i64 u)
  res : Bx w (p + 1) (.int .i64 0) (.int .i64 0) (.int .i64 0) (.int .i64 0)
  fbox : ∀ k, w.frozen? ⟨p, k, none⟩ = false
  fres : ∀ k, w.frozen? ⟨p + 1, k, none⟩ = false
  lt : p + 1 < w.heap.size
theorem TK.keep {W w' : World} {p : Nat} {l b t u : Int} (h : TK W p l b t u) (hb : BK W w') : TK w' p l b t u := by
  have hb' : Below W.heap.size W w' := hb
  have := h.lt
  exact ⟨h.box.keep hb (by omega), h.res.keep hb (by omega), fun k => (hb'.frozen (p := ⟨p, k, none⟩) (by show p < _; omega)).trans (h.fbox k), fun k => (hb'.frozen (p := ⟨p + 1, k, none⟩) (by show p + 1 < _; omega)).trans (h.fres k), Nat.lt_of_lt_of_le h.lt hb'.size⟩
theorem TK.new (w : World) (l b t u : Int) : TK ((w.alloc (.cells #[.int .i64 l, .int .i64 b, .int .i64 t, .int .i64 u] 26)).alloc (.cells #[.int .i64 0, .int .i64 0, .int .i64 0, .int .i64 0] 26)) w.heap.size l b t u := by
  refine ⟨(box_new w _ _ _ _ 26).keep (below_alloc _ _) (by simp), ?_, fun k => ?_, fun k => ?_, by simp⟩
  · have := box_new (w.alloc (.cells #[.int .i64 l, .int .i64 b, .int .i64 t, .int .i64 u] 26)) (.int .i64 0) (.int .i64 0) (.int .i64 0) (.int .i64 0) 26
    simpa using this
  · exact ((below_alloc (w.alloc _) _).frozen (p := ⟨w.heap.size, k, none⟩) (by simp)).trans (by simp)
  · have : w.heap.size + 1 = (w.alloc (.cells #[.int .i64 l, .int .i64 b, .int .i64 t, .int .i64 u] 26)).heap.size := by simp
    rw [this, World.frozen?_alloc_new]
theorem TK.set {w : World} {p : Nat} {l b t u l' b' t' u' : Int} (h : TK w p l b t u) : TK (st4 w p (.int .i64 l') (.int .i64 b') (.int .i64 t') (.int .i64 u')) p l' b' t' u' :=
  ⟨bx_set h.box, bx_other h.res (by omega), fun k => by simp [h.fbox], fun k => by simp [h.fres], by simpa using h.lt⟩
set_option maxHeartbeats 4000000 in
theorem take_yes (l b t u i f : Int) (w : World) (h : tkB l t f = true) : Calls Try.prog 17 #[.agg #[.int .i64 l, .int .i64 b, .int .i64 t, .int .i64 u], .int .i64 i, .int .i64 f] w fun e w' => e = .returned (.tuple #[.agg #[.int .i64 (nL l), .int .i64 (nL b), .int .i64 (nT t), .int .i64 (nU u)], .bool true]) ∧ Below w.heap.size w w' := by
  have hth : nI f ≤ th l t := of_decide_eq_true h
  clear h
  go_enter Try.func17, Try.ntmps17
  go_wp2_with fail
  refine (clamped_any _ _ _ _ _).mono ?_
  rintro e w1 ⟨rfl, hb⟩
  have k1 := ((TK.new w l b t u).keep hb)
  have KC := Lib.hid (fun w' (hb : BK (st4 w1 w.heap.size (.int .i64 (nL l)) (.int .i64 (nL b)) (.int .i64 (nT t)) (.int .i64 (nU u))) w') => (k1.set (l' := nL l) (b' := nL b) (t' := nT t) (u' := nU u)).keep hb)
  have k0 : BK (st4 w1 w.heap.size (.int .i64 (nL l)) (.int .i64 (nL b)) (.int .i64 (nT t)) (.int .i64 (nU u))) (st4 w1 w.heap.size (.int .i64 (nL l)) (.int .i64 (nL b)) (.int .i64 (nT t)) (.int .i64 (nU u))) := BK.refl _
  have Hb := Lib.hid (below_set (p := w.heap.size) (x0 := .int .i64 (nL l)) (x1 := .int .i64 (nL b)) (x2 := .int .i64 (nT t)) (x3 := .int .i64 (nU u)) (below_chain (below_chain (below_alloc w _) (below_alloc _ _)) hb) (Nat.le_refl _))
  obtain ⟨⟨c0, c1, c2, c3⟩, _, f0, _, _⟩ := k1
  clear hb
  go_wp2_with fail
  clear c0 c1 c2 c3 f0
  obtain ⟨q0, q1, q2, q3⟩ := (KC.out _ k0).box
  go_region_held3 (fun w' => w'.cell? ⟨w.heap.size, 0, none⟩ = some (.int .i64 (nL l)) ∧ w'.cell? ⟨w.heap.size, 1, none⟩ = some (.int .i64 (nL b)) ∧ w'.cell? ⟨w.heap.size, 2, none⟩ = some (.int .i64 (nT t)) ∧ w'.cell? ⟨w.heap.size, 3, none⟩ = some (.int .i64 (nU u)))
    (first | go_keep | exact (KC.out _ (by first | assumption | exact bk_drew (by assumption))).box)
    (first | (go_at_call 13; refine (bkc (w0 := st4 w1 w.heap.size (.int .i64 (nL l)) (.int .i64 (nL b)) (.int .i64 (nT t)) (.int .i64 (nU u))) (thrn_any _ _ _ _ _) (by first | assumption | exact bk_drew (by assumption))).mono ?_; rintro e w' ⟨rfl, hb'⟩) | (go_at_call 21; refine (nclamp_any _ _).mono ?_; rintro e w' ⟨rfl, rfl⟩))
  all_goals clear q0 q1 q2 q3
  all_goals rename BK _ _ => hb'
  all_goals obtain ⟨⟨q0, q1, q2, q3⟩, ⟨r0, r1, r2, r3⟩, f0, f1, hz⟩ := KC.out _ hb'
  all_goals go_wp2_with fail
  all_goals refine bodyPost_ret (v := .tuple #[.agg #[.int .i64 (nL l), .int .i64 (nL b), .int .i64 (nT t), .int .i64 (nU u)], .bool true]) (by simp [results, Try.results17, go_sem, r0, r1, r2, r3]) rfl ⟨rfl, ?_⟩
  all_goals repeat (first | exact below_chain Hb.out hb' | refine Below.setCell ?_ (by simp) _)
set_option maxHeartbeats 4000000 in
theorem rtake_yes (l b t u i f : Int) (w : World) (h : tkB l t f = true) : Calls Try.prog 18 #[.agg #[.int .i64 l, .int .i64 b, .int .i64 t, .int .i64 u], .int .i64 i, .int .i64 f] w fun e w' => e = .returned (.tuple #[.agg #[.int .i64 (nL l), .int .i64 (nL b), .int .i64 (nT t), .int .i64 (nU u)], .bool true]) ∧ Below w.heap.size w w' := by
  have hth : nI f ≤ th l t := of_decide_eq_true h
  clear h
  go_enter Try.func18, Try.ntmps18
  go_wp2_with fail
  refine (norm_any _ _ _ _ _).mono ?_
  rintro e w1 ⟨rfl, hb⟩
  have k1 := ((TK.new w l b t u).keep hb)
  have KC := Lib.hid (fun w' (hb : BK (st4 w1 w.heap.size (.int .i64 (nL l)) (.int .i64 (nL b)) (.int .i64 (nT t)) (.int .i64 (nU u))) w') => (k1.set (l' := nL l) (b' := nL b) (t' := nT t) (u' := nU u)).keep hb)
  have k0 : BK (st4 w1 w.heap.size (.int .i64 (nL l)) (.int .i64 (nL b)) (.int .i64 (nT t)) (.int .i64 (nU u))) (st4 w1 w.heap.size (.int .i64 (nL l)) (.int .i64 (nL b)) (.int .i64 (nT t)) (.int .i64 (nU u))) := BK.refl _
  have Hb := Lib.hid (below_set (p := w.heap.size) (x0 := .int .i64 (nL l)) (x1 := .int .i64 (nL b)) (x2 := .int .i64 (nT t)) (x3 := .int .i64 (nU u)) (below_chain (below_chain (below_alloc w _) (below_alloc _ _)) hb) (Nat.le_refl _))
  obtain ⟨⟨c0, c1, c2, c3⟩, _, f0, _, _⟩ := k1
  clear hb
  go_wp2_with fail
  clear c0 c1 c2 c3 f0
  obtain ⟨q0, q1, q2, q3⟩ := (KC.out _ k0).box
  go_region_held3 (fun w' => w'.cell? ⟨w.heap.size, 0, none⟩ = some (.int .i64 (nL l)) ∧ w'.cell? ⟨w.heap.size, 1, none⟩ = some (.int .i64 (nL b)) ∧ w'.cell? ⟨w.heap.size, 2, none⟩ = some (.int .i64 (nT t)) ∧ w'.cell? ⟨w.heap.size, 3, none⟩ = some (.int .i64 (nU u)))
    (first | go_keep | exact (KC.out _ (by first | assumption | exact bk_drew (by assumption))).box)
    (first | (go_at_call 14; refine (bkc (w0 := st4 w1 w.heap.size (.int .i64 (nL l)) (.int .i64 (nL b)) (.int .i64 (nT t)) (.int .i64 (nU u))) (rthrn_any _ _ _ _ _) (by first | assumption | exact bk_drew (by assumption))).mono ?_; rintro e w' ⟨rfl, hb'⟩) | (go_at_call 23; refine (rnclamp_any _ _).mono ?_; rintro e w' ⟨rfl, rfl⟩))
  all_goals clear q0 q1 q2 q3
  all_goals rename BK _ _ => hb'
  all_goals obtain ⟨⟨q0, q1, q2, q3⟩, ⟨r0, r1, r2, r3⟩, f0, f1, hz⟩ := KC.out _ hb'
  all_goals go_wp2_with fail
  all_goals refine bodyPost_ret (v := .tuple #[.agg #[.int .i64 (nL l), .int .i64 (nL b), .int .i64 (nT t), .int .i64 (nU u)], .bool true]) (by simp [results, Try.results18, go_sem, r0, r1, r2, r3]) rfl ⟨rfl, ?_⟩
  all_goals repeat (first | exact below_chain Hb.out hb' | refine Below.setCell ?_ (by simp) _)
end Go.Proofs.Ytbpmkbnldoeffaa
