/- One call on both: Union. -/
import Derived.Test.YtihoegihmgeenaaAB
namespace Go.Proofs.Ytihoegihmgeenaa
open Go.RowKit
set_option linter.unusedVariables false
set_option linter.unusedSimpArgs false
theorem act_cells {w : World} {hp : Nat} {x y z : Value} (h : w.heap[hp]? = some (.cells #[x, y, z] 33 (0, 0))) : w.cell? ⟨hp, 0, none⟩ = some x ∧ w.cell? ⟨hp, 1, none⟩ = some y ∧ w.cell? ⟨hp, 2, none⟩ = some z :=
  ⟨by rw [cell_of_row w hp 0 _ 33 (0, 0) h]; rfl, by rw [cell_of_row w hp 1 _ 33 (0, 0) h]; rfl, by rw [cell_of_row w hp 2 _ 33 (0, 0) h]; rfl⟩
theorem ret_vb {v : Value} {a b : Bool} (h : a = b) : Ending.returned (.tuple #[v, .bool a]) = .returned (.tuple #[v, .bool b]) := by rw [h]
set_option maxRecDepth 100000 in
set_option maxHeartbeats 4000000 in
theorem step_none (B b : Nat) (h : List HOp) (F : Nat → Prop) (lv : Value) (l : List ROp) (x y : Int) (w : World) (k : Both w B b h F lv l) (hs : h.length ≤ 100) (hn : (hasB h x && hasB h y) = false) :
    Calls Try.prog 21 #[.pointer (some ⟨b, 0, none⟩), lv, .agg #[.int .i64 2, .int .i64 x, .int .i64 y]] w (StepPost w B b h) := by
  have k1 := k.below (below_alloc w (.cells #[.int .i64 2, .int .i64 x, .int .i64 y] 33))
  have h1 := Lib.hid (union_none B b h F x y _ k1.u hn)
  have h2 := Lib.hid (runion_none B lv l h x y _ k1.o (by omega) hn)
  have hB := k.u.base
  obtain ⟨p, c, rfl⟩ := own_shape k.o.own
  have K1 := Lib.hid k1
  clear k k1 hn
  go_enter Try.func21, Try.ntmps21
  go_wp2_with fail
  refine h1.out.mono ?_
  rintro e w1 ⟨rfl, rfl⟩
  go_wp2_with fail
  refine h2.out.mono ?_
  rintro e w2 ⟨rfl, hb2⟩
  have fin : StepPost w B b h (.returned (.tuple #[.slice p l.length c, .bool true])) w2 :=
    ⟨_, l, h, F, rfl, K1.out.below hb2, by omega, below_mono (below_chain (below_alloc w _) hb2) hB⟩
  have Fin := Lib.hid fin
  clear fin hb2
  go_wp2_with fail
  go_ret2
  exact Fin.out
set_option maxRecDepth 100000 in
set_option maxHeartbeats 4000000 in
theorem step_same (B b : Nat) (h : List HOp) (F : Nat → Prop) (lv : Value) (l : List ROp) (x y : Nat) (w : World) (k : Both w B b h F lv l) (hs : h.length ≤ 100) (hx : x < nE h) (hy : y < nE h) (he : R h x = R h y) :
    Calls Try.prog 21 #[.pointer (some ⟨b, 0, none⟩), lv, .agg #[.int .i64 2, .int .i64 x, .int .i64 y]] w (StepPost w B b h) := by
  have k1 := k.below (below_alloc w (.cells #[.int .i64 2, .int .i64 x, .int .i64 y] 33))
  have h1 := Lib.hid (union_same B b h F x y _ k1.u (by omega) hx hy he)
  have h2 := Lib.hid (runion_same B lv l h x y _ k1.o (by omega) hx hy ((lab_iff h k.u.ok x y hx hy).2 he))
  have hB := k.u.base
  obtain ⟨p, c, rfl⟩ := own_shape k.o.own
  have K1 := Lib.hid k1
  generalize lab h x = z at h1 h2
  clear k k1 he hx hy
  go_enter Try.func21, Try.ntmps21
  go_wp2_with fail
  refine h1.out.mono ?_
  rintro e w1 ⟨rfl, rfl⟩
  go_wp2_with fail
  refine h2.out.mono ?_
  rintro e w2 ⟨rfl, hb2⟩
  have fin : StepPost w B b h (.returned (.tuple #[.slice p l.length c, .bool true])) w2 :=
    ⟨_, l, h, F, rfl, K1.out.below hb2, by omega, below_mono (below_chain (below_alloc w _) hb2) hB⟩
  have Fin := Lib.hid fin
  clear fin hb2
  go_wp2_with fail
  go_ret2
  exact Fin.out
/-- Union of two sets, whichever is greater -/
theorem union_two (B b : Nat) (h : List HOp) (F : Nat → Prop) (x y : Nat) (w : World) (u : U w B b h F) (hs : h.length ≤ 60) (hx : x < nE h) (hy : y < nE h) (hne : R h x ≠ R h y) :
    Calls Try.prog 14 #[.pointer (some ⟨b, 0, none⟩), .int .i64 x, .int .i64 y] w fun e w' => e = .returned (.tuple #[.int .i64 (min (lab h x) (lab h y) : Nat), .bool true]) ∧
      ∃ r c F', U w' B b (some (r, c) :: h) F' ∧ Step w w' F F' ∧ ((R h x = r ∧ R h y = c) ∨ (R h x = c ∧ R h y = r)) := by
  have ex : (lst h).getD (R h x) 0 = lab h x := rfl
  have ey : (lst h).getD (R h y) 0 = lab h y := rfl
  by_cases hlt : (siz h).getD (R h x) 0 < (siz h).getD (R h y) 0
  · refine (union_joinB B b h F x y (R h y) (R h x) w u hs hx hy rfl rfl (fun e => hne e.symm) hlt).mono ?_
    rintro e w' ⟨he, F', u', s'⟩
    rw [ex, ey, Nat.min_comm] at he
    exact ⟨he, _, _, F', u', s', .inr ⟨rfl, rfl⟩⟩
  · refine (union_joinA B b h F x y (R h x) (R h y) w u hs hx hy rfl rfl hne hlt).mono ?_
    rintro e w' ⟨he, F', u', s'⟩
    rw [ex, ey] at he
    exact ⟨he, _, _, F', u', s', .inl ⟨rfl, rfl⟩⟩
set_option maxRecDepth 100000 in
set_option maxHeartbeats 4000000 in
theorem step_join (B b : Nat) (h : List HOp) (F : Nat → Prop) (lv : Value) (l : List ROp) (x y : Nat) (w : World) (k : Both w B b h F lv l) (hs : h.length ≤ 60) (hx : x < nE h) (hy : y < nE h) (he : R h x ≠ R h y) :
    Calls Try.prog 21 #[.pointer (some ⟨b, 0, none⟩), lv, .agg #[.int .i64 2, .int .i64 x, .int .i64 y]] w (StepPost w B b h) := by
  have k1 := k.below (below_alloc w (.cells #[.int .i64 2, .int .i64 x, .int .i64 y] 33))
  have h1 := Lib.hid (union_two B b h F x y _ k1.u hs hx hy he)
  have hlne : lab h x ≠ lab h y := fun g => he ((lab_iff h k.u.ok x y hx hy).1 g)
  have hc : ∀ r c, ok (some (r, c) :: h) → ((R h x = r ∧ R h y = c) ∨ (R h x = c ∧ R h y = r)) → M (l ++ [(false, (x : Int), (y : Int))]) (some (r, c) :: h) := fun r c _ q => ⟨l, x, y, rfl, k.o.m, hx, hy, q⟩
  have h2 := Lib.hid (fun w' (o : OL w' B lv l h) => runion_join B lv l h x y w' o (by omega) hx hy hlne)
  have hB := k.u.base
  obtain ⟨p, c, rfl⟩ := own_shape k.o.own
  have K1 := Lib.hid k1
  have HC := Lib.hid hc
  have hF := Lib.hid (fun j hj => (k.u.lt j hj).2)
  clear k k1 he hx hy hlne hc
  generalize (min (lab h x) (lab h y)) = z at h1 h2
  go_enter Try.func21, Try.ntmps21
  go_wp2_with fail
  refine h1.out.mono ?_
  rintro e w1 ⟨rfl, r, cc, F', u', s', q⟩
  have A1 := K1.out.after s'
  have h3 := Lib.hid (h2.out w1 A1.1)
  have hB1 : B ≤ w1.heap.size := u'.base
  have hbw : Below B w w1 := (below_mono (below_alloc w _) hB).trans (K1.out.u.step s')
  have ob : w1.heap[w.heap.size]? = some (.cells #[.int .i64 2, .int .i64 x, .int .i64 y] 33 (0, 0)) :=
    (s'.block _ (by simp) (fun g => by have := hF.out _ g; omega)).trans (heap_alloc_new w _)
  obtain ⟨_, o1, o2⟩ := act_cells ob
  have Hu := Lib.hid u'
  have Hq := Lib.hid q
  clear ob
  have Hbw := Lib.hid hbw
  clear u' s' q A1 hbw
  go_wp2_with fail
  clear o1 o2
  refine h3.out.mono ?_
  rintro e w2 ⟨v, rfl, o2, hb2⟩
  have u2 := Hu.out.below hb2
  have fin : StepPost w B b h (.returned (.tuple #[v, .bool true])) w2 :=
    ⟨_, l ++ [(false, (x : Int), (y : Int))], some (r, cc) :: h, F', rfl, ⟨u2, ⟨by simpa using own_weak o2 hB1, HC.out r cc Hu.out.ok Hq.out, Hu.out.ok⟩, fun j hj hF => by
      have a1 := (o2.lt j hj).1
      have a2 := (Hu.out.lt j hF).2
      omega⟩, by simp, Hbw.out.trans (below_mono hb2 hB1)⟩
  have Fin := Lib.hid fin
  clear fin hb2 o2 u2
  go_wp2_with fail
  go_ret2
  exact Fin.out
end Go.Proofs.Ytihoegihmgeenaa
