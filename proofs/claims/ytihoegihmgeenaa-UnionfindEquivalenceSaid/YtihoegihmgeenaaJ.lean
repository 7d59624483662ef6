/- The object with five rows in memory, step by step. -/
import Derived.Test.YtihoegihmgeenaaG
namespace Go.Proofs.Ytihoegihmgeenaa
open Go.RowKit
set_option linter.unusedVariables false
set_option linter.unusedSimpArgs false
abbrev sl (g n c : Nat) : Value := .slice (some ⟨g, 0, none⟩) n c
def five (n m g1 c1 g2 c2 g3 c3 g4 c4 g5 c5 : Nat) (x1 x2 x3 x4 : List Nat) (x5 : List (Int × Int)) : List Row :=
  [⟨sl g1 n c1, 3, 1, n, nums x1⟩, ⟨sl g2 n c2, 3, 1, n, nums x2⟩, ⟨sl g3 n c3, 3, 1, n, nums x3⟩, ⟨sl g4 n c4, 3, 1, n, nums x4⟩, ⟨sl g5 m c5, 53, 2, m, opv x5⟩]
/-- from W0 on, with the footprint F0, the object has come to these rows -/
def RW (W0 : World) (F0 : Nat → Prop) (B b n m : Nat) (x1 x2 x3 x4 : List Nat) (x5 : List (Int × Int)) (wx : World) : Prop :=
  ∃ g1 c1 g2 c2 g3 c3 g4 c4 g5 c5, SxL wx B b (five n m g1 c1 g2 c2 g3 c3 g4 c4 g5 c5 x1 x2 x3 x4 x5) ∧ Step W0 wx F0 (foot b (five n m g1 c1 g2 c2 g3 c3 g4 c4 g5 c5 x1 x2 x3 x4 x5))
theorem RW.start {w : World} {B b : Nat} {h : List HOp} {F : Nat → Prop} (u : U w B b h F) (hn : 0 < nE h) (q : Nat) : RW w F B b (nE h) h.length (par h) (siz h) (lst h) (nxt h) (trl h) (w.drewN q) := by
  obtain ⟨v1, v2, v3, v4, v5, u⟩ := u
  obtain ⟨g1, c1, g2, c2, g3, c3, g4, c4, g5, c5, rfl, rfl, rfl, rfl, rfl⟩ := u.shapes hn
  refine ⟨g1, c1, g2, c2, g3, c3, g4, c4, g5, c5, u.rows.keep fun _ _ => rfl, ?_⟩
  rw [u.ft]
  exact ⟨rfl, rfl, rfl, Nat.le_refl _, fun _ _ _ => rfl, fun _ h => .inl h⟩
theorem RW.finish {w wx : World} {B b : Nat} {h : List HOp} {F : Nat → Prop} (hok : ok h) (R : RW w F B b (nE h) h.length (par h) (siz h) (lst h) (nxt h) (trl h) wx) : ∃ F', U wx B b h F' ∧ Step w wx F F' := by
  obtain ⟨g1, c1, g2, c2, g3, c3, g4, c4, g5, c5, S, T⟩ := R
  exact ⟨_, ⟨_, _, _, _, _, ⟨hok, S, rfl⟩⟩, T⟩
structure Fct (wx : World) (B b n m : Nat) (g1 c1 g2 c2 g3 c3 g4 c4 g5 c5 : Nat) (x1 x2 x3 x4 : List Nat) (x5 : List (Int × Int)) : Prop where
  k1 : wx.cell? ⟨b, 1, none⟩ = some (sl g1 n c1)
  k2 : wx.cell? ⟨b, 2, none⟩ = some (sl g2 n c2)
  k3 : wx.cell? ⟨b, 3, none⟩ = some (sl g3 n c3)
  k4 : wx.cell? ⟨b, 4, none⟩ = some (sl g4 n c4)
  k5 : wx.cell? ⟨b, 5, none⟩ = some (sl g5 m c5)
  f : ∀ i, wx.frozen? ⟨b, i, none⟩ = false
  d1 : ∀ j, j < n → wx.cell? ⟨g1, j, none⟩ = some (.int .i64 (x1.getD j 0 : Nat))
  d2 : ∀ j, j < n → wx.cell? ⟨g2, j, none⟩ = some (.int .i64 (x2.getD j 0 : Nat))
  d3 : ∀ j, j < n → wx.cell? ⟨g3, j, none⟩ = some (.int .i64 (x3.getD j 0 : Nat))
  d4 : ∀ j, j < n → wx.cell? ⟨g4, j, none⟩ = some (.int .i64 (x4.getD j 0 : Nat))
  f1 : ∀ j, wx.frozen? ⟨g1, j, none⟩ = false
  f2 : ∀ j, wx.frozen? ⟨g2, j, none⟩ = false
  f3 : ∀ j, wx.frozen? ⟨g3, j, none⟩ = false
  f4 : ∀ j, wx.frozen? ⟨g4, j, none⟩ = false
  o5 : wx.ownsRow B 53 2 (sl g5 m c5) m (opv x5)
  lt : B ≤ b ∧ b < wx.heap.size
theorem five_fct {wx : World} {B b n m g1 c1 g2 c2 g3 c3 g4 c4 g5 c5 : Nat} {x1 x2 x3 x4 : List Nat} {x5 : List (Int × Int)} (S : SxL wx B b (five n m g1 c1 g2 c2 g3 c3 g4 c4 g5 c5 x1 x2 x3 x4 x5)) : Fct wx B b n m g1 c1 g2 c2 g3 c3 g4 c4 g5 c5 x1 x2 x3 x4 x5 := by
  have o := S.own
  simp only [five, List.mem_cons, List.not_mem_nil, or_false, forall_eq_or_imp, forall_eq] at o
  exact ⟨S.cell 0 _ rfl, S.cell 1 _ rfl, S.cell 2 _ rfl, S.cell 3 _ rfl, S.cell 4 _ rfl, S.free, int_cell o.1, int_cell o.2.1, int_cell o.2.2.1, int_cell o.2.2.2.1,
    World.ownsRow.frozenAt o.1, World.ownsRow.frozenAt o.2.1, World.ownsRow.frozenAt o.2.2.1, World.ownsRow.frozenAt o.2.2.2.1, o.2.2.2.2, ⟨S.low, (Array.getElem?_eq_some_iff.1 S.blk).1⟩⟩
section
variable {W0 : World} {F0 : Nat → Prop} {wx : World} {B b n m g1 c1 g2 c2 g3 c3 g4 c4 g5 c5 : Nat} {x1 x2 x3 x4 : List Nat} {x5 : List (Int × Int)}
theorem st_drew (w : World) (q : Nat) (F : Nat → Prop) : Step w (w.drewN q) F F := ⟨rfl, rfl, rfl, Nat.le_refl _, fun _ _ _ => rfl, fun _ h => .inl h⟩
/-- a number of the parents is stored (and any draws) -/
theorem RW.set1 (S : SxL wx B b (five n m g1 c1 g2 c2 g3 c3 g4 c4 g5 c5 x1 x2 x3 x4 x5)) (T : Step W0 wx F0 (foot b (five n m g1 c1 g2 c2 g3 c3 g4 c4 g5 c5 x1 x2 x3 x4 x5))) (j v q : Nat) :
    RW W0 F0 B b n m (x1.set j v) x2 x3 x4 x5 ((wx.setCell ⟨g1, j, none⟩ (.int .i64 v)).drewN q) := by
  have P := SxL.store (L := []) (j := j) (u := .int .i64 v) S
  rw [← nums_set] at P
  exact ⟨g1, c1, g2, c2, g3, c3, g4, c4, g5, c5, P.1.keep fun _ _ => rfl, (T.trans P.2).trans (st_drew _ _ _)⟩
theorem RW.set2 (S : SxL wx B b (five n m g1 c1 g2 c2 g3 c3 g4 c4 g5 c5 x1 x2 x3 x4 x5)) (T : Step W0 wx F0 (foot b (five n m g1 c1 g2 c2 g3 c3 g4 c4 g5 c5 x1 x2 x3 x4 x5))) (j v q : Nat) :
    RW W0 F0 B b n m x1 (x2.set j v) x3 x4 x5 ((wx.setCell ⟨g2, j, none⟩ (.int .i64 v)).drewN q) := by
  have P := SxL.store (L := [⟨sl g1 n c1, 3, 1, n, nums x1⟩]) (j := j) (u := .int .i64 v) S
  rw [← nums_set] at P
  exact ⟨g1, c1, g2, c2, g3, c3, g4, c4, g5, c5, P.1.keep fun _ _ => rfl, (T.trans P.2).trans (st_drew _ _ _)⟩
theorem RW.set3 (S : SxL wx B b (five n m g1 c1 g2 c2 g3 c3 g4 c4 g5 c5 x1 x2 x3 x4 x5)) (T : Step W0 wx F0 (foot b (five n m g1 c1 g2 c2 g3 c3 g4 c4 g5 c5 x1 x2 x3 x4 x5))) (j v q : Nat) :
    RW W0 F0 B b n m x1 x2 (x3.set j v) x4 x5 ((wx.setCell ⟨g3, j, none⟩ (.int .i64 v)).drewN q) := by
  have P := SxL.store (L := [⟨sl g1 n c1, 3, 1, n, nums x1⟩, ⟨sl g2 n c2, 3, 1, n, nums x2⟩]) (j := j) (u := .int .i64 v) S
  rw [← nums_set] at P
  exact ⟨g1, c1, g2, c2, g3, c3, g4, c4, g5, c5, P.1.keep fun _ _ => rfl, (T.trans P.2).trans (st_drew _ _ _)⟩
theorem RW.set4 (S : SxL wx B b (five n m g1 c1 g2 c2 g3 c3 g4 c4 g5 c5 x1 x2 x3 x4 x5)) (T : Step W0 wx F0 (foot b (five n m g1 c1 g2 c2 g3 c3 g4 c4 g5 c5 x1 x2 x3 x4 x5))) (j v q : Nat) :
    RW W0 F0 B b n m x1 x2 x3 (x4.set j v) x5 ((wx.setCell ⟨g4, j, none⟩ (.int .i64 v)).drewN q) := by
  have P := SxL.store (L := [⟨sl g1 n c1, 3, 1, n, nums x1⟩, ⟨sl g2 n c2, 3, 1, n, nums x2⟩, ⟨sl g3 n c3, 3, 1, n, nums x3⟩]) (j := j) (u := .int .i64 v) S
  rw [← nums_set] at P
  exact ⟨g1, c1, g2, c2, g3, c3, g4, c4, g5, c5, P.1.keep fun _ _ => rfl, (T.trans P.2).trans (st_drew _ _ _)⟩
/-- two numbers of the ring are stored -/
theorem RW.swap4 (S : SxL wx B b (five n m g1 c1 g2 c2 g3 c3 g4 c4 g5 c5 x1 x2 x3 x4 x5)) (T : Step W0 wx F0 (foot b (five n m g1 c1 g2 c2 g3 c3 g4 c4 g5 c5 x1 x2 x3 x4 x5))) (i v j u q : Nat) :
    RW W0 F0 B b n m x1 x2 x3 ((x4.set i v).set j u) x5 (((wx.setCell ⟨g4, i, none⟩ (.int .i64 v)).setCell ⟨g4, j, none⟩ (.int .i64 u)).drewN q) := by
  have P := SxL.store (L := [⟨sl g1 n c1, 3, 1, n, nums x1⟩, ⟨sl g2 n c2, 3, 1, n, nums x2⟩, ⟨sl g3 n c3, 3, 1, n, nums x3⟩]) (j := i) (u := .int .i64 v) S
  have P2 := SxL.store (L := [⟨sl g1 n c1, 3, 1, n, nums x1⟩, ⟨sl g2 n c2, 3, 1, n, nums x2⟩, ⟨sl g3 n c3, 3, 1, n, nums x3⟩]) (j := j) (u := .int .i64 u) P.1
  rw [← nums_set, ← nums_set] at P2
  rw [← nums_set] at P
  exact ⟨g1, c1, g2, c2, g3, c3, g4, c4, g5, c5, P2.1.keep fun _ _ => rfl, ((T.trans P.2).trans P2.2).trans (st_drew _ _ _)⟩
end
end Go.Proofs.Ytihoegihmgeenaa
