/- swapNext and undoMake. -/
import Derived.Test.YtihoegihmgeenaaD
import Derived.Deep.DeepCutAuto
namespace Go.Proofs.Ytihoegihmgeenaa
open Go.RowKit
set_option linter.unusedVariables false
set_option linter.unusedSimpArgs false
set_option maxHeartbeats 4000000 in
theorem swap_raw (b g n cap r c x y : Nat) (w : World) (hn : n ≤ 100000) (hr : r < n) (hc : c < n) (hrc : r ≠ c) (k4 : w.cell? ⟨b, 4, none⟩ = some (.slice (some ⟨g, 0, none⟩) n cap))
    (cr : w.cell? ⟨g, r, none⟩ = some (.int .i64 x)) (cc : w.cell? ⟨g, c, none⟩ = some (.int .i64 y)) (fr : w.frozen? ⟨g, r, none⟩ = false) (fc : w.frozen? ⟨g, c, none⟩ = false) :
    Calls Try.prog 29 #[.pointer (some ⟨b, 0, none⟩), .int .i64 r, .int .i64 c] w fun e w' => e = .returned (.tuple #[]) ∧ ∃ q, w' = ((w.setCell ⟨g, r, none⟩ (.int .i64 y)).setCell ⟨g, c, none⟩ (.int .i64 x)).drewN q := by
  have hr' : (r : Int) < (n : Int) := by omega
  have hc' : (c : Int) < (n : Int) := by omega
  go_enter Try.func29, Try.ntmps29
  go_wp2
  go_region
  all_goals (try go_wp2)
  all_goals go_end0
  all_goals exact ⟨rfl, 1, rfl⟩
theorem SxL.trim {w : World} {B b : Nat} {L R : List Row} {e : TypeId} {sz n g cap m : Nat} {xs : List Value} (S : SxL w B b (L ++ ⟨.slice (some ⟨g, 0, none⟩) n cap, e, sz, n, xs⟩ :: R)) (hm : m ≤ n) (i : Nat) (hi : i = L.length + 1) :
    SxL (w.setCell ⟨b, i, none⟩ (.slice (some ⟨g, 0, none⟩) m cap)) B b (L ++ ⟨.slice (some ⟨g, 0, none⟩) m cap, e, sz, m, xs.take (m * sz)⟩ :: R) ∧
    Step w (w.setCell ⟨b, i, none⟩ (.slice (some ⟨g, 0, none⟩) m cap)) (foot b (L ++ ⟨.slice (some ⟨g, 0, none⟩) n cap, e, sz, n, xs⟩ :: R)) (foot b (L ++ ⟨.slice (some ⟨g, 0, none⟩) m cap, e, sz, m, xs.take (m * sz)⟩ :: R)) :=
  S.put (w1 := w) (r' := ⟨.slice (some ⟨g, 0, none⟩) m cap, e, sz, m, xs.take (m * sz)⟩) (Nat.le_refl _) rfl rfl rfl (fun _ _ _ => rfl) (own_take (own_get S) hm) (fun k hk => .inl hk) i hi
theorem own_cap {w : World} {B e sz n g cap : Nat} {xs : List Value} (o : w.ownsRow B e sz (.slice (some ⟨g, 0, none⟩) n cap) n xs) : n ≤ cap := by
  rcases o.2 with ⟨h, _⟩ | ⟨g', cap', cur, hv, hb, hg, hn, hc, hs, ht⟩
  · cases h
  · cases hv; exact hn
set_option maxHeartbeats 4000000 in
theorem undoMake_raw (B b n g1 c1 g2 c2 g3 c3 g4 c4 : Nat) (x1 x2 x3 x4 : List Value) (r5 : Row) (w : World) (hn : n ≤ 100000)
    (S : SxL w B b [⟨.slice (some ⟨g1, 0, none⟩) (n + 1) c1, 3, 1, n + 1, x1⟩, ⟨.slice (some ⟨g2, 0, none⟩) (n + 1) c2, 3, 1, n + 1, x2⟩, ⟨.slice (some ⟨g3, 0, none⟩) (n + 1) c3, 3, 1, n + 1, x3⟩, ⟨.slice (some ⟨g4, 0, none⟩) (n + 1) c4, 3, 1, n + 1, x4⟩, r5]) :
    Calls Try.prog 30 #[.pointer (some ⟨b, 0, none⟩)] w fun e w' => e = .returned (.tuple #[]) ∧
      SxL w' B b [⟨.slice (some ⟨g1, 0, none⟩) n c1, 3, 1, n, x1.take (n * 1)⟩, ⟨.slice (some ⟨g2, 0, none⟩) n c2, 3, 1, n, x2.take (n * 1)⟩, ⟨.slice (some ⟨g3, 0, none⟩) n c3, 3, 1, n, x3.take (n * 1)⟩, ⟨.slice (some ⟨g4, 0, none⟩) n c4, 3, 1, n, x4.take (n * 1)⟩, r5] ∧
      Step w w' (foot b [⟨.slice (some ⟨g1, 0, none⟩) (n + 1) c1, 3, 1, n + 1, x1⟩, ⟨.slice (some ⟨g2, 0, none⟩) (n + 1) c2, 3, 1, n + 1, x2⟩, ⟨.slice (some ⟨g3, 0, none⟩) (n + 1) c3, 3, 1, n + 1, x3⟩, ⟨.slice (some ⟨g4, 0, none⟩) (n + 1) c4, 3, 1, n + 1, x4⟩, r5])
        (foot b [⟨.slice (some ⟨g1, 0, none⟩) n c1, 3, 1, n, x1.take (n * 1)⟩, ⟨.slice (some ⟨g2, 0, none⟩) n c2, 3, 1, n, x2.take (n * 1)⟩, ⟨.slice (some ⟨g3, 0, none⟩) n c3, 3, 1, n, x3.take (n * 1)⟩, ⟨.slice (some ⟨g4, 0, none⟩) n c4, 3, 1, n, x4.take (n * 1)⟩, r5]) := by
  have k1 : w.cell? ⟨b, 1, none⟩ = _ := S.cell 0 _ rfl
  have k2 : w.cell? ⟨b, 2, none⟩ = _ := S.cell 1 _ rfl
  have k3 : w.cell? ⟨b, 3, none⟩ = _ := S.cell 2 _ rfl
  have k4 : w.cell? ⟨b, 4, none⟩ = _ := S.cell 3 _ rfl
  have f1 := S.free 1
  have f2 := S.free 2
  have f3 := S.free 3
  have f4 := S.free 4
  have m1 := own_cap (S.own ⟨.slice (some ⟨g1, 0, none⟩) (n + 1) c1, 3, 1, n + 1, x1⟩ (by simp))
  have m2 := own_cap (S.own ⟨.slice (some ⟨g2, 0, none⟩) (n + 1) c2, 3, 1, n + 1, x2⟩ (by simp))
  have m3 := own_cap (S.own ⟨.slice (some ⟨g3, 0, none⟩) (n + 1) c3, 3, 1, n + 1, x3⟩ (by simp))
  have m4 := own_cap (S.own ⟨.slice (some ⟨g4, 0, none⟩) (n + 1) c4, 3, 1, n + 1, x4⟩ (by simp))
  have P1 := SxL.trim (L := []) S (show n ≤ n + 1 by omega) 1 rfl
  have P2 := SxL.trim (L := [⟨.slice (some ⟨g1, 0, none⟩) n c1, 3, 1, n, x1.take (n * 1)⟩]) P1.1 (show n ≤ n + 1 by omega) 2 rfl
  have P3 := SxL.trim (L := [⟨.slice (some ⟨g1, 0, none⟩) n c1, 3, 1, n, x1.take (n * 1)⟩, ⟨.slice (some ⟨g2, 0, none⟩) n c2, 3, 1, n, x2.take (n * 1)⟩]) P2.1 (show n ≤ n + 1 by omega) 3 rfl
  have P4 := SxL.trim (L := [⟨.slice (some ⟨g1, 0, none⟩) n c1, 3, 1, n, x1.take (n * 1)⟩, ⟨.slice (some ⟨g2, 0, none⟩) n c2, 3, 1, n, x2.take (n * 1)⟩, ⟨.slice (some ⟨g3, 0, none⟩) n c3, 3, 1, n, x3.take (n * 1)⟩]) P3.1 (show n ≤ n + 1 by omega) 4 rfl
  have H := Lib.hid (And.intro P4.1 (((P1.2.trans P2.2).trans P3.2).trans P4.2))
  clear P1 P2 P3 P4 S
  simp only at k1 k2 k3 k4 m1 m2 m3 m4
  go_enter Try.func30, Try.ntmps30
  go_wp2
  go_end0
  exact ⟨rfl, H.out.1, H.out.2⟩
end Go.Proofs.Ytihoegihmgeenaa
