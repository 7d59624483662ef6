/- Undo. -/
import Derived.Test.YtihoegihmgeenaaN
import Derived.Test.YtihoegihmgeenaaE
namespace Go.Proofs.Ytihoegihmgeenaa
open Go.RowKit
set_option linter.unusedVariables false
set_option linter.unusedSimpArgs false
theorem undoMake_any (W0 : World) (F0 : Nat → Prop) (B b n m : Nat) (x1 x2 x3 x4 : List Nat) (x5 : List (Int × Int)) (w : World) (Q : RW W0 F0 B b (n + 1) m x1 x2 x3 x4 x5 w) (hn : n ≤ 100000) :
    Calls Try.prog 30 #[.pointer (some ⟨b, 0, none⟩)] w fun e w' => e = .returned (.tuple #[]) ∧ RW W0 F0 B b n m (x1.take n) (x2.take n) (x3.take n) (x4.take n) x5 w' := by
  obtain ⟨g1, c1, g2, c2, g3, c3, g4, c4, g5, c5, S, T⟩ := Q
  refine (undoMake_raw B b n g1 c1 g2 c2 g3 c3 g4 c4 _ _ _ _ _ w hn S).mono ?_
  rintro e w' ⟨rfl, S', T'⟩
  refine ⟨rfl, g1, c1, g2, c2, g3, c3, g4, c4, g5, c5, ?_, ?_⟩
  · simp only [Nat.mul_one, ← nums_take] at S'; exact S'
  · simp only [Nat.mul_one, ← nums_take] at T'; exact T.trans T'
theorem opv_take (l : List (Int × Int)) (m : Nat) : (opv l).take (m * 2) = opv (l.take m) := by
  induction m generalizing l with
  | zero => simp [opv]
  | succ m ih =>
    cases l with
    | nil => simp [opv]
    | cons a l =>
      have := ih l
      simp only [opv, List.flatMap_cons, List.take_succ_cons] at this ⊢
      rw [show (m + 1) * 2 = m * 2 + 1 + 1 by omega]
      simp only [List.cons_append, List.nil_append, List.take_succ_cons]
      rw [this]
theorem RW.trim5 {W0 : World} {F0 : Nat → Prop} {wx : World} {B b n m g1 c1 g2 c2 g3 c3 g4 c4 g5 c5 : Nat} {x1 x2 x3 x4 : List Nat} {x5 : List (Int × Int)}
    (S : SxL wx B b (five n (m + 1) g1 c1 g2 c2 g3 c3 g4 c4 g5 c5 x1 x2 x3 x4 x5)) (T : Step W0 wx F0 (foot b (five n (m + 1) g1 c1 g2 c2 g3 c3 g4 c4 g5 c5 x1 x2 x3 x4 x5))) (q : Nat) :
    RW W0 F0 B b n m x1 x2 x3 x4 (x5.take m) ((wx.setCell ⟨b, 5, none⟩ (sl g5 m c5)).drewN q) := by
  have P := SxL.trim (L := [⟨sl g1 n c1, 3, 1, n, nums x1⟩, ⟨sl g2 n c2, 3, 1, n, nums x2⟩, ⟨sl g3 n c3, 3, 1, n, nums x3⟩, ⟨sl g4 n c4, 3, 1, n, nums x4⟩]) (m := m) S (by omega) 5 rfl
  rw [opv_take] at P
  exact ⟨g1, c1, g2, c2, g3, c3, g4, c4, g5, c5, P.1.keep fun _ _ => rfl, (T.trans P.2).trans (st_drew _ _ _)⟩
theorem RW.alloc {W0 : World} {F0 : Nat → Prop} {wx : World} {B b n m : Nat} {x1 x2 x3 x4 : List Nat} {x5 : List (Int × Int)} (Q : RW W0 F0 B b n m x1 x2 x3 x4 x5 wx) (o : Obj) (q : Nat) : RW W0 F0 B b n m x1 x2 x3 x4 x5 ((wx.alloc o).drewN q) := by
  obtain ⟨g1, c1, g2, c2, g3, c3, g4, c4, g5, c5, S, T⟩ := Q
  exact ⟨g1, c1, g2, c2, g3, c3, g4, c4, g5, c5, S.alloc o q, T.trans (st_alloc _ _ _ _)⟩
/-- how many operations the trail has -/
def trLen (b : Nat) (w : World) : Nat := match w.cell? ⟨b, 5, none⟩ with | some (.slice _ n _) => n | _ => 0
theorem U.trLen {w : World} {B b : Nat} {h : List HOp} {F : Nat → Prop} (u : U w B b h F) : Ytihoegihmgeenaa.trLen b w = h.length := by
  obtain ⟨v1, v2, v3, v4, v5, u⟩ := u
  have := u.acc.k5
  obtain ⟨_, _, _, _, ⟨p, c, rfl⟩⟩ := u.sizes
  unfold Ytihoegihmgeenaa.trLen; rw [this]
theorem U.k5 {w : World} {B b : Nat} {h : List HOp} {F : Nat → Prop} (u : U w B b h F) : ∃ p c, w.cell? ⟨b, 5, none⟩ = some (.slice p h.length c) := by
  obtain ⟨v1, v2, v3, v4, v5, u⟩ := u
  have := u.acc.k5
  obtain ⟨_, _, _, _, ⟨p, c, rfl⟩⟩ := u.sizes
  exact ⟨p, c, this⟩
set_option maxHeartbeats 1000000 in
theorem undo_no (B b : Nat) (h : List HOp) (F : Nat → Prop) (mk : Int) (w : World) (u : U w B b h F) (hm : mk < 0 ∨ h.length < mk) (hs : h.length ≤ 1000) :
    Calls Try.prog 15 #[.pointer (some ⟨b, 0, none⟩), .int .i64 mk] w fun e w' => e = .returned (.bool false) ∧ w = w' := by
  have hus := Lib.hid (usable_any B b h F w u)
  obtain ⟨p, c, k5⟩ := u.k5
  clear u
  by_cases h0 : mk < 0
  · have hd : decide (mk < 0) = true := by simpa using h0
    go_enter Try.func15, Try.ntmps15
    go_wp2_with fail
    refine hus.out.mono ?_; rintro e w' ⟨rfl, rfl⟩
    go_wp2
    go_ret
    exact ⟨rfl, rfl⟩
  · have h1 : (h.length : Int) < mk := by omega
    have hd : decide (mk < 0) = false := by simpa using h0
    clear hm
    go_enter Try.func15, Try.ntmps15
    go_wp2_with fail
    refine hus.out.mono ?_; rintro e w' ⟨rfl, rfl⟩
    go_wp2
    go_ret
    exact ⟨rfl, rfl⟩
end Go.Proofs.Ytihoegihmgeenaa
