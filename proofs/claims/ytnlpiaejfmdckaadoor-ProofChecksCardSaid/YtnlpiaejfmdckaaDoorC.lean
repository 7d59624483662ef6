/- hasForm. -/
import Derived.Test.YtnlpiaejfmdckaaDoorB
namespace Go.Proofs.YtnlpiaejfmdckaaDoor
open Go.RowKit
set_option linter.unusedVariables false
set_option linter.unusedSimpArgs false
theorem two_boxes (w : World) (xs ys : Array Value) (t u : Nat) : BK w ((w.alloc (.cells xs t)).alloc (.cells ys u)) ∧ ((w.alloc (.cells xs t)).alloc (.cells ys u)).heap[w.heap.size]? = some (.cells xs t (0, 0)) ∧ ((w.alloc (.cells xs t)).alloc (.cells ys u)).heap[w.heap.size + 1]? = some (.cells ys u (0, 0)) := by
  have K1 := bk_alloc (BK.refl w) (.cells xs t)
  have K2 := bk_alloc (BK.refl (w.alloc (.cells xs t))) (.cells ys u)
  have S1 := sz1 w (.cells xs t)
  have N2 := heap_alloc_new (w.alloc (.cells xs t)) (.cells ys u)
  rw [S1] at N2
  exact ⟨bk_tr K1 K2, (bk_block K2 (by rw [S1]; omega)).trans (heap_alloc_new w (.cells xs t)), N2⟩
theorem cs_of_row {w : World} {b : Nat} {xs : Array Value} {t : Nat} (h : w.heap[b]? = some (.cells xs t (0, 0))) : Cs w b 0 xs := fun j v hj => by
  rw [Nat.zero_add, cell_of_row _ b j xs t (0, 0) h]
  exact hj
theorem cS_eq (s : S) (q : Pt) : cS s q = #[.int .i64 s.k, .slice q.p1 s.rf.length q.c1, .int .i64 s.ru, .slice q.p2 s.sb.length q.c2, .int .i64 s.a.op, .int .i64 s.a.wd, .int .u64 s.a.vl, .string s.a.nm, .slice q.p3 s.a.ts.length q.c3, .int .i64 s.b.op, .int .i64 s.b.wd, .int .u64 s.b.vl, .string s.b.nm, .slice q.p4 s.b.ts.length q.c4] := rfl
set_option maxRecDepth 100000 in
set_option maxHeartbeats 4000000 in
theorem form34 (s : S) (q : Pt) (i : Nat) (w : World) (ht : Tb w) (hl : s.rf.length ≤ 9223372036854775807) (hp : RowI (mem 0 w) w q.p1 q.c1 s.rf) : Calls Tryd.prog 34 #[.agg (cS s q), .int .i64 (i : Int)] w fun e w' => e = .returned (.bool (wellB s i)) ∧ BK w w' := by
  obtain ⟨h1, h2, h3⟩ := two_boxes w (cS s q) #[.int .i64 (i : Int)] 44 3
  have KA := Lib.hid h1
  have NA := Lib.hid h2
  have NB := Lib.hid h3
  have HP := Lib.hid (hp.bk h1 (Nat.le_refl _))
  have C8 := Lib.hid (refs8 s.k _ (ht.bk h1))
  have CC := Lib.hid (fun wc hi hp => contains52 s.rf hl (i : Int) (w.heap.size + 1) wc hi q.p1 q.c1 hp)
  have HL := Lib.hid hl
  obtain ⟨x0, x1, -, -, -, -, -, -, x8, -⟩ := (cs_of_row h2).all
  simp only [Nat.zero_add] at x0 x1 x8
  have WB := Lib.hid (show wellB s i = if okN s = true then allB (i : Int) s.rf else false from rfl)
  have ON := Lib.hid (show okN s = if s.k = 4 ∨ s.k = 8 then (if s.rf.length = s.a.ts.length ∧ s.rf.length ≤ 3 then true else false) else if leastK s.k ≤ (s.rf.length : Int) ∧ (s.rf.length : Int) ≤ mostK s.k then true else false from rfl)
  clear h1 h2 h3 hp ht hl
  rw [cS_eq] at *
  generalize wellB s i = r at *
  generalize allB (i : Int) s.rf = al at *
  generalize okN s = ok at *
  have M3 := Lib.hid (show (s.k = 4 ∨ s.k = 8) → mostK s.k = 3 from by rintro (h | h) <;> rw [h] <;> decide)
  generalize leastK s.k = le at *
  generalize mostK s.k = mo at *
  generalize hn : s.rf.length = n at *
  generalize s.a.ts.length = m at *
  generalize s.k = kd at *
  go_enter Tryd.func34, Tryd.ntmps34
  go_wp2_with fail
  refine C8.out.mono ?_
  rintro e w2 ⟨rfl, hb2⟩
  have N2 := Lib.hid ((bk_block hb2 (Array.getElem?_eq_some_iff.1 NA.out).1).trans NA.out)
  have M2 := Lib.hid ((bk_block hb2 (Array.getElem?_eq_some_iff.1 NB.out).1).trans NB.out)
  have R2 := Lib.hid (HP.out.bk hb2 (Nat.le_refl _))
  have K2 := Lib.hid (bk_tr KA.out hb2)
  clear hb2 x0 x1 x8 HP
  have x0 := cell_of_row _ w.heap.size 0 _ 44 (0, 0) N2.out
  have x1 := cell_of_row _ w.heap.size 1 _ 44 (0, 0) N2.out
  have x8 := cell_of_row _ w.heap.size 8 _ 44 (0, 0) N2.out
  have D52 := Lib.hid (CC.out w2 (cell_of_row _ (w.heap.size + 1) 0 _ 3 (0, 0) M2.out) R2.out)
  clear CC
  by_cases hk : kd = 4 ∨ kd = 8
  · have hmo := M3.out hk
    have ON2 := ON.out
    rw [if_pos hk] at ON2
    clear M3 ON
    subst hmo
    by_cases h1 : n < m
    · rw [if_neg (by omega)] at ON2
      subst ON2
      have WB2 := WB.out
      rw [if_neg (by decide)] at WB2
      subst WB2
      have h1' : (n : Int) < (m : Int) := by omega
      clear h1 hn
      rcases hk with rfl | rfl
      · go_wp2_with fail
        all_goals (go_ret; exact ⟨rfl, K2.out⟩)
      · go_wp2_with fail
        all_goals (go_ret; exact ⟨rfl, K2.out⟩)
    · have h1' : ¬ (n : Int) < (m : Int) := by omega
      by_cases h2 : n = m ∧ n ≤ 3
      · obtain ⟨rfl, h3⟩ := h2
        rw [if_pos ⟨rfl, h3⟩] at ON2
        subst ON2
        have WB2 := WB.out
        rw [if_pos rfl] at WB2
        subst WB2
        have hmin : (n : Int) < 3 ∨ n = 3 := by omega
        clear h1 h3 hn
        rcases hmin with hmin | rfl
        all_goals rcases hk with rfl | rfl
        all_goals
          go_wp2_with fail
          refine D52.out.mono ?_
          rintro e w3 ⟨rfl, rfl⟩
          go_wp2_with fail
          go_ret
          exact ⟨ret_bool (by simp), K2.out⟩
      · rw [if_neg h2] at ON2
        subst ON2
        have WB2 := WB.out
        rw [if_neg (by decide)] at WB2
        subst WB2
        have hmin : ((m : Int) < 3 ∧ (m : Int) < (n : Int)) ∨ (¬ (m : Int) < 3 ∧ (3 : Int) < (n : Int)) := by omega
        clear h1 h2 hn
        rcases hmin with ⟨hm1, hm2⟩ | ⟨hm1, hm2⟩
        all_goals rcases hk with rfl | rfl
        all_goals
          go_wp2_with fail
          go_ret
          exact ⟨rfl, K2.out⟩
  · have k4 : (kd == 4) = false := by simp; exact fun h => hk (.inl h)
    have k8 : (kd == 8) = false := by simp; exact fun h => hk (.inr h)
    have ON2 := ON.out
    rw [if_neg hk] at ON2
    clear hk M3 ON
    by_cases h1 : (n : Int) < le
    · rw [if_neg (by omega)] at ON2
      subst ON2
      have WB2 := WB.out
      rw [if_neg (by decide)] at WB2
      subst WB2
      clear hn
      go_wp2_with fail
      go_ret
      exact ⟨rfl, K2.out⟩
    · by_cases h2 : mo < (n : Int)
      · rw [if_neg (by omega)] at ON2
        subst ON2
        have WB2 := WB.out
        rw [if_neg (by decide)] at WB2
        subst WB2
        clear hn
        go_wp2_with fail
        go_ret
        exact ⟨rfl, K2.out⟩
      · rw [if_pos (by omega)] at ON2
        subst ON2
        have WB2 := WB.out
        rw [if_pos rfl] at WB2
        subst WB2
        clear hn
        go_wp2_with fail
        refine D52.out.mono ?_
        rintro e w3 ⟨rfl, rfl⟩
        go_wp2_with fail
        go_ret
        exact ⟨ret_bool (by simp), K2.out⟩
end Go.Proofs.YtnlpiaejfmdckaaDoor
