/- Package scheduler and its reference: Take as one contract; New; Banned. -/
import Derived.Test.YtbpmkbnldoeffaaD
import Derived.Deep.AppendLies
namespace Go.Proofs.Ytbpmkbnldoeffaa
open Go.RowKit
set_option linter.unusedVariables false
set_option linter.unusedSimpArgs false
def rT (l t f : Int) : Int := if tkB l t f then nT t else tT t
def rU (l b t u i f : Int) : Int := if tkB l t f then nU u else tU b t i
theorem take_any (l b t u i f : Int) (w : World) : Calls Try.prog 17 #[.agg #[.int .i64 l, .int .i64 b, .int .i64 t, .int .i64 u], .int .i64 i, .int .i64 f] w fun e w' => e = .returned (.tuple #[.agg #[.int .i64 (nL l), .int .i64 (nL b), .int .i64 (rT l t f), .int .i64 (rU l b t u i f)], .bool (tkB l t f)]) ∧ Below w.heap.size w w' := by
  unfold rT rU
  cases h : tkB l t f
  · exact take_no l b t u i f w h
  · exact take_yes l b t u i f w h
theorem rtake_any (l b t u i f : Int) (w : World) : Calls Try.prog 18 #[.agg #[.int .i64 l, .int .i64 b, .int .i64 t, .int .i64 u], .int .i64 i, .int .i64 f] w fun e w' => e = .returned (.tuple #[.agg #[.int .i64 (nL l), .int .i64 (nL b), .int .i64 (rT l t f), .int .i64 (rU l b t u i f)], .bool (tkB l t f)]) ∧ Below w.heap.size w w' := by
  unfold rT rU
  cases h : tkB l t f
  · exact rtake_no l b t u i f w h
  · exact rtake_yes l b t u i f w h
/-- states -/
abbrev BO := Int × Int × Int × Int
def bov (l : List BO) : List Value := l.flatMap (fun p => [.int .i64 p.1, .int .i64 p.2.1, .int .i64 p.2.2.1, .int .i64 p.2.2.2])
theorem len_bov (l : List BO) : (bov l).length = l.length * 4 := by
  induction l with
  | nil => rfl
  | cons a l ih => simp only [bov, List.flatMap_cons, List.length_append, List.length_cons, List.length_nil] at ih ⊢; omega
theorem bov_snoc (l : List BO) (a : BO) : bov (l ++ [a]) = bov l ++ [.int .i64 a.1, .int .i64 a.2.1, .int .i64 a.2.2.1, .int .i64 a.2.2.2] := by simp [bov]
theorem bov_at (l : List BO) (k j : Nat) (hk : k < l.length) (hj : j < 4) : (bov l)[k * 4 + j]? = [Value.int .i64 (l.getD k (0, 0, 0, 0)).1, .int .i64 (l.getD k (0, 0, 0, 0)).2.1, .int .i64 (l.getD k (0, 0, 0, 0)).2.2.1, .int .i64 (l.getD k (0, 0, 0, 0)).2.2.2][j]? := by
  induction l generalizing k with
  | nil => simp at hk
  | cons a l ih =>
    cases k with
    | zero =>
      simp only [bov, List.flatMap_cons]
      rw [List.getElem?_append_left (by simp; omega)]
      simp
    | succ k =>
      have := ih k (by simpa using hk)
      simp only [bov, List.flatMap_cons] at this ⊢
      rw [List.getElem?_append_right (by simp; omega)]
      simp only [List.length_cons, List.length_nil, List.getD_cons_succ]
      rw [← this]
      congr 1
      omega
/-- v reads as the states zs -/
def Rb (w : World) (v : Value) (zs : List BO) : Prop :=
  (∃ a cap, v = .slice a 0 cap ∧ zs = []) ∨ ∃ b off cap, v = .slice (some ⟨b, off, none⟩) zs.length cap ∧ 0 < zs.length ∧ b < w.heap.size ∧ ∀ k, k < zs.length →
    w.cell? ⟨b, off + k * 4, none⟩ = some (.int .i64 (zs.getD k (0, 0, 0, 0)).1) ∧ w.cell? ⟨b, off + k * 4 + 1, none⟩ = some (.int .i64 (zs.getD k (0, 0, 0, 0)).2.1) ∧
    w.cell? ⟨b, off + k * 4 + 2, none⟩ = some (.int .i64 (zs.getD k (0, 0, 0, 0)).2.2.1) ∧ w.cell? ⟨b, off + k * 4 + 3, none⟩ = some (.int .i64 (zs.getD k (0, 0, 0, 0)).2.2.2)
theorem Rb.below {w w' : World} {v : Value} {zs : List BO} (h : Rb w v zs) (hb : Below w.heap.size w w') : Rb w' v zs := by
  rcases h with h | ⟨b, off, cap, h1, h2, h3, h4⟩
  · exact .inl h
  · refine .inr ⟨b, off, cap, h1, h2, Nat.lt_of_lt_of_le h3 hb.size, fun k hk => ?_⟩
    obtain ⟨a0, a1, a2, a3⟩ := h4 k hk
    exact ⟨(hb.cell (p := ⟨b, _, none⟩) h3).trans a0, (hb.cell (p := ⟨b, _, none⟩) h3).trans a1, (hb.cell (p := ⟨b, _, none⟩) h3).trans a2, (hb.cell (p := ⟨b, _, none⟩) h3).trans a3⟩
theorem Rb.own {w : World} {B : Nat} {v : Value} {l : List BO} (o : w.ownsRow B 26 4 v l.length (bov l)) : Rb w v l := by
  rcases o.2 with ⟨h, h0⟩ | ⟨g, cap, cur, hv, hb, hg, hn, _⟩
  · exact .inl ⟨none, 0, h, List.eq_nil_of_length_eq_zero h0⟩
  · subst hv
    by_cases h0 : l.length = 0
    · have : l = [] := List.eq_nil_of_length_eq_zero h0
      subst this
      exact .inl ⟨_, cap, rfl, rfl⟩
    · refine .inr ⟨g, 0, cap, rfl, by omega, (Array.getElem?_eq_some_iff.1 hg).1, fun k hk => ?_⟩
      have key : ∀ j (u : Value), j < 4 → [Value.int .i64 (l.getD k (0, 0, 0, 0)).1, .int .i64 (l.getD k (0, 0, 0, 0)).2.1, .int .i64 (l.getD k (0, 0, 0, 0)).2.2.1, .int .i64 (l.getD k (0, 0, 0, 0)).2.2.2][j]? = some u → w.cell? ⟨g, 0 + k * 4 + j, none⟩ = some u := fun j u hj hu => by
        have := World.ownsRow.cells o (g := g) rfl (k * 4 + j) u (by rw [bov_at l k j hk hj]; exact hu)
        rw [show (⟨g, 0, none⟩ : Addr).add (k * 4 + j) = ⟨g, 0 + (k * 4 + j), none⟩ from Go.WideShapes.add_plain _ _ _, ← Nat.add_assoc] at this
        exact this
      exact ⟨key 0 _ (by omega) rfl, key 1 _ (by omega) rfl, key 2 _ (by omega) rfl, key 3 _ (by omega) rfl⟩
theorem own_at {w w' : World} {B e sz n : Nat} {v : Value} {xs : List Value} (o : w.ownsRow B e sz v n xs) (h : ∀ k, v.ownBlock = some k → w'.heap[k]? = w.heap[k]?) : w'.ownsRow B e sz v n xs := by
  refine ⟨o.1, ?_⟩
  rcases o.2 with hn | ⟨g, cap, cur, hv, hb, hg, rest⟩
  · exact .inl hn
  · exact .inr ⟨g, cap, cur, hv, hb, (h g (by rw [hv]; rfl)).trans hg, rest⟩
theorem own_below {w w' : World} {B e sz n : Nat} {v : Value} {xs : List Value} (o : w.ownsRow B e sz v n xs) (hb : Below w.heap.size w w') : w'.ownsRow B e sz v n xs :=
  own_at o fun k hk => hb.block k (o.lt k hk).2
theorem clamped_zero (l b : Int) (w : World) : Calls Try.prog 22 #[.agg #[.int .i64 l, .int .i64 b, .int .i64 0, .int .i64 0]] w fun e w' => e = .returned (.agg #[.int .i64 (nL l), .int .i64 (nL b), .int .i64 0, .int .i64 0]) ∧ Below w.heap.size w w' := clamped_any l b 0 0 w
theorem norm_zero (l b : Int) (w : World) : Calls Try.prog 24 #[.agg #[.int .i64 l, .int .i64 b, .int .i64 0, .int .i64 0]] w fun e w' => e = .returned (.agg #[.int .i64 (nL l), .int .i64 (nL b), .int .i64 0, .int .i64 0]) ∧ Below w.heap.size w w' := norm_any l b 0 0 w
def nS (l b : Int) (k : Nat) : List BO := List.replicate k (nL l, nL b, 0, 0)
theorem nS_succ (l b : Int) (k : Nat) : bov (nS l b (k + 1)) = bov (nS l b k) ++ [.int .i64 (nL l), .int .i64 (nL b), .int .i64 0, .int .i64 0] := by
  unfold nS; rw [List.replicate_succ', bov_snoc]
def nR (rules : Int) : Nat := (cl rules 0 1024).toNat
theorem nR_cl (rules : Int) : cl rules 0 1024 = (nR rules : Int) := by unfold nR cl; omega
theorem nR_le (rules : Int) : nR rules ≤ 1024 := by unfold nR cl; omega
theorem info26 : (Try.prog.info? 26).map (fun i => (i.zero, i.size, i.bytes)) = some (some (.agg #[.int .i64 0, .int .i64 0, .int .i64 0, .int .i64 0]), 4, 32) := by kernel_rfl
theorem box_at (w : World) (cs : List Value) (T : Nat) (j : Nat) (u : Value) (h : cs[j]? = some u) : (w.alloc (.cells cs.toArray T)).cell? ((⟨w.heap.size, 0, none⟩ : Addr).add j) = some u := by
  rw [show (⟨w.heap.size, 0, none⟩ : Addr).add j = ⟨w.heap.size, 0 + j, none⟩ from Go.WideShapes.add_plain _ _ _, Nat.zero_add, World.cell?_alloc_new]
  simpa using h
set_option maxHeartbeats 4000000 in
theorem new_any (rules l b : Int) (w : World) : Calls Try.prog 9 #[.int .i64 rules, .int .i64 l, .int .i64 b] w fun e w' => ∃ v, e = .returned v ∧ Rb w' v (nS l b (nR rules)) ∧ Below w.heap.size w w' := by
  obtain ⟨i26, hi26, hz26, hs26, hb26⟩ := info_parts info26
  have hcl : ∀ w, Calls Try.prog 21 #[.int .i64 rules, .int .i64 0, .int .i64 1024] w fun e w' => e = .returned (.int .i64 (nR rules : Nat)) ∧ w = w' := fun w => by
    have := clamp_any rules 0 1024 w; rwa [nR_cl] at this
  have HC := Lib.hid hcl
  have hmle := nR_le rules
  clear hcl
  generalize nR rules = m at HC hmle ⊢
  go_enter Try.func9, Try.ntmps9
  go_wp2_with (go_at_call 21; refine (HC.out _).mono ?_; rintro e w' ⟨rfl, rfl⟩)
  go_loopw [7, 10] (fun v i wr => ∃ k : Nat, k ≤ m ∧ i = .int .i64 k ∧ wr.ownsRow w.heap.size 26 4 v k (bov (nS l b k)) ∧ Below w.heap.size w wr) (fun v i _ => m - (intOf i).toNat)
  case atStart => exact ⟨0, by omega, rfl, World.ownsRow_nil _ _ _ _, Below.refl _ _⟩
  case round =>
    obtain ⟨k, hk, rfl, hown, hb⟩ := hrel
    have Ho := Lib.hid hown
    have Hb := Lib.hid hb
    have hsz := hb.size
    clear hown hb
    by_cases hlt : k < m
    · go_wp2_with fail
      refine (clamped_zero _ _ _).mono ?_
      rintro e w1 ⟨rfl, hb1⟩
      have Hb1 := Lib.hid hb1
      have hsz1 := hb1.size
      clear hb1
      go_wp2_with (at_builtin; go_must (refine wpList_append_own _ rfl _ _ 22 rfl w.heap.size 26 i26 (.agg #[.int .i64 0, .int .i64 0, .int .i64 0, .int .i64 0]) 4 32 Try.underlying22 hi26 hz26 hs26 hb26 rfl (by decide) _ _ _ rfl ((own_below Ho.out Hb1.out).alloc _) ⟨w1.heap.size, 0, none⟩ 1 1 [.int .i64 (nL l), .int .i64 (nL b), .int .i64 0, .int .i64 0] rfl rfl (fun j u hj => box_at w1 _ 26 j u hj) ?c2 ?c3 ?c4 ?c5 ?_))
      case c2 => intro u hu; simp at hu; rcases hu with rfl | rfl | rfl | rfl <;> rfl
      case c3 => unfold maxLen; omega
      case c4 => omega
      case c5 => simp; omega
      intro v' w2 hown' hgrow _
      have hb2 : Below w.heap.size w w2 := ((Hb.out.trans (Hb1.out.mono hsz)).alloc (by omega) _).grown hgrow (by simp; omega) (fun r hr => (World.ownsRow.lt Ho.out r hr).1)
      have ho2 : w2.ownsRow w.heap.size 26 4 v' (k + 1) (bov (nS l b (k + 1))) := by rw [nS_succ]; exact hown'
      have Hb2 := Lib.hid hb2
      have Ho2 := Lib.hid ho2
      clear hown' hgrow hb2 ho2
      go_wp2_with fail
      go_roundw
      case rel => exact ⟨k + 1, by omega, by go_num, Ho2.out, Hb2.out⟩
      case measure => simp [intOf]; omega
    · obtain rfl : k = m := by omega
      go_wp2_with fail
      go_ret
      exact ⟨_, rfl, Rb.own (by simpa [nS] using Ho.out), Hb.out⟩
set_option maxHeartbeats 4000000 in
theorem rnew_any (rules l b : Int) (w : World) : Calls Try.prog 10 #[.int .i64 rules, .int .i64 l, .int .i64 b] w fun e w' => ∃ v, e = .returned v ∧ Rb w' v (nS l b (nR rules)) ∧ Below w.heap.size w w' := by
  obtain ⟨i26, hi26, hz26, hs26, hb26⟩ := info_parts info26
  have hcl : ∀ w, Calls Try.prog 23 #[.int .i64 rules, .int .i64 0, .int .i64 1024] w fun e w' => e = .returned (.int .i64 (nR rules : Nat)) ∧ w = w' := fun w => by
    have := rclamp_any rules 0 1024 w; rwa [nR_cl] at this
  have HC := Lib.hid hcl
  have hmle := nR_le rules
  clear hcl
  generalize nR rules = m at HC hmle ⊢
  go_enter Try.func10, Try.ntmps10
  go_wp2_with fail
  go_loopw [7, 8] (fun v i wr => ∃ k : Nat, k ≤ m ∧ i = .int .i64 k ∧ wr.ownsRow w.heap.size 26 4 v k (bov (nS l b k)) ∧ Below w.heap.size w wr) (fun v i _ => m - (intOf i).toNat)
  case atStart => exact ⟨0, by omega, rfl, World.ownsRow_nil _ _ _ _, Below.refl _ _⟩
  case round =>
    obtain ⟨k, hk, rfl, hown, hb⟩ := hrel
    have Ho := Lib.hid hown
    have Hb := Lib.hid hb
    have hsz := hb.size
    clear hown hb
    by_cases hlt : k < m
    · go_wp2_with (go_at_call 23; refine (HC.out _).mono ?_; rintro e w' ⟨rfl, rfl⟩)
      refine (norm_zero _ _ _).mono ?_
      rintro e w1 ⟨rfl, hb1⟩
      have Hb1 := Lib.hid hb1
      have hsz1 := hb1.size
      clear hb1
      go_wp2_with (at_builtin; go_must (refine wpList_append_own _ rfl _ _ 22 rfl w.heap.size 26 i26 (.agg #[.int .i64 0, .int .i64 0, .int .i64 0, .int .i64 0]) 4 32 Try.underlying22 hi26 hz26 hs26 hb26 rfl (by decide) _ _ _ rfl ((own_below Ho.out Hb1.out).alloc _) ⟨w1.heap.size, 0, none⟩ 1 1 [.int .i64 (nL l), .int .i64 (nL b), .int .i64 0, .int .i64 0] rfl rfl (fun j u hj => box_at w1 _ 26 j u hj) ?c2 ?c3 ?c4 ?c5 ?_))
      case c2 => intro u hu; simp at hu; rcases hu with rfl | rfl | rfl | rfl <;> rfl
      case c3 => unfold maxLen; omega
      case c4 => omega
      case c5 => simp; omega
      intro v' w2 hown' hgrow _
      have hb2 : Below w.heap.size w w2 := ((Hb.out.trans (Hb1.out.mono hsz)).alloc (by omega) _).grown hgrow (by simp; omega) (fun r hr => (World.ownsRow.lt Ho.out r hr).1)
      have ho2 : w2.ownsRow w.heap.size 26 4 v' (k + 1) (bov (nS l b (k + 1))) := by rw [nS_succ]; exact hown'
      have Hb2 := Lib.hid hb2
      have Ho2 := Lib.hid ho2
      clear hown' hgrow hb2 ho2
      go_wp2_with fail
      go_roundw
      case rel => exact ⟨k + 1, by omega, by go_num, Ho2.out, Hb2.out⟩
      case measure => simp [intOf]; omega
    · obtain rfl : k = m := by omega
      go_wp2_with (go_at_call 23; refine (HC.out _).mono ?_; rintro e w' ⟨rfl, rfl⟩)
      go_ret
      exact ⟨_, rfl, Rb.own (by simpa [nS] using Ho.out), Hb.out⟩
end Go.Proofs.Ytbpmkbnldoeffaa
