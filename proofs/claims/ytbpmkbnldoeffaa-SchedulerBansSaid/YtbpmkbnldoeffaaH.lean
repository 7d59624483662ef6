/- Package scheduler and its reference: Simulate, walked. -/
import Derived.Test.YtbpmkbnldoeffaaG
namespace Go.Proofs.Ytbpmkbnldoeffaa
open Go.RowKit
set_option linter.unusedVariables false
set_option linter.unusedSimpArgs false
theorem box_at' (w : World) (cs : List Value) (T p : Nat) (hp : p = w.heap.size) (j : Nat) (u : Value) (h : cs[j]? = some u) : (w.alloc (.cells cs.toArray T)).cell? ((⟨p, 0, none⟩ : Addr).add j) = some u := by
  subst hp; exact box_at w cs T j u h
theorem size_st4 (w : World) (p : Nat) (x0 x1 x2 x3 : Value) : (st4 w p x0 x1 x2 x3).heap.size = w.heap.size := by simp
/-- v reads as the numbers zs -/
def Rn (w : World) (v : Value) (zs : List Int) : Prop :=
  (∃ a cap, v = .slice a 0 cap ∧ zs = []) ∨ ∃ b off cap, v = .slice (some ⟨b, off, none⟩) zs.length cap ∧ 0 < zs.length ∧ b < w.heap.size ∧ ∀ k, k < zs.length → w.cell? ⟨b, off + k, none⟩ = some (.int .i64 (zs.getD k 0))
theorem Rn.below {w w' : World} {v : Value} {zs : List Int} (h : Rn w v zs) (hb : Below w.heap.size w w') : Rn w' v zs := by
  rcases h with h | ⟨b, off, cap, h1, h2, h3, h4⟩
  · exact .inl h
  · exact .inr ⟨b, off, cap, h1, h2, Nat.lt_of_lt_of_le h3 hb.size, fun k hk => (hb.cell (p := ⟨b, off + k, none⟩) h3).trans (h4 k hk)⟩
theorem stk_t (s : BO) (zs : List Int) (k : Nat) (z : BO) (f : Int) (hz : stk s zs k = z) (hf : zs.getD k 0 = f) (hr : rdB z.2.2.2 k = true) : stk s zs (k + 1) = (nL z.1, nL z.2.1, rT z.1 z.2.2.1 f, rU z.1 z.2.1 z.2.2.1 z.2.2.2 k f) := by
  rw [stk, hz, hf, stp, if_pos hr]
theorem stk_f (s : BO) (zs : List Int) (k : Nat) (z : BO) (hz : stk s zs k = z) (hr : rdB z.2.2.2 k = false) : stk s zs (k + 1) = z := by
  rw [stk, hz, stp, if_neg (by rw [hr]; simp)]
theorem oks_t (s : BO) (zs : List Int) (k : Nat) (z : BO) (f : Int) (hz : stk s zs k = z) (hf : zs.getD k 0 = f) (hr : rdB z.2.2.2 k = true) : bools (oks s zs (k + 1)) = bools (oks s zs k) ++ [.bool (tkB z.1 z.2.2.1 f)] := by
  rw [oks_succ, hz, hf, okB, hr, Bool.true_and]
theorem oks_f (s : BO) (zs : List Int) (k : Nat) (z : BO) (hz : stk s zs k = z) (hr : rdB z.2.2.2 k = false) : bools (oks s zs (k + 1)) = bools (oks s zs k) ++ [.bool false] := by
  rw [oks_succ, hz, okB, hr, Bool.false_and]
/-- the result of Simulate -/
def SimP (w : World) (s : BO) (zs : List Int) (e : Ending) (w' : World) : Prop := ∃ r, e = .returned r ∧ w'.ownsRow (w.heap.size + 1) 4 1 r zs.length (bools (oks s zs zs.length)) ∧ Below w.heap.size w w'
theorem BK.of_drew {a b : World} (h : Below a.drew.heap.size a.drew b) : BK a b := ⟨h.os, h.tape, h.output, h.size, h.block⟩
set_option maxHeartbeats 4000000 in
theorem sim_some (b off cap : Nat) (zs : List Int) (s : BO) (w : World) (hl : zs.length ≤ 100000) (hb : b < w.heap.size)
    (hc : ∀ k, k < zs.length → w.cell? ⟨b, off + k, none⟩ = some (.int .i64 (zs.getD k 0))) :
    Calls Try.prog 19 #[.agg #[.int .i64 s.1, .int .i64 s.2.1, .int .i64 s.2.2.1, .int .i64 s.2.2.2], .slice (some ⟨b, off, none⟩) zs.length cap] w (SimP w s zs) := by
  obtain ⟨i4, hi4, hz4, hs4, hb4⟩ := info_parts info4
  have HC := Lib.hid hc
  have k0 : SK w (w.alloc (.cells #[.int .i64 s.1, .int .i64 s.2.1, .int .i64 s.2.2.1, .int .i64 s.2.2.2] 26)) (stk s zs 0) (.slice none 0 0) 0 (bools (oks s zs 0)) := ⟨World.ownsRow_nil _ _ _ _, Bw.new w s, below_alloc _ _⟩
  have K0 := Lib.hid k0
  clear hc k0
  go_enter Try.func19, Try.ntmps19
  go_wp2_with fail
  go_loopw [5, 11] (fun v x wr => ∃ k : Nat, k ≤ zs.length ∧ x = .int .i64 k ∧ SK w wr (stk s zs k) v k (bools (oks s zs k))) (fun _ x _ => zs.length - (intOf x).toNat)
  case atStart => exact ⟨0, Nat.zero_le _, rfl, K0.out⟩
  case round =>
    obtain ⟨k, hk, rfl, hK⟩ := hrel
    by_cases hlt : k < zs.length
    · have hfc := (hK.bel.cell (p := ⟨b, off + k, none⟩) hb).trans (HC.out k hlt)
      have hbz : b < wr.heap.size := Nat.lt_of_lt_of_le hb hK.bel.size
      have hst := stk_t s zs k
      have hsf := stk_f s zs k
      have hot := oks_t s zs k
      have hof := oks_f s zs k
      obtain ⟨f, hf⟩ : ∃ f, zs.getD k 0 = f := ⟨_, rfl⟩
      obtain ⟨z, hz⟩ : ∃ z, stk s zs k = z := ⟨_, rfl⟩
      rw [hz] at hK
      rw [hf] at hfc
      cases hr : rdB z.2.2.2 k
      · have ST := Lib.hid (hsf z hz hr)
        have OK := Lib.hid (hof z hz hr)
        have hry : ∀ w, Calls Try.prog 11 #[.agg #[.int .i64 z.1, .int .i64 z.2.1, .int .i64 z.2.2.1, .int .i64 z.2.2.2], .int .i64 k] w fun e w' => e = .returned (.bool false) ∧ Below w.heap.size w w' := fun w => by
          have := ready_any z.1 z.2.1 z.2.2.1 z.2.2.2 k w; rwa [hr] at this
        have HR := Lib.hid hry
        have KK := Lib.hid hK
        obtain ⟨a0, a1, a2, a3⟩ := hK.box.box
        clear hst hsf hot hof hr hry hK hz hf
        generalize bools (oks s zs k) = xs at OK KK
        go_wp2_with fail
        refine (HR.out _).mono ?_
        rintro e w1 ⟨rfl, hb1⟩
        have K1 := Lib.hid (KK.out.keep hb1)
        clear hb1 a0 a1 a2 a3 hfc
        go_wp2_with (at_builtin; go_must (refine wpList_append_own _ rfl _ _ 35 rfl (w.heap.size + 1) 4 i4 (.bool false) 1 1 Try.underlying35 hi4 hz4 hs4 hb4 rfl (by decide) _ _ _ rfl (K1.out.row.alloc _) ⟨w1.heap.size, 0, none⟩ 1 1 [.bool false] rfl rfl (fun j u hj => box_at' _ _ 4 _ rfl j u hj) ?c2 ?c3 ?c4 ?c5 ?_))
        case c2 => intro u hu; simp at hu; subst hu; rfl
        case c3 => unfold maxLen; omega
        case c4 => omega
        case c5 => have := K1.out.row; have := K1.out.box.lt; simp at this ⊢; omega
        intro v' w9 hown' hgrow _
        have k9 := (K1.out.grown _ hgrow hown')
        have K9 := Lib.hid k9
        clear hown' hgrow k9
        go_wp2_with fail
        go_roundw
        case rel => exact ⟨k + 1, by omega, by go_num, by rw [ST.out, OK.out]; exact K9.out⟩
        case measure => simp [intOf]; omega
      · have ST := Lib.hid (hst z f hz hf hr)
        have OK := Lib.hid (hot z f hz hf hr)
        have hry : ∀ w, Calls Try.prog 11 #[.agg #[.int .i64 z.1, .int .i64 z.2.1, .int .i64 z.2.2.1, .int .i64 z.2.2.2], .int .i64 k] w fun e w' => e = .returned (.bool true) ∧ Below w.heap.size w w' := fun w => by
          have := ready_any z.1 z.2.1 z.2.2.1 z.2.2.2 k w; rwa [hr] at this
        have HR := Lib.hid hry
        have KK := Lib.hid hK
        obtain ⟨a0, a1, a2, a3⟩ := hK.box.box
        clear hst hsf hot hof hr hry hK hz hf
        generalize bools (oks s zs k) = xs at OK KK
        go_wp2_with fail
        refine (HR.out _).mono ?_
        rintro e w1 ⟨rfl, hb1⟩
        have k1 := KK.out.keep hb1
        have hfc1 := (Below.cell (p := ⟨b, off + k, none⟩) hb1 hbz).trans hfc
        have hbz1 : b < w1.heap.size := Nat.lt_of_lt_of_le hbz hb1.size
        have K1 := Lib.hid k1
        clear hb1 a0 a1 a2 a3 hfc
        obtain ⟨⟨a0, a1, a2, a3⟩, fr, hlt1⟩ := k1.box
        clear k1
        go_wp2_with fail
        refine (take_any _ _ _ _ _ _ _).mono ?_
        rintro e w2 ⟨rfl, hb2⟩
        have k2 := K1.out.keep hb2
        have K3 := Lib.hid (k2.set (nL z.1, nL z.2.1, rT z.1 z.2.2.1 f, rU z.1 z.2.1 z.2.2.1 z.2.2.2 k f))
        clear hb2 a0 a1 a2 a3 fr hlt1
        obtain ⟨⟨a0, a1, a2, a3⟩, fr, hlt1⟩ := k2.box
        clear k2
        go_wp2_with (at_builtin; go_must (refine wpList_append_own _ rfl _ _ 35 rfl (w.heap.size + 1) 4 i4 (.bool false) 1 1 Try.underlying35 hi4 hz4 hs4 hb4 rfl (by decide) _ _ _ rfl (K3.out.row.alloc _) ⟨w2.heap.size, 0, none⟩ 1 1 [.bool (tkB z.1 z.2.2.1 f)] rfl rfl (fun j u hj => box_at' _ _ 4 _ (size_st4 _ _ _ _ _ _).symm j u hj) ?c2 ?c3 ?c4 ?c5 ?_))
        case c2 => intro u hu; simp at hu; subst hu; rfl
        case c3 => unfold maxLen; omega
        case c4 => omega
        case c5 => have := K3.out.row; have := K3.out.box.lt; simp at this ⊢; omega
        intro v' w9 hown' hgrow _
        have k9 := (K3.out.grown _ hgrow hown')
        have K9 := Lib.hid k9
        clear hown' hgrow k9
        go_wp2_with fail
        go_roundw
        case rel => exact ⟨k + 1, by omega, by go_num, by rw [ST.out, OK.out]; exact K9.out⟩
        case measure => simp [intOf]; omega
    · obtain rfl : k = zs.length := by omega
      have KK := Lib.hid hK
      clear hK
      go_wp2_with fail
      go_ret
      exact ⟨_, rfl, KK.out.row, KK.out.bel⟩
set_option maxHeartbeats 4000000 in
theorem sim_zero (a : Option Addr) (cap : Nat) (s : BO) (w : World) :
    Calls Try.prog 19 #[.agg #[.int .i64 s.1, .int .i64 s.2.1, .int .i64 s.2.2.1, .int .i64 s.2.2.2], .slice a 0 cap] w (SimP w s []) := by
  have HB := Lib.hid (below_alloc w (.cells #[.int .i64 s.1, .int .i64 s.2.1, .int .i64 s.2.2.1, .int .i64 s.2.2.2] 26))
  go_enter Try.func19, Try.ntmps19
  go_wp2_with fail
  go_loop [5, 11] (fun v x => x = .int .i64 0 ∧ v = .slice none 0 0) (fun _ _ => 0)
  case atStart => exact ⟨rfl, rfl⟩
  case round =>
    obtain ⟨rfl, rfl⟩ := hrel
    go_wp2_with fail
    go_ret
    exact ⟨_, rfl, World.ownsRow_nil _ _ _ _, HB.out⟩
theorem sim_any (v : Value) (zs : List Int) (s : BO) (w : World) (h : Rn w v zs) (hl : zs.length ≤ 100000) :
    Calls Try.prog 19 #[.agg #[.int .i64 s.1, .int .i64 s.2.1, .int .i64 s.2.2.1, .int .i64 s.2.2.2], v] w (SimP w s zs) := by
  rcases h with ⟨a, cap, rfl, rfl⟩ | ⟨b, off, cap, rfl, _, h3, h4⟩
  · exact sim_zero a cap s w
  · exact sim_some b off cap zs s w hl h3 h4
set_option maxHeartbeats 4000000 in
theorem rsim_some (b off cap : Nat) (zs : List Int) (s : BO) (w : World) (hl : zs.length ≤ 100000) (hb : b < w.heap.size)
    (hc : ∀ k, k < zs.length → w.cell? ⟨b, off + k, none⟩ = some (.int .i64 (zs.getD k 0))) :
    Calls Try.prog 20 #[.agg #[.int .i64 s.1, .int .i64 s.2.1, .int .i64 s.2.2.1, .int .i64 s.2.2.2], .slice (some ⟨b, off, none⟩) zs.length cap] w (SimP w s zs) := by
  obtain ⟨i4, hi4, hz4, hs4, hb4⟩ := info_parts info4
  have HC := Lib.hid hc
  have k0 : SK w (w.alloc (.cells #[.int .i64 s.1, .int .i64 s.2.1, .int .i64 s.2.2.1, .int .i64 s.2.2.2] 26)) (stk s zs 0) (.slice none 0 0) 0 (bools (oks s zs 0)) := ⟨World.ownsRow_nil _ _ _ _, Bw.new w s, below_alloc _ _⟩
  have K0 := Lib.hid k0
  clear hc k0
  go_enter Try.func20, Try.ntmps20
  go_wp2_with fail
  go_loopw [5, 6] (fun v x wr => ∃ k : Nat, k ≤ zs.length ∧ x = .int .i64 k ∧ SK w wr (stk s zs k) v k (bools (oks s zs k))) (fun _ x _ => zs.length - (intOf x).toNat)
  case atStart => exact ⟨0, Nat.zero_le _, rfl, K0.out⟩
  case round =>
    obtain ⟨k, hk, rfl, hK⟩ := hrel
    by_cases hlt : k < zs.length
    · have hfc := (hK.bel.cell (p := ⟨b, off + k, none⟩) hb).trans (HC.out k hlt)
      have hbz : b < wr.heap.size := Nat.lt_of_lt_of_le hb hK.bel.size
      have hst := stk_t s zs k
      have hsf := stk_f s zs k
      have hot := oks_t s zs k
      have hof := oks_f s zs k
      obtain ⟨f, hf⟩ : ∃ f, zs.getD k 0 = f := ⟨_, rfl⟩
      obtain ⟨z, hz⟩ : ∃ z, stk s zs k = z := ⟨_, rfl⟩
      rw [hz] at hK
      rw [hf] at hfc
      cases hr : rdB z.2.2.2 k
      · have ST := Lib.hid (hsf z hz hr)
        have OK := Lib.hid (hof z hz hr)
        have hry : ∀ w, Calls Try.prog 12 #[.agg #[.int .i64 z.1, .int .i64 z.2.1, .int .i64 z.2.2.1, .int .i64 z.2.2.2], .int .i64 k] w fun e w' => e = .returned (.bool false) ∧ Below w.heap.size w w' := fun w => by
          have := rready_any z.1 z.2.1 z.2.2.1 z.2.2.2 k w; rwa [hr] at this
        have HR := Lib.hid hry
        have KK := Lib.hid hK
        obtain ⟨a0, a1, a2, a3⟩ := hK.box.box
        clear hst hsf hot hof hr hry hK hz hf
        generalize bools (oks s zs k) = xs at OK KK
        go_wp2_with fail
        refine (HR.out _).mono ?_
        rintro e w1 ⟨rfl, hb1⟩
        have K1 := Lib.hid (KK.out.keep hb1)
        clear hb1 a0 a1 a2 a3 hfc
        go_wp2_with (at_builtin; go_must (refine wpList_append_own _ rfl _ _ 35 rfl (w.heap.size + 1) 4 i4 (.bool false) 1 1 Try.underlying35 hi4 hz4 hs4 hb4 rfl (by decide) _ _ _ rfl (K1.out.row.alloc _) ⟨w1.heap.size, 0, none⟩ 1 1 [.bool false] rfl rfl (fun j u hj => box_at' _ _ 4 _ rfl j u hj) ?c2 ?c3 ?c4 ?c5 ?_))
        case c2 => intro u hu; simp at hu; subst hu; rfl
        case c3 => unfold maxLen; omega
        case c4 => omega
        case c5 => have := K1.out.row; have := K1.out.box.lt; simp at this ⊢; omega
        intro v' w9 hown' hgrow _
        have k9 := (K1.out.grown _ hgrow hown')
        have K9 := Lib.hid k9
        clear hown' hgrow k9
        go_wp2_with fail
        go_roundw
        case rel => exact ⟨k + 1, by omega, by go_num, by rw [ST.out, OK.out]; exact K9.out⟩
        case measure => simp [intOf]; omega
      · have ST := Lib.hid (hst z f hz hf hr)
        have OK := Lib.hid (hot z f hz hf hr)
        have hry : ∀ w, Calls Try.prog 12 #[.agg #[.int .i64 z.1, .int .i64 z.2.1, .int .i64 z.2.2.1, .int .i64 z.2.2.2], .int .i64 k] w fun e w' => e = .returned (.bool true) ∧ Below w.heap.size w w' := fun w => by
          have := rready_any z.1 z.2.1 z.2.2.1 z.2.2.2 k w; rwa [hr] at this
        have HR := Lib.hid hry
        have KK := Lib.hid hK
        obtain ⟨a0, a1, a2, a3⟩ := hK.box.box
        clear hst hsf hot hof hr hry hK hz hf
        generalize bools (oks s zs k) = xs at OK KK
        go_wp2_with fail
        refine (HR.out _).mono ?_
        rintro e w1 ⟨rfl, hb1⟩
        have k1 := KK.out.keep hb1
        have hfc1 := (Below.cell (p := ⟨b, off + k, none⟩) hb1 hbz).trans hfc
        have hbz1 : b < w1.heap.size := Nat.lt_of_lt_of_le hbz hb1.size
        have K1 := Lib.hid k1
        clear hb1 a0 a1 a2 a3 hfc
        obtain ⟨⟨a0, a1, a2, a3⟩, fr, hlt1⟩ := k1.box
        clear k1
        go_wp2_with fail
        go_region_with (first | (go_at_call 18; refine (rtake_any _ _ _ _ _ _ _).mono ?_; rintro e w2 ⟨rfl, hb2⟩; have k2 := K1.out.keep (BK.of_drew hb2); have K3 := Lib.hid (k2.set (nL z.1, nL z.2.1, rT z.1 z.2.2.1 f, rU z.1 z.2.1 z.2.2.1 z.2.2.2 k f)); obtain ⟨⟨b0, b1, b2, b3⟩, fr2, hlt2⟩ := k2.box; clear k2 hb2))
        · clear a0 a1 a2 a3 fr hlt1 hfc1
          go_wp2_with (at_builtin; go_must (refine wpList_append_own _ rfl _ _ 35 rfl (w.heap.size + 1) 4 i4 (.bool false) 1 1 Try.underlying35 hi4 hz4 hs4 hb4 rfl (by decide) _ _ _ rfl (K3.out.row.alloc _) ⟨w2.heap.size, 0, none⟩ 1 1 [.bool (tkB z.1 z.2.2.1 f)] rfl rfl (fun j u hj => box_at' _ _ 4 _ (size_st4 _ _ _ _ _ _).symm j u hj) ?c2 ?c3 ?c4 ?c5 ?_))
          case c2 => intro u hu; simp at hu; subst hu; rfl
          case c3 => unfold maxLen; omega
          case c4 => omega
          case c5 => have := K3.out.row; have := K3.out.box.lt; simp at this ⊢; omega
          intro v' w9 hown' hgrow _
          have k9 := (K3.out.grown _ hgrow hown')
          have K9 := Lib.hid k9
          clear hown' hgrow k9
          go_wp2_with fail
          go_roundw
          case rel => exact ⟨k + 1, by omega, by go_num, by rw [ST.out, OK.out]; exact K9.out⟩
          case measure => simp [intOf]; omega
        · clear a0 a1 a2 a3 fr hlt1 hfc1
          go_wp2_with (at_builtin; go_must (refine wpList_append_own _ rfl _ _ 35 rfl (w.heap.size + 1) 4 i4 (.bool false) 1 1 Try.underlying35 hi4 hz4 hs4 hb4 rfl (by decide) _ _ _ rfl (K3.out.row.alloc _) ⟨w2.heap.size, 0, none⟩ 1 1 [.bool (tkB z.1 z.2.2.1 f)] rfl rfl (fun j u hj => box_at' _ _ 4 _ (size_st4 _ _ _ _ _ _).symm j u hj) ?c2 ?c3 ?c4 ?c5 ?_))
          case c2 => intro u hu; simp at hu; subst hu; rfl
          case c3 => unfold maxLen; omega
          case c4 => omega
          case c5 => have := K3.out.row; have := K3.out.box.lt; simp at this ⊢; omega
          intro v' w9 hown' hgrow _
          have k9 := (K3.out.grown _ hgrow hown')
          have K9 := Lib.hid k9
          clear hown' hgrow k9
          go_wp2_with fail
          go_roundw
          case rel => exact ⟨k + 1, by omega, by go_num, by rw [ST.out, OK.out]; exact K9.out⟩
          case measure => simp [intOf]; omega
    · obtain rfl : k = zs.length := by omega
      have KK := Lib.hid hK
      clear hK
      go_wp2_with fail
      go_ret
      exact ⟨_, rfl, KK.out.row, KK.out.bel⟩
set_option maxHeartbeats 4000000 in
theorem rsim_zero (a : Option Addr) (cap : Nat) (s : BO) (w : World) :
    Calls Try.prog 20 #[.agg #[.int .i64 s.1, .int .i64 s.2.1, .int .i64 s.2.2.1, .int .i64 s.2.2.2], .slice a 0 cap] w (SimP w s []) := by
  have HB := Lib.hid (below_alloc w (.cells #[.int .i64 s.1, .int .i64 s.2.1, .int .i64 s.2.2.1, .int .i64 s.2.2.2] 26))
  go_enter Try.func20, Try.ntmps20
  go_wp2_with fail
  go_loop [5, 6] (fun v x => x = .int .i64 0 ∧ v = .slice none 0 0) (fun _ _ => 0)
  case atStart => exact ⟨rfl, rfl⟩
  case round =>
    obtain ⟨rfl, rfl⟩ := hrel
    go_wp2_with fail
    go_ret
    exact ⟨_, rfl, World.ownsRow_nil _ _ _ _, HB.out⟩
theorem rsim_any (v : Value) (zs : List Int) (s : BO) (w : World) (h : Rn w v zs) (hl : zs.length ≤ 100000) :
    Calls Try.prog 20 #[.agg #[.int .i64 s.1, .int .i64 s.2.1, .int .i64 s.2.2.1, .int .i64 s.2.2.2], v] w (SimP w s zs) := by
  rcases h with ⟨a, cap, rfl, rfl⟩ | ⟨b, off, cap, rfl, _, h3, h4⟩
  · exact rsim_zero a cap s w
  · exact rsim_some b off cap zs s w hl h3 h4
end Go.Proofs.Ytbpmkbnldoeffaa
