/- The law that the lists share no memory. -/
import Derived.Test.YtpnjmkmobdaefaaY
namespace Go.Proofs.Ytpnjmkmobdaefaa
open Go.RowKit Go.Maps
set_option linter.unusedVariables false
set_option linter.unusedSimpArgs false
/-- while a row's cells are written over -/
structure XR (ws : World) (v : Value) (m : Nat) (wr : World) : Prop where
  st : Step ws wr (fun k => v.ownBlock = some k) (fun k => v.ownBlock = some k)
  row : ∀ g, v.ownBlock = some g → ∃ cs, wr.heap[g]? = some (.cells cs 44 (0, 0)) ∧ m * 3 ≤ cs.size
theorem XR.start {w : World} {B m : Nat} {v : Value} {xs : List Value} (h : w.ownsRow B 44 3 v m xs) : XR w v m w := by
  refine ⟨Step.refl _ _, fun g hg => ?_⟩
  rcases h.2 with ⟨hv, h0⟩ | ⟨g', cap, cur, hv, hb, hc, h1, h2, h3, _⟩
  · rw [hv] at hg; cases hg
  · rw [hv] at hg
    obtain rfl : g' = g := by simpa [Value.ownBlock] using hg
    exact ⟨cur, hc, by rw [h3]; exact Nat.mul_le_mul_right _ h1⟩
theorem XR.set {ws wr : World} {v : Value} {m g : Nat} (h : XR ws v m wr) (hg : v.ownBlock = some g) (i : Nat) (u : Value) : XR ws v m (wr.setCell ⟨g, i, none⟩ u) := by
  refine ⟨h.st.trans ⟨rfl, rfl, rfl, by simp [World.setCell], fun k hk hn => heap_setCell_other wr ⟨g, i, none⟩ k u (fun e => hn (by rw [hg]; exact congrArg some e.symm)), fun k hk => .inl hk⟩, fun g' hg' => ?_⟩
  obtain rfl : g = g' := by rw [hg] at hg'; simpa using hg'
  obtain ⟨cs, h1, h2⟩ := h.row g hg
  exact ⟨_, heap_setCell_same wr g i cs 44 u h1, by simpa using h2⟩
theorem XR.cell {ws wr : World} {v : Value} {m g : Nat} (h : XR ws v m wr) (hg : v.ownBlock = some g) {i : Nat} (hi : i < m * 3) : (∃ u, wr.cell? ⟨g, i, none⟩ = some u) ∧ wr.frozen? ⟨g, i, none⟩ = false := by
  obtain ⟨cs, h1, h2⟩ := h.row g hg
  exact ⟨⟨_, (cell_of_row wr g i cs 44 (0, 0) h1).trans (Array.getElem?_eq_getElem (by omega))⟩, frozen_of_row wr g i cs 44 h1⟩
theorem XR.bk {w0 ws wr : World} {v : Value} {m : Nat} (h : XR ws v m wr) (hb : BK w0 ws) (hv : ∀ k, v.ownBlock = some k → w0.heap.size ≤ k) : BK w0 wr := Step.bk_new hb h.st hv
set_option maxHeartbeats 1000000 in
theorem owns_long (p : Option Addr) (n c : Nat) (a b : Int) (w : World) (h : 60 < n) : Calls Try.prog 9 #[.slice p n c, .int .i64 a, .int .i64 b] w fun e w' => e = .returned (.bool true) ∧ BK w w' := by
  have hi : (60 : Int) < (n : Int) := by omega
  have HL := Lib.hid (live12 w)
  go_enter Try.func9, Try.ntmps9
  go_wp2_with fail
  refine HL.out.mono ?_
  rintro e w1 ⟨rfl, hb⟩
  have HB := Lib.hid hb
  clear hb
  go_wp2_with fail
  go_ret
  exact ⟨rfl, HB.out⟩
set_option maxRecDepth 100000 in
set_option maxHeartbeats 4000000 in
theorem owns_law (p : Option Addr) (c : Nat) (a b : Int) (ac : List A4) (w : World) (ha : RA w p ac) (hl : ac.length ≤ 60) (oa : okI a) (ob : okI b) : Calls Try.prog 9 #[.slice p ac.length c, .int .i64 a, .int .i64 b] w fun e w' => e = .returned (.bool true) ∧ BK w w' := by
  have hi : ¬ (60 : Int) < (ac.length : Int) := by omega
  have HP := Lib.hid (play20 w p c ac ha hl)
  have hML : (playM [] ac).length ≤ 60 := by have := playM_len ac []; simp at this; omega
  clear ha hl
  generalize playM [] ac = M at HP hML
  generalize ac.length = n at *
  have OA := Lib.hid oa
  have OB := Lib.hid ob
  clear oa ob
  go_enter Try.func9, Try.ntmps9
  go_wp2_with fail
  refine HP.out.mono ?_
  rintro e w1 ⟨o, rfl, hF, hb1⟩
  have HF := Lib.hid hF
  have B1 := Lib.hid hb1
  have C1 := Lib.hid (links19 w1 _ o M _ hF.fb (by omega))
  clear hF hb1 HP
  -- the links, copied
  go_wp2_with (first | (at_builtin; refine wpList_app3 rfl _ _ rfl w2.heap.size _ [] rfl (World.ownsRow_nil _ _ _ _) p2 c2 M rfl (RL.own HO2.out) (by simp; omega) (Nat.le_refl _) ?_; intro v3 w3 ho3 hb3) | (go_at_call 19; refine C1.out.mono ?_; rintro e w2 ⟨v, rfl, ho2, hb2⟩; have HO2 := Lib.hid ho2; have B2 := Lib.hid hb2; obtain ⟨p2, c2, rfl⟩ := own_shape ho2; clear ho2 hb2 C1))
  have ho3 : w3.ownsRow w2.heap.size 44 3 v3 M.length (flat3 M) := ho3
  have HO3 := Lib.hid ho3
  have RL3 := Lib.hid (show ∃ p c, v3 = .slice p M.length c ∧ RL w3 p c M from by obtain ⟨p, c, e⟩ := own_shape ho3; exact ⟨p, c, e, RL.own (n := M.length) (by rw [← e]; exact ho3)⟩)
  have K3 := Lib.hid (bk_tr B2.out (show BK w2 w3 from hb3))
  have B3 := Lib.hid (bk_tr B1.out K3.out)
  obtain ⟨p3, c3', rfl, rl3⟩ := RL3.out
  have R3 := Lib.hid rl3
  have C2 := Lib.hid (links19 w3 _ o M _ (HF.out.bk K3.out).fb (by omega))
  clear ho3 hb3 rl3 RL3 HO3
  go_wp2_with fail
  refine C2.out.mono ?_
  rintro e w4 ⟨v4, rfl, ho4, hb4⟩
  have X4 := Lib.hid (XR.start ho4)
  have B4 := Lib.hid hb4
  have LO4 := Lib.hid (show ∀ k, v4.ownBlock = some k → w3.heap.size ≤ k from fun k hk => (ho4.lt k hk).1)
  have FM4 := Lib.hid (fun h : 0 < M.length => ho4.form h)
  obtain ⟨p4, c4, rfl⟩ := own_shape ho4
  clear ho4 hb4 C2
  generalize hm : M.length = m at *
  have HM := Lib.hid hm
  clear hm
  go_wp2_with fail
  go_loopw [10] (fun x wr => ∃ k : Nat, x = .int .i64 k ∧ k ≤ m ∧ XR w4 (.slice p4 m c4) m wr) (fun x _ => m - (intOf x).toNat)
  case atStart => exact ⟨0, rfl, by omega, X4.out⟩
  case round =>
    obtain ⟨k, rfl, hk, hx⟩ := hrel
    have HX := Lib.hid hx
    clear hx
    by_cases e : k = m
    · subst e
      obtain ⟨wa, hwa⟩ : ∃ x, x = wr := ⟨_, rfl⟩
      subst hwa
      have BW := Lib.hid (HX.out.bk B4.out LO4.out)
      have HF5 := Lib.hid (HF.out.bk (bk_tr K3.out BW.out))
      have C3 := Lib.hid (path21 wa _ o M _ HF5.out a b OA.out OB.out (by rw [HM.out]; omega))
      have hpl := pathL_len M a b
      rw [HM.out] at hpl
      clear X4 HX FM4
      go_wp2_with fail
      refine C3.out.mono ?_
      rintro e w5 ⟨v5, rfl, ho5, hb5⟩
      have HO5 := Lib.hid ho5
      have B5 := Lib.hid hb5
      obtain ⟨p5, c5, rfl⟩ := own_shape ho5
      have R5 := Lib.hid (RL.own ho5)
      clear ho5 hb5 C3
      generalize hpp : pathL M a b = P at *
      generalize hs : sameB M a b = s at *
      have HPP := Lib.hid hpp
      clear hpp hs
      go_wp2_with (at_builtin; refine wpList_app3 rfl _ _ rfl w5.heap.size _ [] rfl (World.ownsRow_nil _ _ _ _) p5 c5 P rfl R5.out (by simp; omega) (Nat.le_refl _) ?_)
      intro v6 w6 ho6 hb6
      have ho6 : w6.ownsRow w5.heap.size 44 3 v6 P.length (flat3 P) := ho6
      have HO6 := Lib.hid ho6
      have K6 := Lib.hid (show BK w5 w6 from hb6)
      have B6 := Lib.hid (bk_tr B5.out K6.out)
      have X6 := Lib.hid (XR.start (own_below HO5.out K6.out))
      have LO5 := Lib.hid (fun k hk => (HO5.out.lt k hk).1)
      have LT5 := Lib.hid (fun k hk => (HO5.out.lt k hk).2)
      have FM5 := Lib.hid (fun h : 0 < P.length => HO5.out.form h)
      obtain ⟨p6, c6, rfl⟩ := own_shape ho6
      clear ho6 hb6 HO5
      generalize hq : P.length = q at *
      have HQ := Lib.hid hq
      clear hq
      go_wp2_with fail
      go_loopw [14] (fun x wr2 => ∃ i : Nat, x = .int .i64 i ∧ i ≤ q ∧ XR w6 (.slice p5 q c5) q wr2) (fun x _ => q - (intOf x).toNat)
      case atStart => exact ⟨0, rfl, by omega, X6.out⟩
      case round =>
        obtain ⟨i, rfl, hi', hx⟩ := hrel
        have HX := Lib.hid hx
        clear hx
        by_cases e : i = q
        · subst e
          have BW2 := Lib.hid (HX.out.bk B6.out LO5.out)
          have HO6' := own_at HO6.out (fun k hk => HX.out.st.block k (HO6.out.lt k hk).2 (fun h5 => by have h1 := LT5.out k h5; have h2 := (HO6.out.lt k hk).1; omega))
          have R6 := Lib.hid (RL.own (n := i) (B := w5.heap.size) (e := 44) (l := P) (by rw [HQ.out]; exact HO6'))
          have HF7 := Lib.hid (HF5.out.bk BW2.out)
          have C4 := Lib.hid (path21 wr _ o M _ HF7.out a b OA.out OB.out (by rw [HM.out]; omega))
          unfold PP at C4
          rw [HPP.out, HQ.out] at C4
          clear HX FM5 X6 HO6'
          have HF8 := Lib.hid (fun w8 (h : BK wr w8) => links19 w8 _ o M _ (HF7.out.bk h).fb (by rw [HM.out]; omega))
          go_wp2_with fail
          refine C4.out.mono ?_
          rintro e w8 ⟨v8, rfl, ho8, hb8⟩
          have B8 := Lib.hid hb8
          have C5 := Lib.hid (HF8.out w8 hb8)
          obtain ⟨p8, c8, rfl⟩ := own_shape ho8
          have R8 := Lib.hid (RL.own (n := i) (B := wr.heap.size) (e := 44) (l := P) (by rw [HQ.out]; exact ho8))
          clear ho8 hb8 C4
          go_wp2_with fail
          refine C5.out.mono ?_
          rintro e w9 ⟨v9, rfl, ho9, hb9⟩
          have B9 := Lib.hid hb9
          obtain ⟨p9, c9, e9, r9⟩ : ∃ p c, v9 = .slice p M.length c ∧ RL w9 p c M := by
            obtain ⟨p, c, e⟩ := own_shape ho9
            exact ⟨p, c, e, RL.own (n := M.length) (by rw [← e]; exact ho9)⟩
          subst e9
          have K39 := Lib.hid (bk_tr BW.out (bk_tr BW2.out (bk_tr B8.out hb9)))
          have E1 := Lib.hid (equal18 w9 M p9 p3 c9 c3' r9 (R3.out.keep K39.out) (by rw [HM.out]; omega))
          clear ho9 hb9 r9 C5
          rw [HM.out] at E1 ⊢
          go_wp2_with fail
          refine E1.out.mono ?_
          rintro e w10 ⟨rfl, hb10⟩
          have B10 := Lib.hid hb10
          have E2 := Lib.hid (equal18 w10 P p8 p6 c8 c6 (R8.out.keep (bk_tr B9.out hb10)) (R6.out.keep (bk_tr B8.out (bk_tr B9.out hb10))) (by rw [HQ.out]; omega))
          rw [HQ.out] at E2
          clear hb10 E1
          go_wp2_with fail
          refine E2.out.mono ?_
          rintro e w11 ⟨rfl, hb11⟩
          have C6 := Lib.hid (live12 w11)
          have B11 := Lib.hid (bk_tr B3.out (bk_tr K39.out (bk_tr B10.out hb11)))
          clear hb11 E2
          go_wp2_with fail
          refine C6.out.mono ?_
          rintro e w12 ⟨rfl, hb12⟩
          have B12 := Lib.hid (bk_tr B11.out hb12)
          clear hb12
          go_wp2_with fail
          go_ret
          exact ⟨rfl, B12.out⟩
        · have hlt : (i : Int) < (q : Int) := by omega
          obtain ⟨g, cap, hv, _, _⟩ := FM5.out (by omega)
          simp only [Value.slice.injEq] at hv
          obtain ⟨rfl, -, rfl⟩ := hv
          obtain ⟨⟨y0, e0⟩, f0⟩ := HX.out.cell (g := g) rfl (i := i * 3) (by omega)
          obtain ⟨⟨y1, e1⟩, f1⟩ := HX.out.cell (g := g) rfl (i := i * 3 + 1) (by omega)
          obtain ⟨⟨y2, e2⟩, f2⟩ := HX.out.cell (g := g) rfl (i := i * 3 + 2) (by omega)
          have X1 := Lib.hid (((HX.out.set (g := g) rfl (i * 3) (.int .i64 0)).set (g := g) rfl (i * 3 + 1) (.int .i64 b)).set (g := g) rfl (i * 3 + 2) (.int .i64 0))
          go_wp2_with fail
          go_roundw
          case rel => exact ⟨i + 1, by go_num, by omega, X1.out⟩
          case measure => simp [intOf]; omega
    · have hlt : (k : Int) < (m : Int) := by omega
      obtain ⟨g, cap, hv, _, _⟩ := FM4.out (by omega)
      simp only [Value.slice.injEq] at hv
      obtain ⟨rfl, -, rfl⟩ := hv
      obtain ⟨⟨y0, e0⟩, f0⟩ := HX.out.cell (g := g) rfl (i := k * 3) (by omega)
      obtain ⟨⟨y1, e1⟩, f1⟩ := HX.out.cell (g := g) rfl (i := k * 3 + 1) (by omega)
      obtain ⟨⟨y2, e2⟩, f2⟩ := HX.out.cell (g := g) rfl (i := k * 3 + 2) (by omega)
      have X1 := Lib.hid (((HX.out.set (g := g) rfl (k * 3) (.int .i64 a)).set (g := g) rfl (k * 3 + 1) (.int .i64 0)).set (g := g) rfl (k * 3 + 2) (.int .i64 0))
      go_wp2_with fail
      go_roundw
      case rel => exact ⟨k + 1, by go_num, by omega, X1.out⟩
      case measure => simp [intOf]; omega
end Go.Proofs.Ytpnjmkmobdaefaa
