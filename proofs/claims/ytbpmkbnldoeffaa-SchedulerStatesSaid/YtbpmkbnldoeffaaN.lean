/- New, Ready, Threshold and Banned beside the reference. -/
import Derived.Test.YtbpmkbnldoeffaaK
namespace Go.Proofs.Ytbpmkbnldoeffaa
open Go.RowKit
set_option linter.unusedVariables false
set_option linter.unusedSimpArgs false
theorem Rb.shape {w : World} {v : Value} {zs : List BO} (h : Rb w v zs) : ∃ p c, v = .slice p zs.length c := by
  rcases h with ⟨a, cap, rfl, rfl⟩ | ⟨b, off, cap, rfl, _⟩
  · exact ⟨a, cap, rfl⟩
  · exact ⟨_, cap, rfl⟩
theorem bk_drewN {a b : World} (h : BK a b) (q : Nat) : BK a (b.drewN q) := below_drewN (B := a.heap.size) (a := a) (w := b) h q
/-- four cells of a state in a row -/
def C4 (w : World) (b o : Nat) (s : BO) : Prop := w.cell? ⟨b, o, none⟩ = some (.int .i64 s.1) ∧ w.cell? ⟨b, o + 1, none⟩ = some (.int .i64 s.2.1) ∧ w.cell? ⟨b, o + 2, none⟩ = some (.int .i64 s.2.2.1) ∧ w.cell? ⟨b, o + 3, none⟩ = some (.int .i64 s.2.2.2)
theorem C4.keep {w w' : World} {b o : Nat} {s : BO} (h : C4 w b o s) (hb : BK w w') (hlt : b < w.heap.size) : C4 w' b o s := by
  have hb : Below w.heap.size w w' := hb
  exact ⟨(hb.cell (p := ⟨b, _, none⟩) hlt).trans h.1, (hb.cell (p := ⟨b, _, none⟩) hlt).trans h.2.1, (hb.cell (p := ⟨b, _, none⟩) hlt).trans h.2.2.1, (hb.cell (p := ⟨b, _, none⟩) hlt).trans h.2.2.2⟩
/-- v reads as the states zs, by its shape -/
def Rs (w : World) (p : Option Addr) (zs : List BO) : Prop := 0 < zs.length → ∃ b off, p = some ⟨b, off, none⟩ ∧ b < w.heap.size ∧ ∀ k, k < zs.length → C4 w b (off + k * 4) (zs.getD k (0, 0, 0, 0))
theorem Rb.rs {w : World} {v : Value} {zs : List BO} (h : Rb w v zs) : ∃ p c, v = .slice p zs.length c ∧ Rs w p zs := by
  rcases h with ⟨a, cap, rfl, rfl⟩ | ⟨b, off, cap, rfl, _, h3, h4⟩
  · exact ⟨a, cap, rfl, fun h => by simp at h⟩
  · exact ⟨_, cap, rfl, fun _ => ⟨b, off, rfl, h3, h4⟩⟩
theorem Rs.keep {w w' : World} {p : Option Addr} {zs : List BO} (h : Rs w p zs) (hb : BK w w') : Rs w' p zs := fun h0 => by
  obtain ⟨b, off, h1, h2, h3⟩ := h h0
  exact ⟨b, off, h1, Nat.lt_of_lt_of_le h2 (bk_size hb), fun k hk => (h3 k hk).keep hb h2⟩
/-- the calls on a state, in every world of the class -/
structure Cs (w0 : World) (s : BO) (i : Int) (r : Bool) (t : Int) : Prop where
  c1 : ∀ wc, BK w0 wc → Calls Try.prog 11 #[.agg #[.int .i64 s.1, .int .i64 s.2.1, .int .i64 s.2.2.1, .int .i64 s.2.2.2], .int .i64 i] wc fun e w' => e = .returned (.bool r) ∧ BK w0 w'
  c2 : ∀ wc, BK w0 wc → Calls Try.prog 12 #[.agg #[.int .i64 s.1, .int .i64 s.2.1, .int .i64 s.2.2.1, .int .i64 s.2.2.2], .int .i64 i] wc fun e w' => e = .returned (.bool r) ∧ BK w0 w'
  c3 : ∀ wc, BK w0 wc → Calls Try.prog 13 #[.agg #[.int .i64 s.1, .int .i64 s.2.1, .int .i64 s.2.2.1, .int .i64 s.2.2.2]] wc fun e w' => e = .returned (.int .i64 t) ∧ BK w0 w'
  c4 : ∀ wc, BK w0 wc → Calls Try.prog 14 #[.agg #[.int .i64 s.1, .int .i64 s.2.1, .int .i64 s.2.2.1, .int .i64 s.2.2.2]] wc fun e w' => e = .returned (.int .i64 t) ∧ BK w0 w'
theorem cs_mk (w0 : World) (s : BO) (i : Int) : Cs w0 s i (rdB s.2.2.2 i) (th s.1 s.2.2.1) :=
  ⟨fun wc h => bkc (ready_any _ _ _ _ _ _) h, fun wc h => bkc (rready_any _ _ _ _ _ _) h, fun wc h => bkc (thr_any _ _ _ _ _) h, fun wc h => bkc (rthr_any _ _ _ _ _) h⟩
set_option maxRecDepth 100000 in
set_option maxHeartbeats 4000000 in
theorem law3_short (rules l b i : Int) (p : Option Addr) (cap : Nat) (zs : List BO) (w : World) (h : Rs w p zs) (hv : Rb w (.slice p zs.length cap) zs) (hl : zs.length ≤ 200) :
    Calls Try.prog 3 #[.int .i64 rules, .int .i64 l, .int .i64 b, .int .i64 i, .slice p zs.length cap] w fun e w' => e = .returned (.bool true) ∧ Below w.heap.size w w' := by
  have hd : decide ((200 : Int) < (zs.length : Int)) = false := by simp; omega
  have hi : ¬ (200 : Int) < (zs.length : Int) := by omega
  have HZ := Lib.hid h
  have HV := Lib.hid hv
  have hm := nR_le rules
  have hml : (nS l b (nR rules)).length = nR rules := by simp [nS]
  have hn1 := new_any rules l b
  have hn2 := rnew_any rules l b
  have HN1 := Lib.hid hn1
  have HN2 := Lib.hid hn2
  clear h hv hn1 hn2
  generalize nS l b (nR rules) = ns at HN1 HN2 hml
  generalize nR rules = m at hm hml
  go_enter Try.func3, Try.ntmps3
  go_wp2_with fail
  refine (HN1.out _).mono ?_
  rintro e w1 ⟨v1, rfl, hv1, hb1⟩
  have H1 := Lib.hid (show BK w w1 from hb1)
  obtain ⟨p1, c1, rfl, hr1⟩ := hv1.rs
  have HR1 := Lib.hid hr1
  clear hv1 hr1 hb1
  go_wp2_with fail
  refine (HN2.out _).mono ?_
  rintro e w2 ⟨v2, rfl, hv2, hb2⟩
  have HR1' := Lib.hid (HR1.out.keep (show BK w1 w2 from hb2))
  have H2 := Lib.hid (bk_chain H1.out hb2)
  obtain ⟨p2, c2, rfl, hr2⟩ := hv2.rs
  have HR2 := Lib.hid hr2
  rw [hml]
  have Hml := Lib.hid hml
  clear hv2 hr2 hb2 HR1 H1 hml
  go_wp2_with fail
  go_loopw [13] (fun x wr => ∃ k : Nat, k ≤ m ∧ x = .int .i64 k ∧ BK w2 wr) (fun x _ => m - (intOf x).toNat)
  case atStart => exact ⟨0, Nat.zero_le _, rfl, BK.refl _⟩
  case round =>
    obtain ⟨k, hk, rfl, hkw⟩ := hrel
    have HK := Lib.hid hkw
    by_cases hlt : k < m
    · have hkl : k < ns.length := by rw [Hml.out]; exact hlt
      obtain ⟨b1, o1, rfl, hlb1, hc1⟩ := HR1'.out (by omega)
      obtain ⟨b2, o2, rfl, hlb2, hc2⟩ := HR2.out (by omega)
      obtain ⟨x0, x1, x2, x3⟩ := (hc1 k hkl).keep hkw hlb1
      obtain ⟨y0, y1, y2, y3⟩ := (hc2 k hkl).keep hkw hlb2
      clear hkw hc1 hc2 hkl
      generalize ns.getD k (0, 0, 0, 0) = s at x0 x1 x2 x3 y0 y1 y2 y3
      go_wp2_with fail
      go_quiet (fail)
      go_wp2_with fail
      go_roundw
      case rel => exact ⟨k + 1, by omega, by go_num, bk_drewN HK.out _⟩
      case measure => simp [intOf]; omega
    · have H3 := Lib.hid (bk_tr H2.out hkw)
      clear hkw HK H2
      go_wp2_with fail
      go_loopw [14] (fun x wx => ∃ k : Nat, k ≤ zs.length ∧ x = .int .i64 k ∧ BK w wx) (fun x _ => zs.length - (intOf x).toNat)
      case atStart => exact ⟨0, Nat.zero_le _, rfl, H3.out⟩
      case round =>
        obtain ⟨k2, hk2, rfl, hkx⟩ := hrel
        have HX := Lib.hid hkx
        by_cases hlt2 : k2 < zs.length
        · obtain ⟨b0, o0, rfl, hlb0, hc0⟩ := HZ.out (by omega)
          have x4 := (hc0 k2 hlt2).keep hkx hlb0
          have hbx : b0 < _ := Nat.lt_of_lt_of_le hlb0 (bk_size hkx)
          clear hkx hc0
          generalize zs.getD k2 (0, 0, 0, 0) = s at x4
          have KC := Lib.hid (fun wc (hb : BK wr wc) => x4.keep hb hbx)
          have C := Lib.hid (cs_mk wr s i)
          have hq0 : (0 : Int) ≤ (k2 : Int) := by omega
          have hq1 : (k2 : Int) < (zs.length : Int) := by omega
          clear x4
          generalize rdB s.2.2.2 i = rr at C
          generalize th s.1 s.2.2.1 = tt at C
          go_wp2_with fail
          refine wp_region_class (C := fun w' => BK wr w') (by kernel_rfl) (by kernel_rfl) (bk_drew (BK.refl _)) ?_
          repeat (first
            | go_big_quiet_step (fail)
            | (refine wpQuiet_step (fun K hK => ?_)
               go_simp
               first
                 | (refine hK _ ?_; clear hK K)
                 | (refine ⟨_, fun _ _ => rfl, hK _ ?_⟩; clear hK K)
                 | (apply Exists.intro; refine ⟨fun w5 hw5 => ?_, hK _ ?_⟩; (go_at_call 11; with_reducible exact C.out.c1 _ hw5); clear hK K)
                 | (apply Exists.intro; refine ⟨fun w5 hw5 => ?_, hK _ ?_⟩; (go_at_call 12; with_reducible exact C.out.c2 _ hw5); clear hK K)
                 | (apply Exists.intro; refine ⟨fun w5 hw5 => ?_, hK _ ?_⟩; (go_at_call 13; with_reducible exact C.out.c3 _ hw5); clear hK K)
                 | (apply Exists.intro; refine ⟨fun w5 hw5 => ?_, hK _ ?_⟩; (go_at_call 14; with_reducible exact C.out.c4 _ hw5); clear hK K)
                 | (apply Exists.intro; refine ⟨fun w5 hw5 => ?_, hK _ ?_⟩; (obtain ⟨q0, q1, q2, q3⟩ := KC.out _ hw5; go_simp; rfl); clear hK K)))
          refine wpQuiet_nil ?_
          intro w5 hw5
          have H5 := Lib.hid (bk_tr HX.out hw5)
          clear hw5
          go_wp2_with fail
          go_roundw
          case rel => exact ⟨k2 + 1, by omega, by go_num, H5.out⟩
          case measure => simp [intOf]; omega
        · have hv := HV.out.below hkx
          have hb1 := banned_any _ zs i _ hv (by omega)
          have hb2 := fun w5 (hb5 : Below _ _ w5) => rbanned_any _ zs i w5 (hv.below hb5) (by omega)
          clear hkx hv
          generalize bn zs i zs.length = nn at hb1 hb2
          have HB1 := Lib.hid hb1
          have HB2 := Lib.hid hb2
          clear hb1 hb2
          go_wp2_with fail
          refine HB1.out.mono ?_
          rintro e w5 ⟨rfl, hb5⟩
          have HB3 := Lib.hid (HB2.out _ hb5)
          have H5 := Lib.hid (bk_chain HX.out hb5)
          clear hb5 HB2
          go_wp2_with fail
          refine HB3.out.mono ?_
          rintro e w6 ⟨rfl, hb6⟩
          have H6 := Lib.hid (bk_chain H5.out hb6)
          clear hb6
          go_wp2_with fail
          refine (lives_any _).mono ?_
          rintro e w9 ⟨rfl, hb9⟩
          have H9 := Lib.hid (bk_chain H6.out hb9)
          clear hb9
          go_wp2_with fail
          go_ret
          exact ⟨rfl, H9.out⟩
set_option maxRecDepth 100000 in
set_option maxHeartbeats 4000000 in
theorem law3_long (rules l b i : Int) (p : Option Addr) (n c : Nat) (w : World) (hl : 200 < n) : Calls Try.prog 3 #[.int .i64 rules, .int .i64 l, .int .i64 b, .int .i64 i, .slice p n c] w fun e w' => e = .returned (.bool true) ∧ Below w.heap.size w w' := by
  have hd : decide ((200 : Int) < (n : Int)) = true := by simp; omega
  have hi : (200 : Int) < (n : Int) := by omega
  go_enter Try.func3, Try.ntmps3
  go_wp2_with fail
  refine (lives_any _).mono ?_
  rintro e w9 ⟨rfl, hb9⟩
  have H9 := Lib.hid (show BK w w9 from hb9)
  clear hb9
  go_wp2_with fail
  go_ret
  exact ⟨rfl, H9.out⟩
theorem law3 (rules l b i : Int) (v : Value) (zs : List BO) (w : World) (h : Rb w v zs) : Calls Try.prog 3 #[.int .i64 rules, .int .i64 l, .int .i64 b, .int .i64 i, v] w fun e w' => e = .returned (.bool true) ∧ Below w.heap.size w w' := by
  obtain ⟨p, c, rfl, hs⟩ := h.rs
  by_cases hl : zs.length ≤ 200
  · exact law3_short rules l b i p c zs w hs h hl
  · exact law3_long rules l b i p zs.length c w (by omega)
end Go.Proofs.Ytbpmkbnldoeffaa
