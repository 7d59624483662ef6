/- Long programs. -/
import Derived.Test.YtjmmaaphadeokaaRK
namespace Go.Proofs.Ytjmmaaphadeokaa
open Go.RowKit Go.Shelf
set_option linter.unusedVariables false
set_option linter.unusedSimpArgs false
set_option maxRecDepth 100000 in
set_option maxHeartbeats 4000000 in
theorem slaw_heavy (W R : Int) (p q : Option Addr) (pc qc n m : Nat) (W2 R2 : Int) (p2 q2 : Option Addr) (pc2 qc2 n2 m2 : Nat) (w : World) (h : ¬ ((n ≤ 40 ∧ m ≤ 20) ∧ (n2 ≤ 40 ∧ m2 ≤ 20))) :
    Calls Try.prog 3 #[.agg #[.int .i64 W, .int .i64 R, .slice p n pc, .slice q m qc], .agg #[.int .i64 W2, .int .i64 R2, .slice p2 n2 pc2, .slice q2 m2 qc2]] w fun e w' => e = .returned (.bool true) ∧ BK w w' := by
  have K0 := Lib.hid (bk_alloc (bk_alloc (BK.refl w) (.cells #[.int .i64 W, .int .i64 R, .slice p n pc, .slice q m qc] 25)) (.cells #[.int .i64 W2, .int .i64 R2, .slice p2 n2 pc2, .slice q2 m2 qc2] 25))
  have b4 := (b4_new w (.int .i64 W) (.int .i64 R) (.slice p n pc) (.slice q m qc) 25).keep (bk_alloc (BK.refl _) (.cells #[.int .i64 W2, .int .i64 R2, .slice p2 n2 pc2, .slice q2 m2 qc2] 25))
  have d4 := b4_new (w.alloc (.cells #[.int .i64 W, .int .i64 R, .slice p n pc, .slice q m qc] 25)) (.int .i64 W2) (.int .i64 R2) (.slice p2 n2 pc2) (.slice q2 m2 qc2) 25
  rw [sz1] at d4
  have L1 := Lib.hid (light10 W R p q pc qc n m)
  have L2 := Lib.hid (light10 W2 R2 p2 q2 pc2 qc2 n2 m2)
  by_cases h1 : 40 < n
  · have t1 : (40 : Int) < (n : Int) := by omega
    clear h
    go_enter Try.func3, Try.ntmps3
    go_upto_region 1 with (fail)
    generalize (w.alloc (.cells #[.int .i64 W, .int .i64 R, .slice p n pc, .slice q m qc] 25)).alloc (.cells #[.int .i64 W2, .int .i64 R2, .slice p2 n2 pc2, .slice q2 m2 qc2] 25) = w0 at K0 b4 d4 ⊢
    have HB := Lib.hid b4
    have HD := Lib.hid d4
    obtain ⟨c0, c1, c2, c3⟩ := b4
    obtain ⟨d0, d1, d2, d3⟩ := d4
    go_wp2_with fail
    refine (lives11 w0).mono ?_
    rintro e w9 ⟨rfl, hb9⟩
    have J9 := Lib.hid (hb9)
    clear hb9
    go_wp2_with fail
    go_ret
    exact ⟨rfl, bk_tr K0.out J9.out⟩
  by_cases h2 : 40 < n2
  · have t1 : ¬ (40 : Int) < (n : Int) := by omega
    have t2 : (40 : Int) < (n2 : Int) := by omega
    clear h
    go_enter Try.func3, Try.ntmps3
    go_upto_region 1 with (fail)
    generalize (w.alloc (.cells #[.int .i64 W, .int .i64 R, .slice p n pc, .slice q m qc] 25)).alloc (.cells #[.int .i64 W2, .int .i64 R2, .slice p2 n2 pc2, .slice q2 m2 qc2] 25) = w0 at K0 b4 d4 ⊢
    have HB := Lib.hid b4
    have HD := Lib.hid d4
    obtain ⟨c0, c1, c2, c3⟩ := b4
    obtain ⟨d0, d1, d2, d3⟩ := d4
    go_wp2_with fail
    refine (lives11 w0).mono ?_
    rintro e w9 ⟨rfl, hb9⟩
    have J9 := Lib.hid (hb9)
    clear hb9
    go_wp2_with fail
    go_ret
    exact ⟨rfl, bk_tr K0.out J9.out⟩
  have t1 : ¬ (40 : Int) < (n : Int) := by omega
  have t2 : ¬ (40 : Int) < (n2 : Int) := by omega
  by_cases h3 : m ≤ 20
  · rw [light_yes (n := n) (m := m) (by omega) h3] at L1
    rw [light_no (n := n2) (m := m2) (by omega)] at L2
    clear h
    go_enter Try.func3, Try.ntmps3
    go_upto_region 1 with (fail)
    generalize (w.alloc (.cells #[.int .i64 W, .int .i64 R, .slice p n pc, .slice q m qc] 25)).alloc (.cells #[.int .i64 W2, .int .i64 R2, .slice p2 n2 pc2, .slice q2 m2 qc2] 25) = w0 at K0 b4 d4 ⊢
    have HB := Lib.hid b4
    have HD := Lib.hid d4
    obtain ⟨c0, c1, c2, c3⟩ := b4
    obtain ⟨d0, d1, d2, d3⟩ := d4
    go_wp2_with fail
    refine (L1.out w0).mono ?_
    rintro e w1 ⟨rfl, hb1⟩
    have J1 := Lib.hid (hb1)
    clear hb1 c0 c1 c2 c3 d0 d1 d2 d3
    obtain ⟨c0, c1, c2, c3⟩ := HB.out.keep J1.out
    obtain ⟨d0, d1, d2, d3⟩ := HD.out.keep J1.out
    go_wp2_with fail
    refine (L2.out w1).mono ?_
    rintro e w2 ⟨rfl, hb2⟩
    have J2 := Lib.hid (bk_tr J1.out hb2)
    clear hb2 c0 c1 c2 c3 d0 d1 d2 d3
    obtain ⟨c0, c1, c2, c3⟩ := HB.out.keep J2.out
    obtain ⟨d0, d1, d2, d3⟩ := HD.out.keep J2.out
    go_wp2_with fail
    refine (lives11 w2).mono ?_
    rintro e w9 ⟨rfl, hb9⟩
    have J9 := Lib.hid (bk_tr J2.out hb9)
    clear hb9
    go_wp2_with fail
    go_ret
    exact ⟨rfl, bk_tr K0.out J9.out⟩
  · rw [light_no (n := n) (m := m) (by omega)] at L1
    clear h
    go_enter Try.func3, Try.ntmps3
    go_upto_region 1 with (fail)
    generalize (w.alloc (.cells #[.int .i64 W, .int .i64 R, .slice p n pc, .slice q m qc] 25)).alloc (.cells #[.int .i64 W2, .int .i64 R2, .slice p2 n2 pc2, .slice q2 m2 qc2] 25) = w0 at K0 b4 d4 ⊢
    have HB := Lib.hid b4
    have HD := Lib.hid d4
    obtain ⟨c0, c1, c2, c3⟩ := b4
    obtain ⟨d0, d1, d2, d3⟩ := d4
    go_wp2_with fail
    refine (L1.out w0).mono ?_
    rintro e w1 ⟨rfl, hb1⟩
    have J1 := Lib.hid (hb1)
    clear hb1 c0 c1 c2 c3 d0 d1 d2 d3
    obtain ⟨c0, c1, c2, c3⟩ := HB.out.keep J1.out
    obtain ⟨d0, d1, d2, d3⟩ := HD.out.keep J1.out
    go_wp2_with fail
    refine (lives11 w1).mono ?_
    rintro e w9 ⟨rfl, hb9⟩
    have J9 := Lib.hid (bk_tr J1.out hb9)
    clear hb9
    go_wp2_with fail
    go_ret
    exact ⟨rfl, bk_tr K0.out J9.out⟩
end Go.Proofs.Ytjmmaaphadeokaa
