/- The laws: Prints, Parses, Back. -/
import Derived.Test.YtkdpbmbkpepelaaDoorU
namespace Go.Proofs.YtkdpbmbkpepelaaDoor
open Go.RowKit
set_option linter.unusedVariables false
set_option linter.unusedSimpArgs false
def LW (w : World) (e : Ending) (w' : World) : Prop := e = .returned (.bool true) ∧ BK w w'
set_option maxRecDepth 100000 in
set_option maxHeartbeats 4000000 in
theorem prints_law (u : Nat) (hu : u < 18446744073709551616) (n : Int) (hn : In64 n) (w : World) (ht : Tb w) : Calls Tryd.prog 3 #[.int .u64 (u : Int), .int .i64 n] w (LW w) := by
  have H9 := Lib.hid (fun (wc : World) (hb : BK w wc) => dec9 u hu wc (ht.keep hb))
  have H10 := Lib.hid (fun (wc : World) (hb : BK w wc) => rdec10 u hu wc)
  have H11 := Lib.hid (fun (wc : World) (hb : BK w wc) => hex11 u hu wc (ht.keep hb))
  have H12 := Lib.hid (fun (wc : World) (hb : BK w wc) => rhex12 u hu wc)
  have H13 := Lib.hid (fun (wc : World) (hb : BK w wc) => int13 n hn wc (ht.keep hb))
  have H14 := Lib.hid (fun (wc : World) (hb : BK w wc) => rint14 n hn wc)
  have H15 := Lib.hid (fun (wc : World) (hb : BK w wc) => live15 wc (ht.keep hb))
  generalize (⟨(wrn 10 u).toArray⟩ : ByteArray) = S1 at H9 H10
  generalize (⟨(48 :: 120 :: wrn 16 u).toArray⟩ : ByteArray) = S2 at H11 H12
  generalize (⟨(Lib.itoa n).toArray⟩ : ByteArray) = S3 at H13 H14
  clear ht hu hn
  go_enter Tryd.func3, Tryd.ntmps3
  go_wp2_with fail
  refine (H9.out _ (BK.refl _)).mono ?_
  rintro e w1 ⟨rfl, b1⟩
  have K1 := Lib.hid b1
  clear b1
  go_wp2_with fail
  refine (H10.out _ K1.out).mono ?_
  rintro e w2 ⟨rfl, b2⟩
  have K2 := Lib.hid (bk_tr K1.out b2)
  clear b2
  go_wp2_with fail
  refine (H11.out _ K2.out).mono ?_
  rintro e w3 ⟨rfl, b3⟩
  have K3 := Lib.hid (bk_tr K2.out b3)
  clear b3
  go_wp2_with fail
  refine (H12.out _ K3.out).mono ?_
  rintro e w4 ⟨rfl, b4⟩
  have K4 := Lib.hid (bk_tr K3.out b4)
  clear b4
  go_wp2_with fail
  refine (H13.out _ K4.out).mono ?_
  rintro e w5 ⟨rfl, b5⟩
  have K5 := Lib.hid (bk_tr K4.out b5)
  clear b5
  go_wp2_with fail
  refine (H14.out _ K5.out).mono ?_
  rintro e w6 ⟨rfl, b6⟩
  have K6 := Lib.hid (bk_tr K5.out b6)
  clear b6
  go_wp2_with fail
  refine (H15.out _ K6.out).mono ?_
  rintro e w7 ⟨rfl, b7⟩
  have K7 := Lib.hid (bk_tr K6.out b7)
  clear b7
  go_wp2_with fail
  go_ret
  exact ⟨rfl, K7.out⟩
set_option maxRecDepth 100000 in
set_option maxHeartbeats 4000000 in
theorem parses_law (s : ByteArray) (w : World) (ht : Tb w) : Calls Tryd.prog 4 #[.string s] w (LW w) := by
  have H15 := Lib.hid (fun (wc : World) (hb : BK w wc) => live15 wc (ht.keep hb))
  by_cases hs : s.size ≤ 2000
  · have H16 := Lib.hid (fun (wc : World) (hb : BK w wc) => parse16 s (by omega) wc (ht.keep hb))
    have H17 := Lib.hid (fun (wc : World) (hb : BK w wc) => rparse17 s (by omega) wc)
    have H18 := Lib.hid (fun (wc : World) (hb : BK w wc) => pint18 s (by omega) wc (ht.keep hb))
    have H19 := Lib.hid (fun (wc : World) (hb : BK w wc) => rpint19 s (by omega) wc)
    obtain ⟨a, b, hab⟩ := resU_shape (parseS (bl s))
    obtain ⟨c, d, hcd⟩ := resI_shape (parseI (bl s))
    rw [hab] at H16 H17
    rw [hcd] at H18 H19
    have is : (s.size : Int) ≤ 2000 := by omega
    clear ht hab hcd hs
    go_enter Tryd.func4, Tryd.ntmps4
    go_wp2_with fail
    refine (H16.out _ (BK.refl _)).mono ?_
    rintro e w1 ⟨rfl, b1⟩
    have K1 := Lib.hid b1
    clear b1
    go_wp2_with fail
    refine (H17.out _ K1.out).mono ?_
    rintro e w2 ⟨rfl, b2⟩
    have K2 := Lib.hid (bk_tr K1.out b2)
    clear b2
    go_wp2_with fail
    refine (H18.out _ K2.out).mono ?_
    rintro e w3 ⟨rfl, b3⟩
    have K3 := Lib.hid (bk_tr K2.out b3)
    clear b3
    go_wp2_with fail
    refine (H19.out _ K3.out).mono ?_
    rintro e w4 ⟨rfl, b4⟩
    have K4 := Lib.hid (bk_tr K3.out b4)
    clear b4
    go_wp2_with fail
    refine (H15.out _ K4.out).mono ?_
    rintro e w5 ⟨rfl, b5⟩
    have K5 := Lib.hid (bk_tr K4.out b5)
    clear b5
    go_wp2_with fail
    go_ret
    exact ⟨rfl, K5.out⟩
  · have is : (2000 : Int) < (s.size : Int) := by omega
    clear ht hs
    go_enter Tryd.func4, Tryd.ntmps4
    go_wp2_with fail
    refine (H15.out _ (BK.refl _)).mono ?_
    rintro e w5 ⟨rfl, b5⟩
    have K5 := Lib.hid b5
    clear b5
    go_wp2_with fail
    go_ret
    exact ⟨rfl, K5.out⟩
theorem itoa_small {n : Int} (h : In64 n) : (⟨(Lib.itoa n).toArray⟩ : ByteArray).size ≤ 1000000 := by
  show (Lib.itoa n).length ≤ 1000000
  have := itoa_b h
  omega
set_option maxRecDepth 100000 in
set_option maxHeartbeats 4000000 in
theorem back_law (u : Nat) (hu : u < 18446744073709551616) (n : Int) (hn : In64 n) (w : World) (ht : Tb w) : Calls Tryd.prog 6 #[.int .u64 (u : Int), .int .i64 n] w (LW w) := by
  have l10 := wrn_len 10 u (.inl rfl) hu
  have l16 := wrn_len 16 u (.inr rfl) hu
  have H9 := Lib.hid (fun (wc : World) (hb : BK w wc) => dec9 u hu wc (ht.keep hb))
  have P9 := Lib.hid (fun (wc : World) (hb : BK w wc) => by
    have h := parse16 ⟨(wrn 10 u).toArray⟩ (by show (wrn 10 u).length ≤ 1000000; omega) wc (ht.keep hb)
    rw [show bl ⟨(wrn 10 u).toArray⟩ = wrn 10 u from rfl, parse_dec hu] at h
    exact (show Calls Tryd.prog 16 #[.string ⟨(wrn 10 u).toArray⟩] wc (fun e w' => e = .returned (.tuple #[.int .u64 (u : Int), .int .i64 0]) ∧ BK wc w') from h))
  have H11 := Lib.hid (fun (wc : World) (hb : BK w wc) => hex11 u hu wc (ht.keep hb))
  have P11 := Lib.hid (fun (wc : World) (hb : BK w wc) => by
    have h := parse16 ⟨(48 :: 120 :: wrn 16 u).toArray⟩ (by show (wrn 16 u).length + 1 + 1 ≤ 1000000; omega) wc (ht.keep hb)
    rw [show bl ⟨(48 :: 120 :: wrn 16 u).toArray⟩ = 48 :: 120 :: wrn 16 u from rfl, parse_hex hu] at h
    exact (show Calls Tryd.prog 16 #[.string ⟨(48 :: 120 :: wrn 16 u).toArray⟩] wc (fun e w' => e = .returned (.tuple #[.int .u64 (u : Int), .int .i64 0]) ∧ BK wc w') from h))
  have H13 := Lib.hid (fun (wc : World) (hb : BK w wc) => int13 n hn wc (ht.keep hb))
  have P13 := Lib.hid (fun (wc : World) (hb : BK w wc) => by
    have h := pint18 ⟨(Lib.itoa n).toArray⟩ (itoa_small hn) wc (ht.keep hb)
    rw [show bl ⟨(Lib.itoa n).toArray⟩ = Lib.itoa n from rfl, parseI_itoa hn] at h
    exact (show Calls Tryd.prog 18 #[.string ⟨(Lib.itoa n).toArray⟩] wc (fun e w' => e = .returned (.tuple #[.int .i64 n, .int .i64 0]) ∧ BK wc w') from h))
  have H15 := Lib.hid (fun (wc : World) (hb : BK w wc) => live15 wc (ht.keep hb))
  generalize (⟨(wrn 10 u).toArray⟩ : ByteArray) = S1 at H9 P9
  generalize (⟨(48 :: 120 :: wrn 16 u).toArray⟩ : ByteArray) = S2 at H11 P11
  generalize (⟨(Lib.itoa n).toArray⟩ : ByteArray) = S3 at H13 P13
  clear ht hu hn l10 l16
  generalize (u : Int) = x at *
  go_enter Tryd.func6, Tryd.ntmps6
  go_wp2_with fail
  refine (H9.out _ (BK.refl _)).mono ?_
  rintro e w1 ⟨rfl, b1⟩
  have K1 := Lib.hid b1
  clear b1
  go_wp2_with fail
  refine (P9.out _ K1.out).mono ?_
  rintro e w2 ⟨rfl, b2⟩
  have K2 := Lib.hid (bk_tr K1.out b2)
  clear b2
  go_wp2_with fail
  refine (H11.out _ K2.out).mono ?_
  rintro e w3 ⟨rfl, b3⟩
  have K3 := Lib.hid (bk_tr K2.out b3)
  clear b3
  go_wp2_with fail
  refine (P11.out _ K3.out).mono ?_
  rintro e w4 ⟨rfl, b4⟩
  have K4 := Lib.hid (bk_tr K3.out b4)
  clear b4
  go_wp2_with fail
  refine (H13.out _ K4.out).mono ?_
  rintro e w5 ⟨rfl, b5⟩
  have K5 := Lib.hid (bk_tr K4.out b5)
  clear b5
  go_wp2_with fail
  refine (P13.out _ K5.out).mono ?_
  rintro e w6 ⟨rfl, b6⟩
  have K6 := Lib.hid (bk_tr K5.out b6)
  clear b6
  go_wp2_with fail
  refine (H15.out _ K6.out).mono ?_
  rintro e w7 ⟨rfl, b7⟩
  have K7 := Lib.hid (bk_tr K6.out b7)
  clear b7
  go_wp2_with fail
  go_ret
  exact ⟨rfl, K7.out⟩
end Go.Proofs.YtkdpbmbkpepelaaDoor
