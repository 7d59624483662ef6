/- The law: Unique. -/
import Derived.Test.YtkdpbmbkpepelaaDoorW
namespace Go.Proofs.YtkdpbmbkpepelaaDoor
open Go.RowKit
set_option linter.unusedVariables false
set_option linter.unusedSimpArgs false
theorem str_ne {S s : ByteArray} (h : S ≠ s) : (S.toList == s.toList) = false := by
  rw [beq_eq_false_iff_ne, ByteArray.toList_eq, ByteArray.toList_eq]
  exact fun e => h (bl_inj e)
/-- the first part's behaviour: the number is written as the text, in one of two ways, or there is none -/
theorem uniq_cases (s : ByteArray) : (∃ a b, resU (parseS (bl s)) = .tuple #[.int .u64 a, .int .i64 b] ∧ b ≠ 0) ∨
    (∃ u : Nat, resU (parseS (bl s)) = .tuple #[.int .u64 (u : Int), .int .i64 0] ∧ u < 18446744073709551616 ∧ (⟨(wrn 10 u).toArray⟩ : ByteArray) = s) ∨
    (∃ u : Nat, resU (parseS (bl s)) = .tuple #[.int .u64 (u : Int), .int .i64 0] ∧ u < 18446744073709551616 ∧ (⟨(wrn 10 u).toArray⟩ : ByteArray) ≠ s ∧ (⟨(48 :: 120 :: wrn 16 u).toArray⟩ : ByteArray) = s) := by
  cases h : parseS (bl s) with
  | ok u =>
    have hu : u < 18446744073709551616 := by
      unfold parseS at h
      split at h
      · exact (numE_ok h).2.2
      · exact (numE_ok h).2.2
    right
    by_cases h1 : (⟨(wrn 10 u).toArray⟩ : ByteArray) = s
    · exact .inl ⟨u, rfl, hu, h1⟩
    · right
      refine ⟨u, rfl, hu, h1, ?_⟩
      rcases parse_uniq h with h2 | h2
      · exact absurd (bl_inj h2) h1
      · exact bl_inj h2
  | «syntax» => exact .inl ⟨0, 6, rfl, by decide⟩
  | range => exact .inl ⟨0, 2, rfl, by decide⟩
theorem uniqI_cases (s : ByteArray) : (∃ a b, resI (parseI (bl s)) = .tuple #[.int .i64 a, .int .i64 b] ∧ b ≠ 0) ∨ (∃ n, resI (parseI (bl s)) = .tuple #[.int .i64 n, .int .i64 0] ∧ In64 n ∧ (⟨(Lib.itoa n).toArray⟩ : ByteArray) = s) := by
  cases h : parseI (bl s) with
  | ok n => exact .inr ⟨n, rfl, parseI_in h, bl_inj (parseI_uniq h)⟩
  | «syntax» => exact .inl ⟨0, 6, rfl, by decide⟩
  | range => exact .inl ⟨0, 2, rfl, by decide⟩
/-- the third part -/
def P3 (s : ByteArray) (w : World) : Prop := (∃ c, c ≠ 0 ∧ ∀ wc, BK w wc → Calls Tryd.prog 20 #[.string s] wc fun e w' => ∃ p cp n, e = .returned (.tuple #[.slice p n cp, .int .i64 c]) ∧ BK wc w') ∨
  (∀ wc, BK w wc → Calls Tryd.prog 20 #[.string s] wc fun e w' => ∃ p cp n, e = .returned (.tuple #[.slice p n cp, .int .i64 0]) ∧ BK wc w' ∧ ∀ wd, BK w' wd → Calls Tryd.prog 22 #[.slice p n cp] wd fun e w'' => e = .returned (.string s) ∧ BK wd w'')
theorem p3_any (s : ByteArray) (hs : s.size ≤ 2000) (w : World) (ht : Tb w) : P3 s w := by
  cases h : parseL (bl s) with
  | ok zs =>
    right
    intro wc hb
    have H := plist20 s (by omega) wc (ht.keep hb)
    have hl := lz_le (l := bl s)
    rw [h] at H hl
    obtain ⟨h1, h2⟩ := parseL_uniq h
    refine H.mono ?_
    rintro e w' ⟨p, c, rfl, hr, hb2⟩
    refine ⟨p, c, zs.length, rfl, hb2, fun wd hd => ?_⟩
    have hl : zs.length ≤ s.size + 1 := by rw [bl_len] at hl; exact hl
    have H2 := list22 p c zs wd (ht.keep (bk_tr (bk_tr hb hb2) hd)) (hr.keep hd) (by omega) h2
    rw [h1] at H2
    exact H2
  | «syntax» =>
    left
    refine ⟨6, by decide, fun wc hb => ?_⟩
    have H := plist20 s (by omega) wc (ht.keep hb)
    rw [h] at H
    refine H.mono ?_
    rintro e w' ⟨p, c, rfl, hr, hb2⟩
    exact ⟨p, c, _, rfl, hb2⟩
  | range =>
    left
    refine ⟨2, by decide, fun wc hb => ?_⟩
    have H := plist20 s (by omega) wc (ht.keep hb)
    rw [h] at H
    refine H.mono ?_
    rintro e w' ⟨p, c, rfl, hr, hb2⟩
    exact ⟨p, c, _, rfl, hb2⟩
set_option maxRecDepth 100000 in
set_option maxHeartbeats 8000000 in
theorem unique_law (s : ByteArray) (w : World) (ht : Tb w) : Calls Tryd.prog 8 #[.string s] w (LW w) := by
  have H15 := Lib.hid (fun (wc : World) (hb : BK w wc) => live15 wc (ht.keep hb))
  by_cases hs : s.size ≤ 2000
  · have is : (s.size : Int) ≤ 2000 := by omega
    have H16 := Lib.hid (fun (wc : World) (hb : BK w wc) => parse16 s (by omega) wc (ht.keep hb))
    have H18 := Lib.hid (fun (wc : World) (hb : BK w wc) => pint18 s (by omega) wc (ht.keep hb))
    have hp3 := p3_any s hs w ht
    have HT := Lib.hid ht
    clear ht hs
    -- behind the first part, in a world of its own
    rcases uniq_cases s with ⟨a, b, hr, hb⟩ | ⟨u, hr, hu, he⟩ | ⟨u, hr, hu, hne, he⟩
    · rw [hr] at H16
      have hb' : (b == 0) = false := by rw [beq_eq_false_iff_ne]; exact hb
      clear hr hb
      rcases uniqI_cases s with ⟨ai, bi, hri, hbi⟩ | ⟨n, hri, hin, hei⟩
      · rw [hri] at H18
        have hbi' : (bi == 0) = false := by rw [beq_eq_false_iff_ne]; exact hbi
        clear hri hbi
        rcases hp3 with ⟨c, hc, H20⟩ | H20
        · have H20 := Lib.hid H20
          have hc' : (c != 0) = true := by rw [bne_iff_ne]; exact hc
          clear hc
          go_enter Tryd.func8, Tryd.ntmps8
          go_wp2_with fail
          refine (H16.out _ (BK.refl _)).mono ?_
          rintro e w1 ⟨rfl, b1⟩
          have K1 := Lib.hid b1
          clear b1
          go_wp2_with fail
          refine (H18.out _ K1.out).mono ?_
          rintro e w6 ⟨rfl, b6⟩
          have K6 := Lib.hid (bk_tr K1.out b6)
          clear b6
          go_wp2_with fail
          refine (H20.out _ K6.out).mono ?_
          rintro e w8 ⟨p8, c8, n8, rfl, b8⟩
          have K8 := Lib.hid (bk_tr K6.out b8)
          clear b8
          go_wp2_with fail
          refine (H15.out _ K8.out).mono ?_
          rintro e w9 ⟨rfl, b9⟩
          have K9 := Lib.hid (bk_tr K8.out b9)
          clear b9
          go_wp2_with fail
          go_ret
          exact ⟨rfl, K9.out⟩
        · have H20 := Lib.hid H20
          go_enter Tryd.func8, Tryd.ntmps8
          go_wp2_with fail
          refine (H16.out _ (BK.refl _)).mono ?_
          rintro e w1 ⟨rfl, b1⟩
          have K1 := Lib.hid b1
          clear b1
          go_wp2_with fail
          refine (H18.out _ K1.out).mono ?_
          rintro e w6 ⟨rfl, b6⟩
          have K6 := Lib.hid (bk_tr K1.out b6)
          clear b6
          go_wp2_with fail
          refine (H20.out _ K6.out).mono ?_
          rintro e w8 ⟨p8, c8, n8, rfl, b8, h22⟩
          have K8 := Lib.hid (bk_tr K6.out b8)
          have H22 := Lib.hid h22
          clear b8 h22
          go_wp2_with fail
          refine (H22.out _ (BK.refl _)).mono ?_
          rintro e w9 ⟨rfl, b9⟩
          have K9 := Lib.hid (bk_tr K8.out b9)
          clear b9
          go_wp2_with fail
          refine (H15.out _ K9.out).mono ?_
          rintro e w10 ⟨rfl, b10⟩
          have K10 := Lib.hid (bk_tr K9.out b10)
          clear b10
          go_wp2_with fail
          go_ret
          exact ⟨rfl, K10.out⟩
      · rw [hri] at H18
        have H13 := Lib.hid (fun (wc : World) (hb : BK w wc) => by have h := int13 n hin wc (HT.out.keep hb); rw [hei] at h; exact h)
        clear hri hin hei
        rcases hp3 with ⟨c, hc, H20⟩ | H20
        · have H20 := Lib.hid H20
          have hc' : (c != 0) = true := by rw [bne_iff_ne]; exact hc
          clear hc
          go_enter Tryd.func8, Tryd.ntmps8
          go_wp2_with fail
          refine (H16.out _ (BK.refl _)).mono ?_
          rintro e w1 ⟨rfl, b1⟩
          have K1 := Lib.hid b1
          clear b1
          go_wp2_with fail
          refine (H18.out _ K1.out).mono ?_
          rintro e w6 ⟨rfl, b6⟩
          have K6 := Lib.hid (bk_tr K1.out b6)
          clear b6
          go_wp2_with fail
          refine (H13.out _ K6.out).mono ?_
          rintro e w7 ⟨rfl, b7⟩
          have K7 := Lib.hid (bk_tr K6.out b7)
          clear b7
          go_wp2_with fail
          refine (H20.out _ K7.out).mono ?_
          rintro e w8 ⟨p8, c8, n8, rfl, b8⟩
          have K8 := Lib.hid (bk_tr K7.out b8)
          clear b8
          go_wp2_with fail
          refine (H15.out _ K8.out).mono ?_
          rintro e w9 ⟨rfl, b9⟩
          have K9 := Lib.hid (bk_tr K8.out b9)
          clear b9
          go_wp2_with fail
          go_ret
          exact ⟨rfl, K9.out⟩
        · have H20 := Lib.hid H20
          go_enter Tryd.func8, Tryd.ntmps8
          go_wp2_with fail
          refine (H16.out _ (BK.refl _)).mono ?_
          rintro e w1 ⟨rfl, b1⟩
          have K1 := Lib.hid b1
          clear b1
          go_wp2_with fail
          refine (H18.out _ K1.out).mono ?_
          rintro e w6 ⟨rfl, b6⟩
          have K6 := Lib.hid (bk_tr K1.out b6)
          clear b6
          go_wp2_with fail
          refine (H13.out _ K6.out).mono ?_
          rintro e w7 ⟨rfl, b7⟩
          have K7 := Lib.hid (bk_tr K6.out b7)
          clear b7
          go_wp2_with fail
          refine (H20.out _ K7.out).mono ?_
          rintro e w8 ⟨p8, c8, n8, rfl, b8, h22⟩
          have K8 := Lib.hid (bk_tr K7.out b8)
          have H22 := Lib.hid h22
          clear b8 h22
          go_wp2_with fail
          refine (H22.out _ (BK.refl _)).mono ?_
          rintro e w9 ⟨rfl, b9⟩
          have K9 := Lib.hid (bk_tr K8.out b9)
          clear b9
          go_wp2_with fail
          refine (H15.out _ K9.out).mono ?_
          rintro e w10 ⟨rfl, b10⟩
          have K10 := Lib.hid (bk_tr K9.out b10)
          clear b10
          go_wp2_with fail
          go_ret
          exact ⟨rfl, K10.out⟩
    · rw [hr] at H16
      have H9 := Lib.hid (fun (wc : World) (hb : BK w wc) => by have h := dec9 u hu wc (HT.out.keep hb); rw [he] at h; exact h)
      clear hr he hu
      generalize (u : Int) = ui at H16 H9
      rcases uniqI_cases s with ⟨ai, bi, hri, hbi⟩ | ⟨n, hri, hin, hei⟩
      · rw [hri] at H18
        have hbi' : (bi == 0) = false := by rw [beq_eq_false_iff_ne]; exact hbi
        clear hri hbi
        rcases hp3 with ⟨c, hc, H20⟩ | H20
        · have H20 := Lib.hid H20
          have hc' : (c != 0) = true := by rw [bne_iff_ne]; exact hc
          clear hc
          go_enter Tryd.func8, Tryd.ntmps8
          go_wp2_with fail
          refine (H16.out _ (BK.refl _)).mono ?_
          rintro e w1 ⟨rfl, b1⟩
          have K1 := Lib.hid b1
          clear b1
          go_wp2_with fail
          refine (H9.out _ K1.out).mono ?_
          rintro e w2 ⟨rfl, b2⟩
          have K2 := Lib.hid (bk_tr K1.out b2)
          clear b2
          go_wp2_with fail
          refine (H18.out _ K2.out).mono ?_
          rintro e w6 ⟨rfl, b6⟩
          have K6 := Lib.hid (bk_tr K2.out b6)
          clear b6
          go_wp2_with fail
          refine (H20.out _ K6.out).mono ?_
          rintro e w8 ⟨p8, c8, n8, rfl, b8⟩
          have K8 := Lib.hid (bk_tr K6.out b8)
          clear b8
          go_wp2_with fail
          refine (H15.out _ K8.out).mono ?_
          rintro e w9 ⟨rfl, b9⟩
          have K9 := Lib.hid (bk_tr K8.out b9)
          clear b9
          go_wp2_with fail
          go_ret
          exact ⟨rfl, K9.out⟩
        · have H20 := Lib.hid H20
          go_enter Tryd.func8, Tryd.ntmps8
          go_wp2_with fail
          refine (H16.out _ (BK.refl _)).mono ?_
          rintro e w1 ⟨rfl, b1⟩
          have K1 := Lib.hid b1
          clear b1
          go_wp2_with fail
          refine (H9.out _ K1.out).mono ?_
          rintro e w2 ⟨rfl, b2⟩
          have K2 := Lib.hid (bk_tr K1.out b2)
          clear b2
          go_wp2_with fail
          refine (H18.out _ K2.out).mono ?_
          rintro e w6 ⟨rfl, b6⟩
          have K6 := Lib.hid (bk_tr K2.out b6)
          clear b6
          go_wp2_with fail
          refine (H20.out _ K6.out).mono ?_
          rintro e w8 ⟨p8, c8, n8, rfl, b8, h22⟩
          have K8 := Lib.hid (bk_tr K6.out b8)
          have H22 := Lib.hid h22
          clear b8 h22
          go_wp2_with fail
          refine (H22.out _ (BK.refl _)).mono ?_
          rintro e w9 ⟨rfl, b9⟩
          have K9 := Lib.hid (bk_tr K8.out b9)
          clear b9
          go_wp2_with fail
          refine (H15.out _ K9.out).mono ?_
          rintro e w10 ⟨rfl, b10⟩
          have K10 := Lib.hid (bk_tr K9.out b10)
          clear b10
          go_wp2_with fail
          go_ret
          exact ⟨rfl, K10.out⟩
      · rw [hri] at H18
        have H13 := Lib.hid (fun (wc : World) (hb : BK w wc) => by have h := int13 n hin wc (HT.out.keep hb); rw [hei] at h; exact h)
        clear hri hin hei
        rcases hp3 with ⟨c, hc, H20⟩ | H20
        · have H20 := Lib.hid H20
          have hc' : (c != 0) = true := by rw [bne_iff_ne]; exact hc
          clear hc
          go_enter Tryd.func8, Tryd.ntmps8
          go_wp2_with fail
          refine (H16.out _ (BK.refl _)).mono ?_
          rintro e w1 ⟨rfl, b1⟩
          have K1 := Lib.hid b1
          clear b1
          go_wp2_with fail
          refine (H9.out _ K1.out).mono ?_
          rintro e w2 ⟨rfl, b2⟩
          have K2 := Lib.hid (bk_tr K1.out b2)
          clear b2
          go_wp2_with fail
          refine (H18.out _ K2.out).mono ?_
          rintro e w6 ⟨rfl, b6⟩
          have K6 := Lib.hid (bk_tr K2.out b6)
          clear b6
          go_wp2_with fail
          refine (H13.out _ K6.out).mono ?_
          rintro e w7 ⟨rfl, b7⟩
          have K7 := Lib.hid (bk_tr K6.out b7)
          clear b7
          go_wp2_with fail
          refine (H20.out _ K7.out).mono ?_
          rintro e w8 ⟨p8, c8, n8, rfl, b8⟩
          have K8 := Lib.hid (bk_tr K7.out b8)
          clear b8
          go_wp2_with fail
          refine (H15.out _ K8.out).mono ?_
          rintro e w9 ⟨rfl, b9⟩
          have K9 := Lib.hid (bk_tr K8.out b9)
          clear b9
          go_wp2_with fail
          go_ret
          exact ⟨rfl, K9.out⟩
        · have H20 := Lib.hid H20
          go_enter Tryd.func8, Tryd.ntmps8
          go_wp2_with fail
          refine (H16.out _ (BK.refl _)).mono ?_
          rintro e w1 ⟨rfl, b1⟩
          have K1 := Lib.hid b1
          clear b1
          go_wp2_with fail
          refine (H9.out _ K1.out).mono ?_
          rintro e w2 ⟨rfl, b2⟩
          have K2 := Lib.hid (bk_tr K1.out b2)
          clear b2
          go_wp2_with fail
          refine (H18.out _ K2.out).mono ?_
          rintro e w6 ⟨rfl, b6⟩
          have K6 := Lib.hid (bk_tr K2.out b6)
          clear b6
          go_wp2_with fail
          refine (H13.out _ K6.out).mono ?_
          rintro e w7 ⟨rfl, b7⟩
          have K7 := Lib.hid (bk_tr K6.out b7)
          clear b7
          go_wp2_with fail
          refine (H20.out _ K7.out).mono ?_
          rintro e w8 ⟨p8, c8, n8, rfl, b8, h22⟩
          have K8 := Lib.hid (bk_tr K7.out b8)
          have H22 := Lib.hid h22
          clear b8 h22
          go_wp2_with fail
          refine (H22.out _ (BK.refl _)).mono ?_
          rintro e w9 ⟨rfl, b9⟩
          have K9 := Lib.hid (bk_tr K8.out b9)
          clear b9
          go_wp2_with fail
          refine (H15.out _ K9.out).mono ?_
          rintro e w10 ⟨rfl, b10⟩
          have K10 := Lib.hid (bk_tr K9.out b10)
          clear b10
          go_wp2_with fail
          go_ret
          exact ⟨rfl, K10.out⟩
    · rw [hr] at H16
      have H9 := Lib.hid (fun (wc : World) (hb : BK w wc) => dec9 u hu wc (HT.out.keep hb))
      have H11 := Lib.hid (fun (wc : World) (hb : BK w wc) => by have h := hex11 u hu wc (HT.out.keep hb); rw [he] at h; exact h)
      generalize (⟨(wrn 10 u).toArray⟩ : ByteArray) = S at hne H9
      have hn1 := str_ne hne
      clear hr he hu
      generalize (u : Int) = ui at H16 H9 H11
      rcases uniqI_cases s with ⟨ai, bi, hri, hbi⟩ | ⟨n, hri, hin, hei⟩
      · rw [hri] at H18
        have hbi' : (bi == 0) = false := by rw [beq_eq_false_iff_ne]; exact hbi
        clear hri hbi
        rcases hp3 with ⟨c, hc, H20⟩ | H20
        · have H20 := Lib.hid H20
          have hc' : (c != 0) = true := by rw [bne_iff_ne]; exact hc
          clear hc
          go_enter Tryd.func8, Tryd.ntmps8
          go_wp2_with fail
          refine (H16.out _ (BK.refl _)).mono ?_
          rintro e w1 ⟨rfl, b1⟩
          have K1 := Lib.hid b1
          clear b1
          go_wp2_with fail
          refine (H9.out _ K1.out).mono ?_
          rintro e w2 ⟨rfl, b2⟩
          have K2 := Lib.hid (bk_tr K1.out b2)
          clear b2
          go_wp2_with fail
          refine (H11.out _ K2.out).mono ?_
          rintro e w3 ⟨rfl, b3⟩
          have K3 := Lib.hid (bk_tr K2.out b3)
          clear b3
          go_wp2_with fail
          refine (H18.out _ K3.out).mono ?_
          rintro e w6 ⟨rfl, b6⟩
          have K6 := Lib.hid (bk_tr K3.out b6)
          clear b6
          go_wp2_with fail
          refine (H20.out _ K6.out).mono ?_
          rintro e w8 ⟨p8, c8, n8, rfl, b8⟩
          have K8 := Lib.hid (bk_tr K6.out b8)
          clear b8
          go_wp2_with fail
          refine (H15.out _ K8.out).mono ?_
          rintro e w9 ⟨rfl, b9⟩
          have K9 := Lib.hid (bk_tr K8.out b9)
          clear b9
          go_wp2_with fail
          go_ret
          exact ⟨rfl, K9.out⟩
        · have H20 := Lib.hid H20
          go_enter Tryd.func8, Tryd.ntmps8
          go_wp2_with fail
          refine (H16.out _ (BK.refl _)).mono ?_
          rintro e w1 ⟨rfl, b1⟩
          have K1 := Lib.hid b1
          clear b1
          go_wp2_with fail
          refine (H9.out _ K1.out).mono ?_
          rintro e w2 ⟨rfl, b2⟩
          have K2 := Lib.hid (bk_tr K1.out b2)
          clear b2
          go_wp2_with fail
          refine (H11.out _ K2.out).mono ?_
          rintro e w3 ⟨rfl, b3⟩
          have K3 := Lib.hid (bk_tr K2.out b3)
          clear b3
          go_wp2_with fail
          refine (H18.out _ K3.out).mono ?_
          rintro e w6 ⟨rfl, b6⟩
          have K6 := Lib.hid (bk_tr K3.out b6)
          clear b6
          go_wp2_with fail
          refine (H20.out _ K6.out).mono ?_
          rintro e w8 ⟨p8, c8, n8, rfl, b8, h22⟩
          have K8 := Lib.hid (bk_tr K6.out b8)
          have H22 := Lib.hid h22
          clear b8 h22
          go_wp2_with fail
          refine (H22.out _ (BK.refl _)).mono ?_
          rintro e w9 ⟨rfl, b9⟩
          have K9 := Lib.hid (bk_tr K8.out b9)
          clear b9
          go_wp2_with fail
          refine (H15.out _ K9.out).mono ?_
          rintro e w10 ⟨rfl, b10⟩
          have K10 := Lib.hid (bk_tr K9.out b10)
          clear b10
          go_wp2_with fail
          go_ret
          exact ⟨rfl, K10.out⟩
      · rw [hri] at H18
        have H13 := Lib.hid (fun (wc : World) (hb : BK w wc) => by have h := int13 n hin wc (HT.out.keep hb); rw [hei] at h; exact h)
        clear hri hin hei
        rcases hp3 with ⟨c, hc, H20⟩ | H20
        · have H20 := Lib.hid H20
          have hc' : (c != 0) = true := by rw [bne_iff_ne]; exact hc
          clear hc
          go_enter Tryd.func8, Tryd.ntmps8
          go_wp2_with fail
          refine (H16.out _ (BK.refl _)).mono ?_
          rintro e w1 ⟨rfl, b1⟩
          have K1 := Lib.hid b1
          clear b1
          go_wp2_with fail
          refine (H9.out _ K1.out).mono ?_
          rintro e w2 ⟨rfl, b2⟩
          have K2 := Lib.hid (bk_tr K1.out b2)
          clear b2
          go_wp2_with fail
          refine (H11.out _ K2.out).mono ?_
          rintro e w3 ⟨rfl, b3⟩
          have K3 := Lib.hid (bk_tr K2.out b3)
          clear b3
          go_wp2_with fail
          refine (H18.out _ K3.out).mono ?_
          rintro e w6 ⟨rfl, b6⟩
          have K6 := Lib.hid (bk_tr K3.out b6)
          clear b6
          go_wp2_with fail
          refine (H13.out _ K6.out).mono ?_
          rintro e w7 ⟨rfl, b7⟩
          have K7 := Lib.hid (bk_tr K6.out b7)
          clear b7
          go_wp2_with fail
          refine (H20.out _ K7.out).mono ?_
          rintro e w8 ⟨p8, c8, n8, rfl, b8⟩
          have K8 := Lib.hid (bk_tr K7.out b8)
          clear b8
          go_wp2_with fail
          refine (H15.out _ K8.out).mono ?_
          rintro e w9 ⟨rfl, b9⟩
          have K9 := Lib.hid (bk_tr K8.out b9)
          clear b9
          go_wp2_with fail
          go_ret
          exact ⟨rfl, K9.out⟩
        · have H20 := Lib.hid H20
          go_enter Tryd.func8, Tryd.ntmps8
          go_wp2_with fail
          refine (H16.out _ (BK.refl _)).mono ?_
          rintro e w1 ⟨rfl, b1⟩
          have K1 := Lib.hid b1
          clear b1
          go_wp2_with fail
          refine (H9.out _ K1.out).mono ?_
          rintro e w2 ⟨rfl, b2⟩
          have K2 := Lib.hid (bk_tr K1.out b2)
          clear b2
          go_wp2_with fail
          refine (H11.out _ K2.out).mono ?_
          rintro e w3 ⟨rfl, b3⟩
          have K3 := Lib.hid (bk_tr K2.out b3)
          clear b3
          go_wp2_with fail
          refine (H18.out _ K3.out).mono ?_
          rintro e w6 ⟨rfl, b6⟩
          have K6 := Lib.hid (bk_tr K3.out b6)
          clear b6
          go_wp2_with fail
          refine (H13.out _ K6.out).mono ?_
          rintro e w7 ⟨rfl, b7⟩
          have K7 := Lib.hid (bk_tr K6.out b7)
          clear b7
          go_wp2_with fail
          refine (H20.out _ K7.out).mono ?_
          rintro e w8 ⟨p8, c8, n8, rfl, b8, h22⟩
          have K8 := Lib.hid (bk_tr K7.out b8)
          have H22 := Lib.hid h22
          clear b8 h22
          go_wp2_with fail
          refine (H22.out _ (BK.refl _)).mono ?_
          rintro e w9 ⟨rfl, b9⟩
          have K9 := Lib.hid (bk_tr K8.out b9)
          clear b9
          go_wp2_with fail
          refine (H15.out _ K9.out).mono ?_
          rintro e w10 ⟨rfl, b10⟩
          have K10 := Lib.hid (bk_tr K9.out b10)
          clear b10
          go_wp2_with fail
          go_ret
          exact ⟨rfl, K10.out⟩
  · have is : (2000 : Int) < (s.size : Int) := by omega
    clear ht hs
    go_enter Tryd.func8, Tryd.ntmps8
    go_wp2_with fail
    refine (H15.out _ (BK.refl _)).mono ?_
    rintro e w5 ⟨rfl, b5⟩
    have K5 := Lib.hid b5
    clear b5
    go_wp2_with fail
    go_ret
    exact ⟨rfl, K5.out⟩
end Go.Proofs.YtkdpbmbkpepelaaDoor
