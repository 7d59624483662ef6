/- The laws: Lists, ListBack, Unique. -/
import Derived.Test.YtkdpbmbkpepelaaDoorV
namespace Go.Proofs.YtkdpbmbkpepelaaDoor
open Go.RowKit
set_option linter.unusedVariables false
set_option linter.unusedSimpArgs false
theorem lz_le {l : List UInt8} : (lz (parseL l)).length ≤ l.length + 1 := by
  cases h : parseL l with
  | ok zs =>
    show zs.length ≤ _
    unfold parseL at h
    split at h
    · cases h; simp
    · obtain ⟨ys, h1, h2, _⟩ := plA_uniq _ _ _ h
      have h3 := sp_len l
      rw [h2, List.length_map] at h3
      rw [h1, List.nil_append]
      exact h3
  | «syntax» => simp [lz]
  | range => simp [lz]
set_option maxRecDepth 100000 in
set_option maxHeartbeats 4000000 in
theorem lists_law (p : Option Addr) (c : Nat) (zs : List Int) (s : ByteArray) (hz : ∀ z ∈ zs, In64 z) (w : World) (hr : Ra w p zs) (ht : Tb w) : Calls Tryd.prog 5 #[.slice p zs.length c, .string s] w (LW w) := by
  have H15 := Lib.hid (fun (wc : World) (hb : BK w wc) => live15 wc (ht.keep hb))
  by_cases hs : zs.length ≤ 300 ∧ s.size ≤ 4000
  · obtain ⟨hs1, hs2⟩ := hs
    have H20 := Lib.hid (fun (wc : World) (hb : BK w wc) => plist20 s (by omega) wc (ht.keep hb))
    have H21 := Lib.hid (fun (wc : World) (hb : BK w wc) => rplist21 s (by omega) wc)
    have H22 := Lib.hid (fun (wc : World) (hb : BK w wc) => list22 p c zs wc (ht.keep hb) (hr.keep hb) (by omega) hz)
    have H23 := Lib.hid (fun (wc : World) (hb : BK w wc) => rlist23 p c zs wc (hr.keep hb) (by omega) hz)
    have hl := lz_le (l := bl s)
    rw [bl_len] at hl
    generalize parseL (bl s) = N at H20 H21 hl
    have H24 := Lib.hid (fun (p q : Option Addr) (c d : Nat) (wc : World) (hp : Ra wc p (lz N)) (hq : Ra wc q (lz N)) => by
      have h := same24 p q c d (lz N) (lz N) wc hp hq (by omega) (by omega)
      rw [decide_eq_true rfl] at h
      exact h)
    generalize (⟨(lst zs).toArray⟩ : ByteArray) = S at H22 H23
    have is1 : ((zs.length : Nat) : Int) ≤ 300 := by omega
    have is2 : (s.size : Int) ≤ 4000 := by omega
    clear ht hr hz hs1 hs2 hl
    go_enter Tryd.func5, Tryd.ntmps5
    go_wp2_with fail
    refine (H20.out _ (BK.refl _)).mono ?_
    rintro e w1 ⟨p1, c1, rfl, r1, b1⟩
    have R1 := Lib.hid r1
    have K1 := Lib.hid b1
    clear b1 r1
    go_wp2_with fail
    refine (H21.out _ K1.out).mono ?_
    rintro e w2 ⟨p2, c2, rfl, r2, b2⟩
    have R2 := Lib.hid r2
    have J2 := Lib.hid b2
    have K2 := Lib.hid (bk_tr K1.out b2)
    clear b2 r2
    go_wp2_with fail
    refine (H22.out _ K2.out).mono ?_
    rintro e w3 ⟨rfl, b3⟩
    have J3 := Lib.hid b3
    have K3 := Lib.hid (bk_tr K2.out b3)
    clear b3
    go_wp2_with fail
    refine (H23.out _ K3.out).mono ?_
    rintro e w4 ⟨rfl, b4⟩
    have J4 := Lib.hid (bk_tr J3.out b4)
    have K4 := Lib.hid (bk_tr K3.out b4)
    clear b4
    go_wp2_with fail
    refine (H24.out p1 p2 c1 c2 w4 (R1.out.keep (bk_tr J2.out J4.out)) (R2.out.keep J4.out)).mono ?_
    rintro e w5 ⟨rfl, b5⟩
    have K5 := Lib.hid (bk_tr K4.out b5)
    clear b5
    go_wp2_with fail
    refine (H15.out _ K5.out).mono ?_
    rintro e w6 ⟨rfl, b6⟩
    have K6 := Lib.hid (bk_tr K5.out b6)
    clear b6
    go_wp2_with fail
    go_ret
    exact ⟨rfl, K6.out⟩
  · have is : (300 : Int) < ((zs.length : Nat) : Int) ∨ (((zs.length : Nat) : Int) ≤ 300 ∧ (4000 : Int) < (s.size : Int)) := by omega
    clear ht hs hr hz
    generalize zs.length = m at is ⊢
    rcases is with is | ⟨is1, is2⟩
    · go_enter Tryd.func5, Tryd.ntmps5
      go_wp2_with fail
      refine (H15.out _ (BK.refl _)).mono ?_
      rintro e w5 ⟨rfl, b5⟩
      have K5 := Lib.hid b5
      clear b5
      go_wp2_with fail
      go_ret
      exact ⟨rfl, K5.out⟩
    · go_enter Tryd.func5, Tryd.ntmps5
      go_wp2_with fail
      refine (H15.out _ (BK.refl _)).mono ?_
      rintro e w5 ⟨rfl, b5⟩
      have K5 := Lib.hid b5
      clear b5
      go_wp2_with fail
      go_ret
      exact ⟨rfl, K5.out⟩
set_option maxRecDepth 100000 in
set_option maxHeartbeats 4000000 in
theorem listback_law (p : Option Addr) (c : Nat) (zs : List Int) (hz : ∀ z ∈ zs, In64 z) (w : World) (hr : Ra w p zs) (ht : Tb w) : Calls Tryd.prog 7 #[.slice p zs.length c] w (LW w) := by
  have H15 := Lib.hid (fun (wc : World) (hb : BK w wc) => live15 wc (ht.keep hb))
  by_cases hs : zs.length ≤ 1000
  · have hlb := lst_b zs hz
    have H22 := Lib.hid (fun (wc : World) (hb : BK w wc) => list22 p c zs wc (ht.keep hb) (hr.keep hb) (by omega) hz)
    have H20 := Lib.hid (fun (wc : World) (hb : BK w wc) => by
      have h := plist20 ⟨(lst zs).toArray⟩ (by show (lst zs).length ≤ 1000000; omega) wc (ht.keep hb)
      rw [show bl ⟨(lst zs).toArray⟩ = lst zs from rfl, parseL_lst hz] at h
      exact (show Calls Tryd.prog 20 #[.string ⟨(lst zs).toArray⟩] wc (fun e w' => ∃ p c, e = .returned (.tuple #[.slice p zs.length c, .int .i64 0]) ∧ Ra w' p zs ∧ BK wc w') from h))
    have H24 := Lib.hid (fun (p q : Option Addr) (c d : Nat) (wc : World) (hp : Ra wc p zs) (hq : Ra wc q zs) => by
      have h := same24 p q c d zs zs wc hp hq (by omega) (by omega)
      rw [decide_eq_true rfl] at h
      exact h)
    have HR := Lib.hid hr
    generalize (⟨(lst zs).toArray⟩ : ByteArray) = S at H22 H20
    have is1 : ((zs.length : Nat) : Int) ≤ 1000 := by omega
    clear ht hr hz hs hlb
    go_enter Tryd.func7, Tryd.ntmps7
    go_wp2_with fail
    refine (H22.out _ (BK.refl _)).mono ?_
    rintro e w1 ⟨rfl, b1⟩
    have K1 := Lib.hid b1
    clear b1
    go_wp2_with fail
    refine (H20.out _ K1.out).mono ?_
    rintro e w2 ⟨p2, c2, rfl, r2, b2⟩
    have R2 := Lib.hid r2
    have K2 := Lib.hid (bk_tr K1.out b2)
    clear b2 r2
    go_wp2_with fail
    refine (H24.out p2 p c2 c w2 R2.out (HR.out.keep K2.out)).mono ?_
    rintro e w3 ⟨rfl, b3⟩
    have K3 := Lib.hid (bk_tr K2.out b3)
    clear b3
    go_wp2_with fail
    refine (H15.out _ K3.out).mono ?_
    rintro e w6 ⟨rfl, b6⟩
    have K6 := Lib.hid (bk_tr K3.out b6)
    clear b6
    go_wp2_with fail
    go_ret
    exact ⟨rfl, K6.out⟩
  · have is : (1000 : Int) < ((zs.length : Nat) : Int) := by omega
    clear ht hs hr hz
    generalize zs.length = m at is ⊢
    go_enter Tryd.func7, Tryd.ntmps7
    go_wp2_with fail
    refine (H15.out _ (BK.refl _)).mono ?_
    rintro e w5 ⟨rfl, b5⟩
    have K5 := Lib.hid b5
    clear b5
    go_wp2_with fail
    go_ret
    exact ⟨rfl, K5.out⟩
end Go.Proofs.YtkdpbmbkpepelaaDoor
