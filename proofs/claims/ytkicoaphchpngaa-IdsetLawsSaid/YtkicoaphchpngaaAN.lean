/- Pairs of lists: the walk. -/
import Derived.Test.YtkicoaphchpngaaAM
import Derived.Deep.DeepMust
namespace Go.Proofs.Ytkicoaphchpngaa
open Go.RowKit Go.Lib Go.Sort
set_option linter.unusedVariables false
set_option linter.unusedSimpArgs false
set_option maxHeartbeats 1000000 in
theorem short_yes (a b : Option Addr) (n c m d : Nat) (w : World) (hn : n ≤ 300) (hm : m ≤ 300) : Calls Try.prog 9 #[.slice a n c, .slice b m d] w fun e w' => e = .returned (.bool true) ∧ w = w' := by
  have h1 : decide ((n : Int) ≤ 300) = true := by simp; omega
  have h2 : decide ((m : Int) ≤ 300) = true := by simp; omega
  have h3 : (n : Int) ≤ 300 := by omega
  have h4 : (m : Int) ≤ 300 := by omega
  go_enter Try.func9, Try.ntmps9
  go_wp2_with fail
  go_ret
  exact ⟨rfl, rfl⟩
set_option maxHeartbeats 1000000 in
theorem short_no (a b : Option Addr) (n c m d : Nat) (w : World) (hn : ¬ (n ≤ 300 ∧ m ≤ 300)) : Calls Try.prog 9 #[.slice a n c, .slice b m d] w fun e w' => e = .returned (.bool false) ∧ w = w' := by
  by_cases h : n ≤ 300
  · have h1 : decide ((n : Int) ≤ 300) = true := by simp; omega
    have h2 : decide ((m : Int) ≤ 300) = false := by simp; omega
    have h3 : (n : Int) ≤ 300 := by omega
    have h4 : ¬ (m : Int) ≤ 300 := by omega
    clear hn h
    go_enter Try.func9, Try.ntmps9
    go_wp2_with fail
    go_ret
    exact ⟨rfl, rfl⟩
  · have h1 : decide ((n : Int) ≤ 300) = false := by simp; omega
    have h3 : ¬ (n : Int) ≤ 300 := by omega
    clear hn h
    go_enter Try.func9, Try.ntmps9
    go_wp2_with fail
    go_ret
    exact ⟨rfl, rfl⟩
set_option maxHeartbeats 1000000 in
theorem pairs_long (a b : Option Addr) (n c m d : Nat) (w : World) (hn : ¬ (n ≤ 300 ∧ m ≤ 300)) : Calls Try.prog 4 #[.slice a n c, .slice b m d] w fun e w' => e = .returned (.bool true) ∧ Below w.heap.size w w' := by
  have hs := Lib.hid (short_no a b n c m d w hn)
  clear hn
  go_enter Try.func4, Try.ntmps4
  go_wp2_with (first | (go_at_call 9; refine hs.out.mono ?_; rintro e w' ⟨rfl, rfl⟩) | (go_at_call 10; refine (lives_any _).mono ?_; rintro e w4 ⟨rfl, hb4⟩))
  go_ret
  exact ⟨rfl, hb4⟩
def IK2 (w : World) (l1 l2 : List Int) (v1 v2 : Value) (wc : World) : Prop := BK w wc ∧ Rd wc v1 l1 ∧ Rd wc v2 l2
section
variable {w : World} {ls l1 l2 : List Int}
theorem of_ik {wc : World} (hb : BK w wc) (e : Ending) (w' : World) (h : OfPost wc ls e w') : ∃ v, e = .returned v ∧ IK w ls v w' := by
  obtain ⟨v, rfl, ho, hb2⟩ := h
  exact ⟨v, rfl, below_up hb hb2, Rd.own ho⟩
theorem of_ik2 {wc : World} {v1 : Value} (hb : IK w l1 v1 wc) (e : Ending) (w' : World) (h : OfPost wc l2 e w') : ∃ v, e = .returned v ∧ IK2 w l1 l2 v1 v w' := by
  obtain ⟨v, rfl, ho, hb2⟩ := h
  exact ⟨v, rfl, below_up hb.1 hb2, hb.2.below hb2, Rd.own ho⟩
theorem same_ik2 (hl : l1.length ≤ 100000) (v1 v2 : Value) (wc : World) (h : IK2 w l1 l2 v1 v2 wc) : Calls Try.prog 11 #[v1, v2] wc fun e w' => e = .returned (.bool (sameB l1 l2)) ∧ BK w w' := by
  refine (same_any v1 v2 l1 l2 wc h.2.1 h.2.2 hl).mono ?_
  rintro e w' ⟨rfl, hd⟩
  exact ⟨rfl, below_up h.1 (drawn_below hd)⟩
theorem of_bk {wc : World} {r : Bool} (hb : BK w wc) (e : Ending) (w' : World) (h : BPost wc r e w') : e = .returned (.bool r) ∧ BK w w' := ⟨h.1, below_up hb h.2⟩
end
set_option maxRecDepth 100000 in
set_option maxHeartbeats 1500000 in
theorem pairs_short (a b : Option Addr) (c d : Nat) (zs us : List Int) (w : World) (hn : zs.length ≤ 300) (hm : us.length ≤ 300) (h : Rd w (.slice a zs.length c) zs) (h' : Rd w (.slice b us.length d) us) (p : Pr (.slice a zs.length c)) (p' : Pr (.slice b us.length d)) :
    Calls Try.prog 4 #[.slice a zs.length c, .slice b us.length d] w fun e w' => e = .returned (.bool true) ∧ Below w.heap.size w w' := by
  have hs := Lib.hid (short_yes a b zs.length c us.length d w hn hm)
  have hz := ofL_len zs
  have hu := ofL_len us
  have hzu : (ofL (zs ++ us)).length ≤ 600 := by have := ofL_len (zs ++ us); simp at this; omega
  have hpt := pick_len us (ofL zs) true
  have hpf := pick_len us (ofL zs) false
  generalize (.slice a zs.length c : Value) = sa at hs h p ⊢
  generalize (.slice b us.length d : Value) = sb at hs h' p' ⊢
  have R : ∀ wc, BK w wc → Rd wc sa zs := fun wc hb => h.below hb
  have R' : ∀ wc, BK w wc → Rd wc sb us := fun wc hb => h'.below hb
  have P24 := Lib.hid (fun wc (hb : BK w wc) => (union_list zs us ▸ union_any sa sb zs us wc (R wc hb) (R' wc hb) (by omega) : Calls Try.prog 24 #[sa, sb] wc (OfPost wc (ofL (zs ++ us)))).mono (of_ik hb))
  have P25 := Lib.hid (fun wc v1 (hb : IK w (ofL (zs ++ us)) v1 wc) => (runion_any sa sb zs us wc (R wc hb.1) p (R' wc hb.1) p' (by omega) (by omega)).mono (of_ik2 hb))
  have P26 := Lib.hid (fun wc (hb : BK w wc) => (meet_list zs us ▸ meet_any sa sb zs us wc (R wc hb) (R' wc hb) (by omega) : Calls Try.prog 26 #[sa, sb] wc (OfPost wc (pickL us (ofL zs) true))).mono (of_ik hb))
  have P27 := Lib.hid (fun wc v1 (hb : IK w (pickL us (ofL zs) true) v1 wc) => (rmeet_any sa sb zs us wc (R wc hb.1) (R' wc hb.1) (by omega) (by omega)).mono (of_ik2 hb))
  have P28 := Lib.hid (fun wc (hb : BK w wc) => (minus_list zs us ▸ minus_any sa sb zs us wc (R wc hb) (R' wc hb) (by omega) : Calls Try.prog 28 #[sa, sb] wc (OfPost wc (pickL us (ofL zs) false))).mono (of_ik hb))
  have P29 := Lib.hid (fun wc v1 (hb : IK w (pickL us (ofL zs) false) v1 wc) => (rminus_any sa sb zs us wc (R wc hb.1) (R' wc hb.1) (by omega) (by omega)).mono (of_ik2 hb))
  have P30 := Lib.hid (fun wc (hb : BK w wc) => (subset_list zs us ▸ subset_any sa sb zs us wc (R wc hb) (R' wc hb) (by omega) : Calls Try.prog 30 #[sa, sb] wc (BPost wc (emB (pickL us (ofL zs) false)))).mono (of_bk hb))
  have P31 := Lib.hid (fun wc (hb : BK w wc) => (rsubset_any sa sb zs us wc (R wc hb) (R' wc hb) (by omega) (by omega)).mono (of_bk hb))
  have P32 := Lib.hid (fun wc (hb : BK w wc) => (equal_list zs us ▸ equal_any sa sb zs us wc (R wc hb) (R' wc hb) (by omega) : Calls Try.prog 32 #[sa, sb] wc (BPost wc (sameB (ofL zs) (ofL us)))).mono (of_bk hb))
  have P13 := Lib.hid (fun wc (hb : BK w wc) => (rof_any sa zs wc (R wc hb) (by omega)).mono (of_ik hb))
  have P13' := Lib.hid (fun wc v1 (hb : IK w (ofL zs) v1 wc) => (rof_any sb us wc (R' wc hb.1) (by omega)).mono (of_ik2 hb))
  have S1 := Lib.hid (same_ik2 (w := w) (l1 := ofL (zs ++ us)) (l2 := ofL (zs ++ us)) (by omega))
  have S2 := Lib.hid (same_ik2 (w := w) (l1 := pickL us (ofL zs) true) (l2 := pickL us (ofL zs) true) (by omega))
  have S3 := Lib.hid (same_ik2 (w := w) (l1 := pickL us (ofL zs) false) (l2 := pickL us (ofL zs) false) (by omega))
  have S4 := Lib.hid (same_ik2 (w := w) (l1 := ofL zs) (l2 := ofL us) (by omega))
  rw [sameB_self] at S1 S2 S3
  clear R R' h h' p p' hn hm hz hu hzu hpt hpf
  generalize sameB (ofL zs) (ofL us) = r1 at P32 S4
  generalize emB (pickL us (ofL zs) false) = r2 at P30 P31
  generalize ofL (zs ++ us) = LU at P24 P25 S1
  generalize pickL us (ofL zs) true = LM at P26 P27 S2
  generalize pickL us (ofL zs) false = LN at P28 P29 S3
  generalize ofL zs = LA at P13 P13' S4
  generalize ofL us = LB at P13' S4
  have K0 : BK w w := BK.refl _
  have q1 : (r1 == r1) = true := by simp
  have q2 : (r2 == r2) = true := by simp
  go_enter Try.func4, Try.ntmps4
  go_wp2_with (first
    | (go_at_call 10; refine (p10 w22 b22).mono ?_; rintro e w23 ⟨rfl, b23⟩)
    | (go_at_call 11; refine (S4.out v20 v21 w21 i21).mono ?_; rintro e w22 ⟨rfl, b22⟩)
    | (go_at_call 13; refine (P13'.out w20 v20 i20).mono ?_; rintro e w21 ⟨v21, rfl, i21⟩)
    | (go_at_call 13; refine (P13.out w19 b19).mono ?_; rintro e w20 ⟨v20, rfl, i20⟩)
    | (go_at_call 32; refine (P32.out w18 b18).mono ?_; rintro e w19 ⟨rfl, b19⟩)
    | (go_at_call 31; refine (P31.out w17 b17).mono ?_; rintro e w18 ⟨rfl, b18⟩)
    | (go_at_call 30; refine (P30.out w16 b16).mono ?_; rintro e w17 ⟨rfl, b17⟩)
    | (go_at_call 11; refine (S3.out v14 v15 w15 i15).mono ?_; rintro e w16 ⟨rfl, b16⟩)
    | (go_at_call 29; refine (P29.out w14 v14 i14).mono ?_; rintro e w15 ⟨v15, rfl, i15⟩)
    | (go_at_call 28; refine (P28.out w13 b13).mono ?_; rintro e w14 ⟨v14, rfl, i14⟩)
    | (go_at_call 11; refine (S2.out v11 v12 w12 i12).mono ?_; rintro e w13 ⟨rfl, b13⟩)
    | (go_at_call 27; refine (P27.out w11 v11 i11).mono ?_; rintro e w12 ⟨v12, rfl, i12⟩)
    | (go_at_call 26; refine (P26.out w10 b10).mono ?_; rintro e w11 ⟨v11, rfl, i11⟩)
    | (go_at_call 11; refine (S1.out v8 v9 w9 i9).mono ?_; rintro e w10 ⟨rfl, b10⟩)
    | (go_at_call 25; refine (P25.out w8 v8 i8).mono ?_; rintro e w9 ⟨v9, rfl, i9⟩)
    | (go_at_call 24; refine (P24.out w K0).mono ?_; rintro e w8 ⟨v8, rfl, i8⟩)
    | (go_at_call 9; go_must (refine hs.out.mono ?_); rintro e w' ⟨rfl, rfl⟩))
  go_ret
  exact ⟨rfl, b23⟩
end Go.Proofs.Ytkicoaphchpngaa
