/- ParseUint, Atoi of numerals; Parse and ParseInt. -/
import Derived.Test.YtneidfbgdgegjaaGreatDoorDG
namespace Go.Proofs.YtneidfbgdgegjaaGreatDoor
open Go.RowKit
set_option linter.unusedVariables false
set_option linter.unusedSimpArgs false
theorem bk_bytes {w w' : World} {s : ByteArray} (h : w' = w ∨ w' = Lib.bytesWorld w 5 s) : BK w w' := by
  rcases h with rfl | rfl
  · exact BK.refl _
  · exact Lib.bytesWorld_below _ _ _
theorem pb10 : pb 10 = isDec := by funext c; unfold pb; rw [if_neg (by omega)]
theorem pb16 : pb 16 = isHex := by funext c; unfold pb; rw [if_pos rfl]
theorem numE_of {b : Nat} {l : List UInt8} (h : numB (pb b) l = true) : numE b l = if vl b 0 l < 18446744073709551616 then .ok (vl b 0 l) else .range := by
  unfold numE; rw [if_pos h]
theorem numE_not {b : Nat} {l : List UInt8} (h : numB (pb b) l = false) : numE b l = .syntax := by
  unfold numE; rw [if_neg (by rw [h]; simp)]
theorem pu16_num {l : List UInt8} (h : numB (pb 16) l = true) : pu16 0 l = numE 16 l := by
  have h' := h
  unfold numB at h
  rw [pb16] at h
  obtain ⟨h1, h2⟩ := Bool.and_eq_true_iff.1 h
  rw [pu16_vl l 0 (by omega) h1, numE_of h']
theorem num_size {b : Nat} {s : ByteArray} (h : numB (pb b) (bl s) = true) : s.size ≠ 0 := by
  intro e
  have := (noLead_cases (Bool.and_eq_true_iff.1 h).2).1
  exact this (List.eq_nil_of_length_eq_zero e)
set_option maxHeartbeats 2000000 in
theorem pu32_16_ok (s : ByteArray) (hs : s.size ≤ 1000000) (h : numB (pb 16) (bl s) = true) (u : Nat) (hu : numE 16 (bl s) = .ok u) (w : World) :
    Calls Tryz.prog 129 #[.string s, .int .i64 16, .int .i64 64] w fun e w' => e = .returned (.tuple #[.int .u64 u, .nilIface]) ∧ BK w w' := by
  have H := pu40 s (num_size h) (by omega) (by rw [← pb16]; exact (Bool.and_eq_true_iff.1 h).1) w
  rw [show s.data.toList = bl s from rfl, pu16_num h, hu] at H
  have H : Calls Tryz.prog 143 #[.string s, .int .i64 16, .int .i64 64] w fun e w' => e = .returned (.tuple #[.int .u64 u, .nilIface]) ∧ w' = Lib.bytesWorld w 5 s := H
  clear h hu
  go_enter Tryz.func129, Tryz.ntmps129
  go_wp2_with (go_at_call 143; refine H.mono ?_; rintro e w' ⟨rfl, hb⟩; have HB := Lib.hid (bk_bytes (.inr hb)); clear hb)
  go_ret2
  exact ⟨rfl, HB.out⟩
set_option maxHeartbeats 2000000 in
theorem pu32_16_range (s : ByteArray) (hs : s.size ≤ 1000000) (h : numB (pb 16) (bl s) = true) (hu : numE 16 (bl s) = .range) (w : World) (ht : Tb w) :
    Calls Tryz.prog 129 #[.string s, .int .i64 16, .int .i64 64] w fun e w' => ∃ x t p, e = .returned (.tuple #[.int .u64 x, .iface t p]) ∧ BK w w' := by
  have H := pu40 s (num_size h) (by omega) (by rw [← pb16]; exact (Bool.and_eq_true_iff.1 h).1) w
  rw [show s.data.toList = bl s from rfl, pu16_num h, hu] at H
  have H : Calls Tryz.prog 143 #[.string s, .int .i64 16, .int .i64 64] w fun e w' => e = .returned (.tuple #[.int .u64 18446744073709551615, .iface 164 (.int .i64 1)]) ∧ w' = Lib.bytesWorld w 5 s := H
  have HT := Lib.hid ht
  clear h hu ht
  go_enter Tryz.func129, Tryz.ntmps129
  go_wp2_with (go_at_call 143; refine H.mono ?_; rintro e w1 ⟨rfl, hb⟩; have HB := Lib.hid (bk_bytes (.inr hb)); clear hb)
  obtain ⟨tp, p, hrng⟩ := (HT.out.keep HB.out).rng
  have H2 := Tryz.strconv_toError_range ⟨#[80, 97, 114, 115, 101, 85, 105, 110, 116]⟩ s 16 64 (.iface tp p) w1 (by omega) hrng (.inr ⟨tp, p, rfl⟩)
  clear hrng
  go_wp2_with (go_at_call 141; refine H2.mono ?_; rintro e w2 ⟨N, rfl, _, _, hb2⟩; have HB2 := Lib.hid (bk_tr HB.out hb2); clear hb2)
  go_ret2
  exact ⟨_, _, _, rfl, HB2.out⟩
theorem pu32_ok (b : Nat) (hb : b = 10 ∨ b = 16) (s : ByteArray) (hs : s.size ≤ 1000000) (h : numB (pb b) (bl s) = true) (u : Nat) (hu : numE b (bl s) = .ok u) (w : World) :
    Calls Tryz.prog 129 #[.string s, .int .i64 (b : Int), .int .i64 64] w fun e w' => e = .returned (.tuple #[.int .u64 u, .nilIface]) ∧ BK w w' := by
  rcases hb with rfl | rfl
  · rw [pb10] at h
    exact (Tryz.strconv_ParseUint_10_at64_ok s (by omega) u ((pub_num h).trans hu) w).mono fun e w' ⟨h1, h2⟩ => ⟨h1, bk_bytes h2⟩
  · exact pu32_16_ok s hs h u hu w
theorem pu32_range (b : Nat) (hb : b = 10 ∨ b = 16) (s : ByteArray) (hs : s.size ≤ 1000000) (h : numB (pb b) (bl s) = true) (hu : numE b (bl s) = .range) (w : World) (ht : Tb w) :
    Calls Tryz.prog 129 #[.string s, .int .i64 (b : Int), .int .i64 64] w fun e w' => ∃ x t p, e = .returned (.tuple #[.int .u64 x, .iface t p]) ∧ BK w w' := by
  rcases hb with rfl | rfl
  · rw [pb10] at h
    obtain ⟨tp, p, hrng⟩ := ht.rng
    exact (Tryz.strconv_ParseUint_10_at64_range s (by omega) ((pub_num h).trans hu) _ w hrng (.inr ⟨tp, p, rfl⟩)).mono fun e w' ⟨N, h1, _, _, h2⟩ => ⟨_, _, _, h1, h2⟩
  · exact pu32_16_range s hs h hu w ht
theorem isPrefix_take (p s : List UInt8) : p.isPrefixOf s = decide (s.take p.length = p) := by
  rw [Bool.eq_iff_iff, List.isPrefixOf_iff_prefix, decide_eq_true_eq]
  constructor
  · intro h; exact (List.prefix_iff_eq_take.1 h).symm
  · intro h; exact List.prefix_iff_eq_take.2 h.symm
theorem cut29_yes (s p : ByteArray) (h : (bl s).take p.size = bl p) (w : World) : Calls Tryz.prog 111 #[.string s, .string p] w fun e w' => e = .returned (.tuple #[.string ⟨((bl s).drop p.size).toArray⟩, .bool true]) ∧ w' = w := by
  refine (Tryz.strings_CutPrefix s p w).mono fun e w' ⟨h1, h2⟩ => ⟨?_, h2⟩
  have hp : Lib.hasPrefix s.data.toList p.data.toList = true := by
    unfold Lib.hasPrefix; rw [isPrefix_take]; exact decide_eq_true h
  rw [h1, hp, Lib.trimPrefix, if_pos hp]
  rfl
theorem cut29_no (s p : ByteArray) (h : (bl s).take p.size ≠ bl p) (w : World) : Calls Tryz.prog 111 #[.string s, .string p] w fun e w' => e = .returned (.tuple #[.string s, .bool false]) ∧ w' = w := by
  refine (Tryz.strings_CutPrefix s p w).mono fun e w' ⟨h1, h2⟩ => ⟨?_, h2⟩
  have hp : Lib.hasPrefix s.data.toList p.data.toList = false := by
    unfold Lib.hasPrefix; rw [isPrefix_take]; exact decide_eq_false h
  rw [h1, hp, Lib.trimPrefix, if_neg (by rw [hp]; simp)]
/-- a result and an Errno -/
def resU (n : Lib.NumEnd Nat) : Value := match n with
  | .ok u => .tuple #[.int .u64 u, .int .i64 0]
  | .syntax => .tuple #[.int .u64 0, .int .i64 6]
  | .range => .tuple #[.int .u64 0, .int .i64 2]
def resI (n : Lib.NumEnd Int) : Value := match n with
  | .ok u => .tuple #[.int .i64 u, .int .i64 0]
  | .syntax => .tuple #[.int .i64 0, .int .i64 6]
  | .range => .tuple #[.int .i64 0, .int .i64 2]
theorem num31 (b : Nat) (hb : b = 10 ∨ b = 16) (s : ByteArray) (w : World) (hs : s.size ≤ 1000000) : Calls Tryz.prog 124 #[.string s, .func (.func (if b = 16 then 128 else 125)) #[] #[]] w fun e w' => e = .returned (.bool (numB (pb b) (bl s))) ∧ w' = w := by
  rcases hb with rfl | rfl
  · rw [if_neg (by omega), pb10]; exact num31d s w hs
  · rw [if_pos rfl, pb16]; exact num31h s w hs
end Go.Proofs.YtneidfbgdgegjaaGreatDoor
