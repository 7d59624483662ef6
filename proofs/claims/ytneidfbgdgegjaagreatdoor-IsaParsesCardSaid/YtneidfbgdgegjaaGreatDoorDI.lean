/- Parse and ParseInt. -/
import Derived.Test.YtneidfbgdgegjaaGreatDoorDH
namespace Go.Proofs.YtneidfbgdgegjaaGreatDoor
open Go.RowKit
set_option linter.unusedVariables false
set_option linter.unusedSimpArgs false
theorem ret_v {a b : Value} (h : a = b) : Ending.returned a = .returned b := by rw [h]
theorem bl_drop (s : ByteArray) (k : Nat) : bl ⟨((bl s).drop k).toArray⟩ = (bl s).drop k := rfl
theorem numE_syn {b : Nat} {l : List UInt8} (h : numB (pb b) l = true) (h2 : numE b l = .syntax) : False := by
  rw [numE_of h] at h2; split at h2 <;> cases h2
set_option maxRecDepth 100000 in
set_option maxHeartbeats 4000000 in
theorem parse16 (s : ByteArray) (hs : s.size ≤ 1000000) (w : World) (ht : Tb w) : Calls Tryz.prog 112 #[.string s] w fun e w' => e = .returned (resU (parseS (bl s))) ∧ BK w w' := by
  have HT := Lib.hid ht
  clear ht
  by_cases hp : (bl s).take 2 = [48, 120]
  · have H29 : ∀ w, Calls Tryz.prog 111 #[.string s, .string ⟨#[48, 120]⟩] w fun e w' => e = .returned (.tuple #[.string ⟨((bl s).drop 2).toArray⟩, .bool true]) ∧ w' = w := fun w => cut29_yes s ⟨#[48, 120]⟩ hp w
    have hres : parseS (bl s) = numE 16 (bl ⟨((bl s).drop 2).toArray⟩) := by unfold parseS; rw [if_pos hp]
    have hts : (⟨((bl s).drop 2).toArray⟩ : ByteArray).size ≤ 1000000 := by
      show ((bl s).drop 2).length ≤ 1000000
      rw [List.length_drop, bl_len]; omega
    obtain ⟨t, ht⟩ : ∃ t, t = (⟨((bl s).drop 2).toArray⟩ : ByteArray) := ⟨_, rfl⟩
    rw [← ht] at H29 hres hts
    clear ht hp
    have HR := Lib.hid hres
    have H31 := fun w => num31 16 (.inr rfl) t w hts
    rw [if_pos rfl] at H31
    by_cases hn : numB (pb 16) (bl t) = true
    · rw [hn] at H31
      cases hu : numE 16 (bl t) with
      | ok u =>
        have H32 : ∀ w, Calls Tryz.prog 129 #[.string t, .int .i64 16, .int .i64 64] w fun e w' => e = .returned (.tuple #[.int .u64 u, .nilIface]) ∧ BK w w' := fun w => pu32_ok 16 (.inr rfl) t hts hn u hu w
        have HV := Lib.hid (show resU (parseS (bl s)) = .tuple #[.int .u64 u, .int .i64 0] by rw [HR.out, hu]; rfl)
        clear hn hu hres
        go_enter Tryz.func112, Tryz.ntmps112
        go_wp2_with (first | (go_at_call 129; refine (H32 _).mono ?_; rintro e w3 ⟨rfl, hb3⟩; have HB3 := Lib.hid hb3; clear hb3) | (go_at_call 124; refine (H31 _).mono ?_; rintro e w2 ⟨rfl, rfl⟩) | (go_at_call 111; refine (H29 _).mono ?_; rintro e w1 ⟨rfl, rfl⟩))
        go_ret2
        exact ⟨ret_v HV.out.symm, HB3.out⟩
      | «syntax» => exact absurd hu (fun h => numE_syn hn h)
      | range =>
        have H32 : ∀ w, Tb w → Calls Tryz.prog 129 #[.string t, .int .i64 16, .int .i64 64] w fun e w' => ∃ x t p, e = .returned (.tuple #[.int .u64 x, .iface t p]) ∧ BK w w' := fun w hw => pu32_range 16 (.inr rfl) t hts hn hu w hw
        have HV := Lib.hid (show resU (parseS (bl s)) = .tuple #[.int .u64 0, .int .i64 2] by rw [HR.out, hu]; rfl)
        clear hn hu hres
        go_enter Tryz.func112, Tryz.ntmps112
        go_wp2_with (first | (go_at_call 129; refine (H32 _ HT.out).mono ?_; rintro e w3 ⟨x, tt, pp, rfl, hb3⟩; have HB3 := Lib.hid hb3; clear hb3) | (go_at_call 124; refine (H31 _).mono ?_; rintro e w2 ⟨rfl, rfl⟩) | (go_at_call 111; refine (H29 _).mono ?_; rintro e w1 ⟨rfl, rfl⟩))
        go_ret2
        exact ⟨ret_v HV.out.symm, HB3.out⟩
    · have hn : numB (pb 16) (bl t) = false := by simpa using hn
      rw [hn] at H31
      have HV := Lib.hid (show resU (parseS (bl s)) = .tuple #[.int .u64 0, .int .i64 6] by rw [HR.out, numE_not hn]; rfl)
      clear hn hres
      go_enter Tryz.func112, Tryz.ntmps112
      go_wp2_with (first | (go_at_call 124; refine (H31 _).mono ?_; rintro e w2 ⟨rfl, rfl⟩) | (go_at_call 111; refine (H29 _).mono ?_; rintro e w1 ⟨rfl, rfl⟩))
      go_ret2
      exact ⟨ret_v HV.out.symm, BK.refl _⟩
  · have H29 : ∀ w, Calls Tryz.prog 111 #[.string s, .string ⟨#[48, 120]⟩] w fun e w' => e = .returned (.tuple #[.string s, .bool false]) ∧ w' = w := fun w => cut29_no s ⟨#[48, 120]⟩ hp w
    have hres : parseS (bl s) = numE 10 (bl s) := by unfold parseS; rw [if_neg hp]
    clear hp
    have HR := Lib.hid hres
    have H31 := fun w => num31 10 (.inl rfl) s w hs
    rw [if_neg (by omega)] at H31
    by_cases hn : numB (pb 10) (bl s) = true
    · rw [hn] at H31
      cases hu : numE 10 (bl s) with
      | ok u =>
        have H32 : ∀ w, Calls Tryz.prog 129 #[.string s, .int .i64 10, .int .i64 64] w fun e w' => e = .returned (.tuple #[.int .u64 u, .nilIface]) ∧ BK w w' := fun w => pu32_ok 10 (.inl rfl) s hs hn u hu w
        have HV := Lib.hid (show resU (parseS (bl s)) = .tuple #[.int .u64 u, .int .i64 0] by rw [HR.out, hu]; rfl)
        clear hn hu hres
        go_enter Tryz.func112, Tryz.ntmps112
        go_wp2_with (first | (go_at_call 129; refine (H32 _).mono ?_; rintro e w3 ⟨rfl, hb3⟩; have HB3 := Lib.hid hb3; clear hb3) | (go_at_call 124; refine (H31 _).mono ?_; rintro e w2 ⟨rfl, rfl⟩) | (go_at_call 111; refine (H29 _).mono ?_; rintro e w1 ⟨rfl, rfl⟩))
        go_ret2
        exact ⟨ret_v HV.out.symm, HB3.out⟩
      | «syntax» => exact absurd hu (fun h => numE_syn hn h)
      | range =>
        have H32 : ∀ w, Tb w → Calls Tryz.prog 129 #[.string s, .int .i64 10, .int .i64 64] w fun e w' => ∃ x t p, e = .returned (.tuple #[.int .u64 x, .iface t p]) ∧ BK w w' := fun w hw => pu32_range 10 (.inl rfl) s hs hn hu w hw
        have HV := Lib.hid (show resU (parseS (bl s)) = .tuple #[.int .u64 0, .int .i64 2] by rw [HR.out, hu]; rfl)
        clear hn hu hres
        go_enter Tryz.func112, Tryz.ntmps112
        go_wp2_with (first | (go_at_call 129; refine (H32 _ HT.out).mono ?_; rintro e w3 ⟨x, tt, pp, rfl, hb3⟩; have HB3 := Lib.hid hb3; clear hb3) | (go_at_call 124; refine (H31 _).mono ?_; rintro e w2 ⟨rfl, rfl⟩) | (go_at_call 111; refine (H29 _).mono ?_; rintro e w1 ⟨rfl, rfl⟩))
        go_ret2
        exact ⟨ret_v HV.out.symm, HB3.out⟩
    · have hn : numB (pb 10) (bl s) = false := by simpa using hn
      rw [hn] at H31
      have HV := Lib.hid (show resU (parseS (bl s)) = .tuple #[.int .u64 0, .int .i64 6] by rw [HR.out, numE_not hn]; rfl)
      clear hn hres
      go_enter Tryz.func112, Tryz.ntmps112
      go_wp2_with (first | (go_at_call 124; refine (H31 _).mono ?_; rintro e w2 ⟨rfl, rfl⟩) | (go_at_call 111; refine (H29 _).mono ?_; rintro e w1 ⟨rfl, rfl⟩))
      go_ret2
      exact ⟨ret_v HV.out.symm, BK.refl _⟩
/-! ParseInt -/
theorem dec1 (c : UInt8) (h : isDec c = true) : c.toNat ≠ 43 ∧ c.toNat ≠ 45 := by
  have := of_decide_eq_true h
  omega
theorem atoi_neg {l : List UInt8} (h : numB isDec l = true) : Lib.atoiAll (45 :: l) = neg (numE 10 l) ∨ numE 10 l = .ok 0 := by
  rw [Lib.atoiAll_minus, pm_num h]
  cases hu : numE 10 l with
  | ok u =>
    by_cases h0 : u = 0
    · right; rw [h0]
    · left
      show (if 9223372036854775808 < u then _ else _) = (if u = 0 then _ else _)
      rw [if_neg h0]
      by_cases h1 : 9223372036854775808 < u
      · rw [if_pos h1, if_neg (by omega)]
      · rw [if_neg h1, if_pos (by omega)]
  | «syntax» => left; rfl
  | range => left; rfl
theorem atoi_pos {l : List UInt8} (h : numB isDec l = true) : Lib.atoiAll l = pos (numE 10 l) := by
  cases l with
  | nil => exact absurd rfl (noLead_cases (Bool.and_eq_true_iff.1 h).2).1
  | cons c r =>
    have hc : isDec c = true := by
      have := (Bool.and_eq_true_iff.1 h).1
      simp at this
      exact this.1
    rw [Lib.atoiAll_plain c r (dec1 c hc).1 (dec1 c hc).2, pm_num h]
    cases hu : numE 10 (c :: r) with
    | ok u =>
      show (if 9223372036854775808 ≤ u then _ else _) = (if u < 9223372036854775808 then _ else _)
      by_cases h1 : 9223372036854775808 ≤ u
      · rw [if_pos h1, if_neg (by omega)]
      · rw [if_neg h1, if_pos (by omega)]
    | «syntax» => rfl
    | range => rfl
theorem zero_num {l : List UInt8} (h : numB isDec l = true) : numE 10 l = .ok 0 ↔ l = [48] := by
  constructor
  · intro e
    have := numE_uniq (.inl rfl) e
    rw [← this, wrn_lt (by omega)]
    rfl
  · intro e; subst e; decide
set_option maxRecDepth 100000 in
set_option maxHeartbeats 4000000 in
theorem pint18 (s : ByteArray) (hs : s.size ≤ 1000000) (w : World) (ht : Tb w) : Calls Tryz.prog 110 #[.string s] w fun e w' => e = .returned (resI (parseI (bl s))) ∧ BK w w' := by
  have HT := Lib.hid ht
  clear ht
  by_cases hp : (bl s).take 1 = [45]
  · have H29 : ∀ w, Calls Tryz.prog 111 #[.string s, .string ⟨#[45]⟩] w fun e w' => e = .returned (.tuple #[.string ⟨((bl s).drop 1).toArray⟩, .bool true]) ∧ w' = w := fun w => cut29_yes s ⟨#[45]⟩ hp w
    have hres : parseI (bl s) = neg (numE 10 (bl ⟨((bl s).drop 1).toArray⟩)) := by unfold parseI; rw [if_pos hp]
    have hts : (⟨((bl s).drop 1).toArray⟩ : ByteArray).size ≤ 1000000 := by
      show ((bl s).drop 1).length ≤ 1000000
      rw [List.length_drop, bl_len]; omega
    have hcons : bl s = 45 :: bl ⟨((bl s).drop 1).toArray⟩ := by
      have := List.take_append_drop 1 (bl s)
      rw [hp] at this
      exact this.symm
    obtain ⟨t, ht⟩ : ∃ t, t = (⟨((bl s).drop 1).toArray⟩ : ByteArray) := ⟨_, rfl⟩
    rw [← ht] at H29 hres hts hcons
    have HR := Lib.hid hres
    have HC := Lib.hid hcons
    clear ht hp hres hcons
    have H31 := fun w => num31d t w hts
    by_cases hn : numB isDec (bl t) = true
    · rw [hn] at H31
      by_cases hz : t = ⟨#[48]⟩
      · have hsyn : parseI (bl s) = .syntax := by
          rw [HR.out, hz]; decide
        have HV := Lib.hid (show resI (parseI (bl s)) = .tuple #[.int .i64 0, .int .i64 6] by rw [hsyn]; rfl)
        clear hn hsyn
        subst hz
        go_enter Tryz.func110, Tryz.ntmps110
        go_wp2_with (first | (go_at_call 124; refine (H31 _).mono ?_; rintro e w2 ⟨rfl, rfl⟩) | (go_at_call 111; refine (H29 _).mono ?_; rintro e w1 ⟨rfl, rfl⟩))
        go_ret2
        exact ⟨ret_v HV.out.symm, BK.refl _⟩
      have hzz : (t.toList == [48]) = false := by rw [beq_eq_false_iff_ne, ByteArray.toList_eq]; exact fun h => hz (bl_inj h)
      have hz0 : numE 10 (bl t) ≠ .ok 0 := fun h => hz (bl_inj ((zero_num hn).1 h))
      have hat : Lib.atoiAll s.data.toList = parseI (bl s) := by
        show Lib.atoiAll (bl s) = _
        rw [HR.out, HC.out]
        rcases atoi_neg hn with h | h
        · exact h
        · exact absurd h hz0
      cases hu : parseI (bl s) with
      | ok u =>
        rw [hu] at hat
        have H34 : ∀ w, Calls Tryz.prog 126 #[.string s] w fun e w' => e = .returned (.tuple #[.int .i64 u, .nilIface]) ∧ BK w w' := fun w => (Tryz.strconv_Atoi_ok s (by omega) u hat w).mono fun e w' ⟨h1, h2⟩ => ⟨h1, by
          rcases h2 with h2 | ⟨t, h2⟩
          · rw [h2]; exact BK.refl _
          · rw [h2]; exact Lib.bytesWorld_below _ _ _⟩
        have HV := Lib.hid (show resI (parseI (bl s)) = .tuple #[.int .i64 u, .int .i64 0] by rw [hu]; rfl)
        clear hn hu hat
        go_enter Tryz.func110, Tryz.ntmps110
        go_wp2_with (first | (go_at_call 126; refine (H34 _).mono ?_; rintro e w3 ⟨rfl, hb3⟩; have HB3 := Lib.hid hb3; clear hb3) | (go_at_call 124; refine (H31 _).mono ?_; rintro e w2 ⟨rfl, rfl⟩) | (go_at_call 111; refine (H29 _).mono ?_; rintro e w1 ⟨rfl, rfl⟩))
        go_ret2
        exact ⟨rfl, HB3.out⟩
      | «syntax» => exact absurd hu (fun h => by
        rw [HR.out] at h
        cases hq : numE 10 (bl t) with
        | ok x =>
          rw [hq] at h hz0
          simp only [neg] at h
          split at h
          · rename_i h0; exact hz0 (by rw [h0])
          · split at h <;> cases h
        | «syntax» => exact numE_syn (b := 10) (by rw [pb10]; exact hn) hq
        | range => rw [hq] at h; cases h)
      | range =>
        rw [hu] at hat
        have H34 : ∀ w, Tb w → Calls Tryz.prog 126 #[.string s] w fun e w' => ∃ x t p, e = .returned (.tuple #[.int .i64 x, .iface t p]) ∧ BK w w' := fun w hw => by
          obtain ⟨tp, p, hrng⟩ := hw.rng
          exact (Tryz.strconv_Atoi_range s (by omega) hat _ w hrng (.inr ⟨tp, p, rfl⟩)).mono fun e w' ⟨N, h1, _, _, h2⟩ => ⟨_, _, _, h1, h2⟩
        have HV := Lib.hid (show resI (parseI (bl s)) = .tuple #[.int .i64 0, .int .i64 2] by rw [hu]; rfl)
        clear hn hu hat
        go_enter Tryz.func110, Tryz.ntmps110
        go_wp2_with (first | (go_at_call 126; refine (H34 _ HT.out).mono ?_; rintro e w3 ⟨x, tt, pp, rfl, hb3⟩; have HB3 := Lib.hid hb3; clear hb3) | (go_at_call 124; refine (H31 _).mono ?_; rintro e w2 ⟨rfl, rfl⟩) | (go_at_call 111; refine (H29 _).mono ?_; rintro e w1 ⟨rfl, rfl⟩))
        go_ret2
        exact ⟨rfl, HB3.out⟩
    · have hn : numB isDec (bl t) = false := by simpa using hn
      rw [hn] at H31
      have hsyn : parseI (bl s) = .syntax := by rw [HR.out, numE_not (by rw [pb10]; exact hn)]; rfl
      have HV := Lib.hid (show resI (parseI (bl s)) = .tuple #[.int .i64 0, .int .i64 6] by rw [hsyn]; rfl)
      clear hn hsyn
      go_enter Tryz.func110, Tryz.ntmps110
      go_wp2_with (first | (go_at_call 124; refine (H31 _).mono ?_; rintro e w2 ⟨rfl, rfl⟩) | (go_at_call 111; refine (H29 _).mono ?_; rintro e w1 ⟨rfl, rfl⟩))
      go_ret2
      exact ⟨ret_v HV.out.symm, BK.refl _⟩
  · have H29 : ∀ w, Calls Tryz.prog 111 #[.string s, .string ⟨#[45]⟩] w fun e w' => e = .returned (.tuple #[.string s, .bool false]) ∧ w' = w := fun w => cut29_no s ⟨#[45]⟩ hp w
    have hres : parseI (bl s) = pos (numE 10 (bl s)) := by unfold parseI; rw [if_neg hp]
    have HR := Lib.hid hres
    clear hp hres
    have H31 := fun w => num31d s w hs
    by_cases hn : numB isDec (bl s) = true
    · rw [hn] at H31
      have hat : Lib.atoiAll s.data.toList = parseI (bl s) := by
        show Lib.atoiAll (bl s) = _
        rw [HR.out]
        exact atoi_pos hn
      cases hu : parseI (bl s) with
      | ok u =>
        rw [hu] at hat
        have H34 : ∀ w, Calls Tryz.prog 126 #[.string s] w fun e w' => e = .returned (.tuple #[.int .i64 u, .nilIface]) ∧ BK w w' := fun w => (Tryz.strconv_Atoi_ok s (by omega) u hat w).mono fun e w' ⟨h1, h2⟩ => ⟨h1, by
          rcases h2 with h2 | ⟨t, h2⟩
          · rw [h2]; exact BK.refl _
          · rw [h2]; exact Lib.bytesWorld_below _ _ _⟩
        have HV := Lib.hid (show resI (parseI (bl s)) = .tuple #[.int .i64 u, .int .i64 0] by rw [hu]; rfl)
        clear hn hu hat
        go_enter Tryz.func110, Tryz.ntmps110
        go_wp2_with (first | (go_at_call 126; refine (H34 _).mono ?_; rintro e w3 ⟨rfl, hb3⟩; have HB3 := Lib.hid hb3; clear hb3) | (go_at_call 124; refine (H31 _).mono ?_; rintro e w2 ⟨rfl, rfl⟩) | (go_at_call 111; refine (H29 _).mono ?_; rintro e w1 ⟨rfl, rfl⟩))
        go_ret2
        exact ⟨rfl, HB3.out⟩
      | «syntax» => exact absurd hu (fun h => by
        rw [HR.out] at h
        cases hq : numE 10 (bl s) with
        | ok x =>
          rw [hq] at h
          simp only [pos] at h
          split at h <;> cases h
        | «syntax» => exact numE_syn (b := 10) (by rw [pb10]; exact hn) hq
        | range => rw [hq] at h; cases h)
      | range =>
        rw [hu] at hat
        have H34 : ∀ w, Tb w → Calls Tryz.prog 126 #[.string s] w fun e w' => ∃ x t p, e = .returned (.tuple #[.int .i64 x, .iface t p]) ∧ BK w w' := fun w hw => by
          obtain ⟨tp, p, hrng⟩ := hw.rng
          exact (Tryz.strconv_Atoi_range s (by omega) hat _ w hrng (.inr ⟨tp, p, rfl⟩)).mono fun e w' ⟨N, h1, _, _, h2⟩ => ⟨_, _, _, h1, h2⟩
        have HV := Lib.hid (show resI (parseI (bl s)) = .tuple #[.int .i64 0, .int .i64 2] by rw [hu]; rfl)
        clear hn hu hat
        go_enter Tryz.func110, Tryz.ntmps110
        go_wp2_with (first | (go_at_call 126; refine (H34 _ HT.out).mono ?_; rintro e w3 ⟨x, tt, pp, rfl, hb3⟩; have HB3 := Lib.hid hb3; clear hb3) | (go_at_call 124; refine (H31 _).mono ?_; rintro e w2 ⟨rfl, rfl⟩) | (go_at_call 111; refine (H29 _).mono ?_; rintro e w1 ⟨rfl, rfl⟩))
        go_ret2
        exact ⟨rfl, HB3.out⟩
    · have hn : numB isDec (bl s) = false := by simpa using hn
      rw [hn] at H31
      have hsyn : parseI (bl s) = .syntax := by rw [HR.out, numE_not (by rw [pb10]; exact hn)]; rfl
      have HV := Lib.hid (show resI (parseI (bl s)) = .tuple #[.int .i64 0, .int .i64 6] by rw [hsyn]; rfl)
      clear hn hsyn
      go_enter Tryz.func110, Tryz.ntmps110
      go_wp2_with (first | (go_at_call 124; refine (H31 _).mono ?_; rintro e w2 ⟨rfl, rfl⟩) | (go_at_call 111; refine (H29 _).mono ?_; rintro e w1 ⟨rfl, rfl⟩))
      go_ret2
      exact ⟨ret_v HV.out.symm, BK.refl _⟩
end Go.Proofs.YtneidfbgdgegjaaGreatDoor
