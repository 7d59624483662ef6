/- The reference's digit, number, Parse and ParseInt. -/
import Derived.Test.YtneidfbgdgegjaaGreatDoorDJ
namespace Go.Proofs.YtneidfbgdgegjaaGreatDoor
open Go.RowKit
set_option linter.unusedVariables false
set_option linter.unusedSimpArgs false
theorem str_cases (s : ByteArray) : s = ⟨#[]⟩ ∨ (0 < s.size ∧ s.toList.isEmpty = false) := by
  rcases Nat.eq_zero_or_pos s.size with h | h
  · left
    exact bl_inj (List.eq_nil_of_length_eq_zero (by rw [bl_len, h]))
  · right
    refine ⟨h, ?_⟩
    rw [List.isEmpty_eq_false_iff, ByteArray.toList_eq]
    intro e
    have : (bl s).length = 0 := by show s.data.toList.length = 0; rw [e]; rfl
    rw [bl_len] at this
    omega
theorem noLead_of {s : ByteArray} (h0 : 0 < s.size) : noLead (bl s) = !(decide ((bl s).getD 0 0 = 48) && decide (1 < s.size)) := by
  rw [← bl_len] at h0 ⊢
  generalize bl s = l at h0
  cases l with
  | nil => simp at h0
  | cons c r =>
    cases r with
    | nil =>
      show (([c] == [48]) || (c != 48)) = _
      by_cases hc : c = 48
      · subst hc; rfl
      · simp [hc]
    | cons d r =>
      show (((c :: d :: r) == [48]) || (c != 48)) = _
      by_cases hc : c = 48
      · subst hc; simp
      · simp [hc]
theorem c48 (c : UInt8) : ((c.toNat : Int) == 48) = decide (c = 48) := by
  rw [Bool.eq_iff_iff, beq_iff_eq, decide_eq_true_eq]
  constructor
  · intro h; exact UInt8.toNat_inj.1 (by show c.toNat = 48; omega)
  · intro h; subst h; rfl
theorem all_take {p : UInt8 → Bool} {l : List UInt8} {k : Nat} (h : k < l.length) : (l.take (k + 1)).all p = ((l.take k).all p && p (l.getD k 0)) := by
  rw [List.take_succ_eq_append_getElem h, List.all_append, List.getD_eq_getElem?_getD, List.getElem?_eq_getElem h]
  simp
theorem vl_take (b : Nat) {l : List UInt8} {k : Nat} (h : k < l.length) : vl b 0 (l.take (k + 1)) = b * vl b 0 (l.take k) + dgv (l.getD k 0) := by
  rw [List.take_succ_eq_append_getElem h, vl_app, List.getD_eq_getElem?_getD, List.getElem?_eq_getElem h]
  rfl
def dgI (b : Nat) (c : UInt8) : Int := if pb b c = true then (dgv c : Int) else -1
/-- between two digits: the number so far, or that it is too great -/
def IVn (b : Nat) (l : List UInt8) (k : Nat) (z : Int) (ov : Bool) : Prop := 0 ≤ z ∧ z < 18446744073709551616 ∧ (l.take k).all (pb b) = true ∧ (ov = false → z = (vl b 0 (l.take k) : Int)) ∧ (ov = true → 18446744073709551616 ≤ vl b 0 (l.take k))
theorem not_all {p : UInt8 → Bool} {l : List UInt8} {k : Nat} (h : k < l.length) (hp : p (l.getD k 0) = false) : l.all p = false := by
  rw [List.all_eq_false]
  refine ⟨l[k], List.getElem_mem h, ?_⟩
  rw [List.getD_eq_getElem?_getD, List.getElem?_eq_getElem h] at hp
  simpa using hp
set_option maxHeartbeats 2000000 in
theorem dig42_10 (c : UInt8) (w : World) : Calls Tryz.prog 130 #[.int .u8 (c.toNat : Int), .int .u64 10] w fun e w' => e = .returned (.int .i64 (dgI 10 c)) ∧ w' = w := by
  have hc : c.toNat < 256 := c.toNat_lt
  have HV := Lib.hid (show (dgI 10 c = if 48 ≤ (c.toNat : Int) ∧ (c.toNat : Int) ≤ 57 then (c.toNat : Int) - 48 else -1) by
    unfold dgI
    rw [pb10]
    unfold isDec dgv
    simp only [decide_eq_true_eq]
    (repeat' split) <;> omega)
  have h0 : 0 ≤ (c.toNat : Int) := by omega
  have h1 : (c.toNat : Int) < 256 := by omega
  generalize (c.toNat : Int) = n at HV h0 h1 ⊢
  clear hc
  go_enter Tryz.func130, Tryz.ntmps130
  go_wp2
  all_goals go_ret
  all_goals exact ⟨ret_int (by rw [HV.out]; (repeat' split) <;> omega), rfl⟩
set_option maxRecDepth 100000 in
set_option maxHeartbeats 4000000 in
theorem number33_10 (s : ByteArray) (hs : s.size ≤ 1000000) (w : World) : Calls Tryz.prog 113 #[.string s, .int .u64 10] w fun e w' => e = .returned (resU (numE 10 (bl s))) ∧ BK w w' := by
  rcases str_cases s with h0 | ⟨hpos, hne⟩
  · have HV := Lib.hid (show resU (numE 10 (bl s)) = .tuple #[.int .u64 0, .int .i64 6] by rw [h0]; rfl)
    subst h0
    go_enter Tryz.func113, Tryz.ntmps113
    go_wp2_with fail
    go_ret2
    exact ⟨ret_v HV.out.symm, BK.refl _⟩
  · have hb0 : (bl s).getD 0 0 = s.data[0]'hpos := bl_get hpos
    have hnl := noLead_of hpos
    rw [hb0] at hnl
    have h48 : ((s.data[0]'hpos).toNat : Int) = 48 ↔ s.data[0]'hpos = 48 := by
      constructor
      · intro h; exact UInt8.toNat_inj.1 (by show (s.data[0]'hpos).toNat = 48; omega)
      · intro h; rw [h]; rfl
    by_cases hq : ((s.data[0]'hpos).toNat : Int) = 48
    · by_cases hq2 : (1 : Int) < (s.size : Int)
      · have HV := Lib.hid (show resU (numE 10 (bl s)) = .tuple #[.int .u64 0, .int .i64 6] by
          rw [numE_not (by unfold numB; rw [hnl, decide_eq_true (h48.1 hq), decide_eq_true (show 1 < s.size by omega)]; simp)]; rfl)
        clear hnl hb0 h48
        go_enter Tryz.func113, Tryz.ntmps113
        go_wp2_with fail
        go_ret2
        exact ⟨ret_v HV.out.symm, BK.refl _⟩
      · have hnum : numB (pb 10) (bl s) = (bl s).all (pb 10) := by unfold numB; rw [hnl, decide_eq_false (show ¬ 1 < s.size by omega), Bool.and_false]; simp
        have HNUM := Lib.hid hnum
        have hq2 : (s.size : Int) ≤ 1 := by omega
        clear hnl hnum hb0 h48
        go_enter Tryz.func113, Tryz.ntmps113
        go_wp2_with fail
        clear hq
        go_loopw [6, 7, 8] (fun x o i W => ∃ (k : Nat) (z : Int) (ov : Bool), x = .int .u64 z ∧ o = .bool ov ∧ i = .int .i64 (k : Int) ∧ k ≤ s.size ∧ W = w ∧ Hid (IVn 10 (bl s) k z ov)) (fun _ _ i _ => s.size - (intOf i).toNat)
        case atStart => exact ⟨0, 0, false, rfl, rfl, rfl, Nat.zero_le _, rfl, Lib.hid ⟨by omega, by omega, by simp, fun _ => rfl, fun h => by cases h⟩⟩
        case round =>
          obtain ⟨k, z, ov, rfl, rfl, rfl, hk, rfl, hh⟩ := hrel
          by_cases hlt : k < s.size
          · have hx := idx9 hlt wr
            have HLT := Lib.hid (show k < (bl s).length from hlt)
            have h42 := dig42_10 ((bl s).getD k 0)
            obtain ⟨c, hc⟩ : ∃ c, c = (bl s).getD k 0 := ⟨_, rfl⟩
            rw [← hc] at hx h42
            have HC := Lib.hid hc
            clear hc
            by_cases hp : pb 10 c = true
            · rw [dgI, if_pos hp] at h42
              have hd := dgv_lt (b := 10) (.inl rfl) hp
              obtain ⟨dz, hdz⟩ : ∃ dz : Int, dz = (dgv c : Int) := ⟨_, rfl⟩
              rw [← hdz] at h42
              have d0 : 0 ≤ dz := by omega
              have d1 : dz < 10 := by omega
              obtain ⟨z0, z1, hall, hf, ht⟩ := hh.out
              have hall2 : ((bl s).take (k + 1)).all (pb 10) = true := by rw [all_take HLT.out, hall, ← HC.out, hp]; rfl
              have hvl : vl 10 0 ((bl s).take (k + 1)) = 10 * vl 10 0 ((bl s).take k) + dgv c := by rw [vl_take 10 HLT.out, ← HC.out]
              cases ov with
              | true =>
                have HN := Lib.hid (show ∀ z' : Int, 0 ≤ z' → z' < 18446744073709551616 → IVn 10 (bl s) (k + 1) z' true from fun z' a b => ⟨a, b, hall2, fun h => by (cases h), fun _ => by have := ht rfl; omega⟩)
                have HW := Lib.hid (show ∀ y : Int, 0 ≤ IntKind.u64.wrap y ∧ IntKind.u64.wrap y < 18446744073709551616 from fun y => by rw [IntKind.wrap_u64]; omega)
                clear hh hall hf ht hall2 hvl hdz hd
                go_wp2_with (go_at_call 130; refine (h42 _).mono ?_; rintro e w2 ⟨rfl, rfl⟩)
                go_roundw
                case rel => exact ⟨k + 1, _, true, rfl, rfl, by go_num, by omega, (by trivial), Lib.hid (HN.out _ (HW.out _).1 (HW.out _).2)⟩
                case measure => simp [intOf]; omega
              | false =>
                have hz := hf rfl
                by_cases hov : (18446744073709551615 - dz) / 10 < z
                · have HN := Lib.hid (show ∀ z' : Int, 0 ≤ z' → z' < 18446744073709551616 → IVn 10 (bl s) (k + 1) z' true from fun z' a b => ⟨a, b, hall2, fun h => by (cases h), fun _ => by omega⟩)
                  have HW := Lib.hid (show ∀ y : Int, 0 ≤ IntKind.u64.wrap y ∧ IntKind.u64.wrap y < 18446744073709551616 from fun y => by rw [IntKind.wrap_u64]; omega)
                  clear hh hall hf ht hall2 hvl hdz hd hz
                  go_wp2_with (go_at_call 130; refine (h42 _).mono ?_; rintro e w2 ⟨rfl, rfl⟩)
                  go_roundw
                  case rel => exact ⟨k + 1, _, true, rfl, rfl, by go_num, by omega, (by trivial), Lib.hid (HN.out _ (HW.out _).1 (HW.out _).2)⟩
                  case measure => simp [intOf]; omega
                · have hov2 : z ≤ (18446744073709551615 - dz) / 10 := by omega
                  have hex : 10 * z + dz < 18446744073709551616 := by omega
                  have HN := Lib.hid (show IVn 10 (bl s) (k + 1) (10 * z + dz) false from ⟨by omega, by omega, hall2, fun _ => by rw [hvl, hz, hdz]; omega, fun h => by (cases h)⟩)
                  clear hh hall hf ht hall2 hvl hdz hd hz hov
                  go_wp2_with (go_at_call 130; refine (h42 _).mono ?_; rintro e w2 ⟨rfl, rfl⟩)
                  go_roundw
                  case rel => exact ⟨k + 1, _, false, by first | rfl | (congr 1; omega), by rw [decide_eq_false (by omega)], by go_num, by omega, (by trivial), HN⟩
                  case measure => simp [intOf]; omega
            · have hp : pb 10 c = false := by simpa using hp
              rw [dgI, if_neg (by rw [hp]; simp)] at h42
              have HV := Lib.hid (show resU (numE 10 (bl s)) = .tuple #[.int .u64 0, .int .i64 6] by
                rw [numE_not (by rw [HNUM.out]; exact not_all HLT.out (by rw [← HC.out]; exact hp))]; rfl)
              clear hh hp
              go_wp2_with (go_at_call 130; refine (h42 _).mono ?_; rintro e w2 ⟨rfl, rfl⟩)
              go_ret2
              exact ⟨ret_v HV.out.symm, BK.refl _⟩
          · obtain rfl : k = s.size := by omega
            obtain ⟨z0, z1, hall, hf, ht⟩ := hh.out
            rw [List.take_of_length_le (Nat.le_of_eq (bl_len s))] at hall hf ht
            have hE : numE 10 (bl s) = if vl 10 0 (bl s) < 18446744073709551616 then .ok (vl 10 0 (bl s)) else .range := numE_of (by rw [HNUM.out]; exact hall)
            cases ov with
            | true =>
              have HV := Lib.hid (show resU (numE 10 (bl s)) = .tuple #[.int .u64 0, .int .i64 2] by
                rw [hE, if_neg (by have := ht rfl; omega)]; rfl)
              clear hh hall hf ht hE
              go_wp2_with fail
              go_ret2
              exact ⟨ret_v HV.out.symm, BK.refl _⟩
            | false =>
              have HV := Lib.hid (show resU (numE 10 (bl s)) = .tuple #[.int .u64 z, .int .i64 0] by
                rw [hE, if_pos (by have := hf rfl; omega), hf rfl]; rfl)
              clear hh hall hf ht hE
              go_wp2_with fail
              go_ret2
              exact ⟨ret_v HV.out.symm, BK.refl _⟩
    · have hnum : numB (pb 10) (bl s) = (bl s).all (pb 10) := by unfold numB; rw [hnl, decide_eq_false (fun h => hq (h48.2 h)), Bool.false_and]; simp
      have HNUM := Lib.hid hnum
      clear hnl hnum hb0 h48
      go_enter Tryz.func113, Tryz.ntmps113
      go_wp2_with fail
      clear hq
      go_loopw [6, 7, 8] (fun x o i W => ∃ (k : Nat) (z : Int) (ov : Bool), x = .int .u64 z ∧ o = .bool ov ∧ i = .int .i64 (k : Int) ∧ k ≤ s.size ∧ W = w ∧ Hid (IVn 10 (bl s) k z ov)) (fun _ _ i _ => s.size - (intOf i).toNat)
      case atStart => exact ⟨0, 0, false, rfl, rfl, rfl, Nat.zero_le _, rfl, Lib.hid ⟨by omega, by omega, by simp, fun _ => rfl, fun h => by cases h⟩⟩
      case round =>
        obtain ⟨k, z, ov, rfl, rfl, rfl, hk, rfl, hh⟩ := hrel
        by_cases hlt : k < s.size
        · have hx := idx9 hlt wr
          have HLT := Lib.hid (show k < (bl s).length from hlt)
          have h42 := dig42_10 ((bl s).getD k 0)
          obtain ⟨c, hc⟩ : ∃ c, c = (bl s).getD k 0 := ⟨_, rfl⟩
          rw [← hc] at hx h42
          have HC := Lib.hid hc
          clear hc
          by_cases hp : pb 10 c = true
          · rw [dgI, if_pos hp] at h42
            have hd := dgv_lt (b := 10) (.inl rfl) hp
            obtain ⟨dz, hdz⟩ : ∃ dz : Int, dz = (dgv c : Int) := ⟨_, rfl⟩
            rw [← hdz] at h42
            have d0 : 0 ≤ dz := by omega
            have d1 : dz < 10 := by omega
            obtain ⟨z0, z1, hall, hf, ht⟩ := hh.out
            have hall2 : ((bl s).take (k + 1)).all (pb 10) = true := by rw [all_take HLT.out, hall, ← HC.out, hp]; rfl
            have hvl : vl 10 0 ((bl s).take (k + 1)) = 10 * vl 10 0 ((bl s).take k) + dgv c := by rw [vl_take 10 HLT.out, ← HC.out]
            cases ov with
            | true =>
              have HN := Lib.hid (show ∀ z' : Int, 0 ≤ z' → z' < 18446744073709551616 → IVn 10 (bl s) (k + 1) z' true from fun z' a b => ⟨a, b, hall2, fun h => by (cases h), fun _ => by have := ht rfl; omega⟩)
              have HW := Lib.hid (show ∀ y : Int, 0 ≤ IntKind.u64.wrap y ∧ IntKind.u64.wrap y < 18446744073709551616 from fun y => by rw [IntKind.wrap_u64]; omega)
              clear hh hall hf ht hall2 hvl hdz hd
              go_wp2_with (go_at_call 130; refine (h42 _).mono ?_; rintro e w2 ⟨rfl, rfl⟩)
              go_roundw
              case rel => exact ⟨k + 1, _, true, rfl, rfl, by go_num, by omega, (by trivial), Lib.hid (HN.out _ (HW.out _).1 (HW.out _).2)⟩
              case measure => simp [intOf]; omega
            | false =>
              have hz := hf rfl
              by_cases hov : (18446744073709551615 - dz) / 10 < z
              · have HN := Lib.hid (show ∀ z' : Int, 0 ≤ z' → z' < 18446744073709551616 → IVn 10 (bl s) (k + 1) z' true from fun z' a b => ⟨a, b, hall2, fun h => by (cases h), fun _ => by omega⟩)
                have HW := Lib.hid (show ∀ y : Int, 0 ≤ IntKind.u64.wrap y ∧ IntKind.u64.wrap y < 18446744073709551616 from fun y => by rw [IntKind.wrap_u64]; omega)
                clear hh hall hf ht hall2 hvl hdz hd hz
                go_wp2_with (go_at_call 130; refine (h42 _).mono ?_; rintro e w2 ⟨rfl, rfl⟩)
                go_roundw
                case rel => exact ⟨k + 1, _, true, rfl, rfl, by go_num, by omega, (by trivial), Lib.hid (HN.out _ (HW.out _).1 (HW.out _).2)⟩
                case measure => simp [intOf]; omega
              · have hov2 : z ≤ (18446744073709551615 - dz) / 10 := by omega
                have hex : 10 * z + dz < 18446744073709551616 := by omega
                have HN := Lib.hid (show IVn 10 (bl s) (k + 1) (10 * z + dz) false from ⟨by omega, by omega, hall2, fun _ => by rw [hvl, hz, hdz]; omega, fun h => by (cases h)⟩)
                clear hh hall hf ht hall2 hvl hdz hd hz hov
                go_wp2_with (go_at_call 130; refine (h42 _).mono ?_; rintro e w2 ⟨rfl, rfl⟩)
                go_roundw
                case rel => exact ⟨k + 1, _, false, by first | rfl | (congr 1; omega), by rw [decide_eq_false (by omega)], by go_num, by omega, (by trivial), HN⟩
                case measure => simp [intOf]; omega
          · have hp : pb 10 c = false := by simpa using hp
            rw [dgI, if_neg (by rw [hp]; simp)] at h42
            have HV := Lib.hid (show resU (numE 10 (bl s)) = .tuple #[.int .u64 0, .int .i64 6] by
              rw [numE_not (by rw [HNUM.out]; exact not_all HLT.out (by rw [← HC.out]; exact hp))]; rfl)
            clear hh hp
            go_wp2_with (go_at_call 130; refine (h42 _).mono ?_; rintro e w2 ⟨rfl, rfl⟩)
            go_ret2
            exact ⟨ret_v HV.out.symm, BK.refl _⟩
        · obtain rfl : k = s.size := by omega
          obtain ⟨z0, z1, hall, hf, ht⟩ := hh.out
          rw [List.take_of_length_le (Nat.le_of_eq (bl_len s))] at hall hf ht
          have hE : numE 10 (bl s) = if vl 10 0 (bl s) < 18446744073709551616 then .ok (vl 10 0 (bl s)) else .range := numE_of (by rw [HNUM.out]; exact hall)
          cases ov with
          | true =>
            have HV := Lib.hid (show resU (numE 10 (bl s)) = .tuple #[.int .u64 0, .int .i64 2] by
              rw [hE, if_neg (by have := ht rfl; omega)]; rfl)
            clear hh hall hf ht hE
            go_wp2_with fail
            go_ret2
            exact ⟨ret_v HV.out.symm, BK.refl _⟩
          | false =>
            have HV := Lib.hid (show resU (numE 10 (bl s)) = .tuple #[.int .u64 z, .int .i64 0] by
              rw [hE, if_pos (by have := hf rfl; omega), hf rfl]; rfl)
            clear hh hall hf ht hE
            go_wp2_with fail
            go_ret2
            exact ⟨ret_v HV.out.symm, BK.refl _⟩
set_option maxHeartbeats 2000000 in
theorem dig42_16 (c : UInt8) (w : World) : Calls Tryz.prog 130 #[.int .u8 (c.toNat : Int), .int .u64 16] w fun e w' => e = .returned (.int .i64 (dgI 16 c)) ∧ w' = w := by
  have hc : c.toNat < 256 := c.toNat_lt
  have HV := Lib.hid (show (dgI 16 c = if 48 ≤ (c.toNat : Int) ∧ (c.toNat : Int) ≤ 57 then (c.toNat : Int) - 48 else if 97 ≤ (c.toNat : Int) ∧ (c.toNat : Int) ≤ 102 then (c.toNat : Int) - 97 + 10 else -1) by
    unfold dgI
    rw [pb16]
    unfold isHex dgv
    simp only [decide_eq_true_eq]
    (repeat' split) <;> omega)
  have h0 : 0 ≤ (c.toNat : Int) := by omega
  have h1 : (c.toNat : Int) < 256 := by omega
  generalize (c.toNat : Int) = n at HV h0 h1 ⊢
  clear hc
  go_enter Tryz.func130, Tryz.ntmps130
  go_wp2
  all_goals go_ret
  all_goals exact ⟨ret_int (by rw [HV.out]; (repeat' split) <;> omega), rfl⟩
set_option maxRecDepth 100000 in
set_option maxHeartbeats 4000000 in
theorem number33_16 (s : ByteArray) (hs : s.size ≤ 1000000) (w : World) : Calls Tryz.prog 113 #[.string s, .int .u64 16] w fun e w' => e = .returned (resU (numE 16 (bl s))) ∧ BK w w' := by
  rcases str_cases s with h0 | ⟨hpos, hne⟩
  · have HV := Lib.hid (show resU (numE 16 (bl s)) = .tuple #[.int .u64 0, .int .i64 6] by rw [h0]; rfl)
    subst h0
    go_enter Tryz.func113, Tryz.ntmps113
    go_wp2_with fail
    go_ret2
    exact ⟨ret_v HV.out.symm, BK.refl _⟩
  · have hb0 : (bl s).getD 0 0 = s.data[0]'hpos := bl_get hpos
    have hnl := noLead_of hpos
    rw [hb0] at hnl
    have h48 : ((s.data[0]'hpos).toNat : Int) = 48 ↔ s.data[0]'hpos = 48 := by
      constructor
      · intro h; exact UInt8.toNat_inj.1 (by show (s.data[0]'hpos).toNat = 48; omega)
      · intro h; rw [h]; rfl
    by_cases hq : ((s.data[0]'hpos).toNat : Int) = 48
    · by_cases hq2 : (1 : Int) < (s.size : Int)
      · have HV := Lib.hid (show resU (numE 16 (bl s)) = .tuple #[.int .u64 0, .int .i64 6] by
          rw [numE_not (by unfold numB; rw [hnl, decide_eq_true (h48.1 hq), decide_eq_true (show 1 < s.size by omega)]; simp)]; rfl)
        clear hnl hb0 h48
        go_enter Tryz.func113, Tryz.ntmps113
        go_wp2_with fail
        go_ret2
        exact ⟨ret_v HV.out.symm, BK.refl _⟩
      · have hnum : numB (pb 16) (bl s) = (bl s).all (pb 16) := by unfold numB; rw [hnl, decide_eq_false (show ¬ 1 < s.size by omega), Bool.and_false]; simp
        have HNUM := Lib.hid hnum
        have hq2 : (s.size : Int) ≤ 1 := by omega
        clear hnl hnum hb0 h48
        go_enter Tryz.func113, Tryz.ntmps113
        go_wp2_with fail
        clear hq
        go_loopw [6, 7, 8] (fun x o i W => ∃ (k : Nat) (z : Int) (ov : Bool), x = .int .u64 z ∧ o = .bool ov ∧ i = .int .i64 (k : Int) ∧ k ≤ s.size ∧ W = w ∧ Hid (IVn 16 (bl s) k z ov)) (fun _ _ i _ => s.size - (intOf i).toNat)
        case atStart => exact ⟨0, 0, false, rfl, rfl, rfl, Nat.zero_le _, rfl, Lib.hid ⟨by omega, by omega, by simp, fun _ => rfl, fun h => by cases h⟩⟩
        case round =>
          obtain ⟨k, z, ov, rfl, rfl, rfl, hk, rfl, hh⟩ := hrel
          by_cases hlt : k < s.size
          · have hx := idx9 hlt wr
            have HLT := Lib.hid (show k < (bl s).length from hlt)
            have h42 := dig42_16 ((bl s).getD k 0)
            obtain ⟨c, hc⟩ : ∃ c, c = (bl s).getD k 0 := ⟨_, rfl⟩
            rw [← hc] at hx h42
            have HC := Lib.hid hc
            clear hc
            by_cases hp : pb 16 c = true
            · rw [dgI, if_pos hp] at h42
              have hd := dgv_lt (b := 16) (.inr rfl) hp
              obtain ⟨dz, hdz⟩ : ∃ dz : Int, dz = (dgv c : Int) := ⟨_, rfl⟩
              rw [← hdz] at h42
              have d0 : 0 ≤ dz := by omega
              have d1 : dz < 16 := by omega
              obtain ⟨z0, z1, hall, hf, ht⟩ := hh.out
              have hall2 : ((bl s).take (k + 1)).all (pb 16) = true := by rw [all_take HLT.out, hall, ← HC.out, hp]; rfl
              have hvl : vl 16 0 ((bl s).take (k + 1)) = 16 * vl 16 0 ((bl s).take k) + dgv c := by rw [vl_take 16 HLT.out, ← HC.out]
              cases ov with
              | true =>
                have HN := Lib.hid (show ∀ z' : Int, 0 ≤ z' → z' < 18446744073709551616 → IVn 16 (bl s) (k + 1) z' true from fun z' a b => ⟨a, b, hall2, fun h => by (cases h), fun _ => by have := ht rfl; omega⟩)
                have HW := Lib.hid (show ∀ y : Int, 0 ≤ IntKind.u64.wrap y ∧ IntKind.u64.wrap y < 18446744073709551616 from fun y => by rw [IntKind.wrap_u64]; omega)
                clear hh hall hf ht hall2 hvl hdz hd
                go_wp2_with (go_at_call 130; refine (h42 _).mono ?_; rintro e w2 ⟨rfl, rfl⟩)
                go_roundw
                case rel => exact ⟨k + 1, _, true, rfl, rfl, by go_num, by omega, (by trivial), Lib.hid (HN.out _ (HW.out _).1 (HW.out _).2)⟩
                case measure => simp [intOf]; omega
              | false =>
                have hz := hf rfl
                by_cases hov : (18446744073709551615 - dz) / 16 < z
                · have HN := Lib.hid (show ∀ z' : Int, 0 ≤ z' → z' < 18446744073709551616 → IVn 16 (bl s) (k + 1) z' true from fun z' a b => ⟨a, b, hall2, fun h => by (cases h), fun _ => by omega⟩)
                  have HW := Lib.hid (show ∀ y : Int, 0 ≤ IntKind.u64.wrap y ∧ IntKind.u64.wrap y < 18446744073709551616 from fun y => by rw [IntKind.wrap_u64]; omega)
                  clear hh hall hf ht hall2 hvl hdz hd hz
                  go_wp2_with (go_at_call 130; refine (h42 _).mono ?_; rintro e w2 ⟨rfl, rfl⟩)
                  go_roundw
                  case rel => exact ⟨k + 1, _, true, rfl, rfl, by go_num, by omega, (by trivial), Lib.hid (HN.out _ (HW.out _).1 (HW.out _).2)⟩
                  case measure => simp [intOf]; omega
                · have hov2 : z ≤ (18446744073709551615 - dz) / 16 := by omega
                  have hex : 16 * z + dz < 18446744073709551616 := by omega
                  have HN := Lib.hid (show IVn 16 (bl s) (k + 1) (16 * z + dz) false from ⟨by omega, by omega, hall2, fun _ => by rw [hvl, hz, hdz]; omega, fun h => by (cases h)⟩)
                  clear hh hall hf ht hall2 hvl hdz hd hz hov
                  go_wp2_with (go_at_call 130; refine (h42 _).mono ?_; rintro e w2 ⟨rfl, rfl⟩)
                  go_roundw
                  case rel => exact ⟨k + 1, _, false, by first | rfl | (congr 1; omega), by rw [decide_eq_false (by omega)], by go_num, by omega, (by trivial), HN⟩
                  case measure => simp [intOf]; omega
            · have hp : pb 16 c = false := by simpa using hp
              rw [dgI, if_neg (by rw [hp]; simp)] at h42
              have HV := Lib.hid (show resU (numE 16 (bl s)) = .tuple #[.int .u64 0, .int .i64 6] by
                rw [numE_not (by rw [HNUM.out]; exact not_all HLT.out (by rw [← HC.out]; exact hp))]; rfl)
              clear hh hp
              go_wp2_with (go_at_call 130; refine (h42 _).mono ?_; rintro e w2 ⟨rfl, rfl⟩)
              go_ret2
              exact ⟨ret_v HV.out.symm, BK.refl _⟩
          · obtain rfl : k = s.size := by omega
            obtain ⟨z0, z1, hall, hf, ht⟩ := hh.out
            rw [List.take_of_length_le (Nat.le_of_eq (bl_len s))] at hall hf ht
            have hE : numE 16 (bl s) = if vl 16 0 (bl s) < 18446744073709551616 then .ok (vl 16 0 (bl s)) else .range := numE_of (by rw [HNUM.out]; exact hall)
            cases ov with
            | true =>
              have HV := Lib.hid (show resU (numE 16 (bl s)) = .tuple #[.int .u64 0, .int .i64 2] by
                rw [hE, if_neg (by have := ht rfl; omega)]; rfl)
              clear hh hall hf ht hE
              go_wp2_with fail
              go_ret2
              exact ⟨ret_v HV.out.symm, BK.refl _⟩
            | false =>
              have HV := Lib.hid (show resU (numE 16 (bl s)) = .tuple #[.int .u64 z, .int .i64 0] by
                rw [hE, if_pos (by have := hf rfl; omega), hf rfl]; rfl)
              clear hh hall hf ht hE
              go_wp2_with fail
              go_ret2
              exact ⟨ret_v HV.out.symm, BK.refl _⟩
    · have hnum : numB (pb 16) (bl s) = (bl s).all (pb 16) := by unfold numB; rw [hnl, decide_eq_false (fun h => hq (h48.2 h)), Bool.false_and]; simp
      have HNUM := Lib.hid hnum
      clear hnl hnum hb0 h48
      go_enter Tryz.func113, Tryz.ntmps113
      go_wp2_with fail
      clear hq
      go_loopw [6, 7, 8] (fun x o i W => ∃ (k : Nat) (z : Int) (ov : Bool), x = .int .u64 z ∧ o = .bool ov ∧ i = .int .i64 (k : Int) ∧ k ≤ s.size ∧ W = w ∧ Hid (IVn 16 (bl s) k z ov)) (fun _ _ i _ => s.size - (intOf i).toNat)
      case atStart => exact ⟨0, 0, false, rfl, rfl, rfl, Nat.zero_le _, rfl, Lib.hid ⟨by omega, by omega, by simp, fun _ => rfl, fun h => by cases h⟩⟩
      case round =>
        obtain ⟨k, z, ov, rfl, rfl, rfl, hk, rfl, hh⟩ := hrel
        by_cases hlt : k < s.size
        · have hx := idx9 hlt wr
          have HLT := Lib.hid (show k < (bl s).length from hlt)
          have h42 := dig42_16 ((bl s).getD k 0)
          obtain ⟨c, hc⟩ : ∃ c, c = (bl s).getD k 0 := ⟨_, rfl⟩
          rw [← hc] at hx h42
          have HC := Lib.hid hc
          clear hc
          by_cases hp : pb 16 c = true
          · rw [dgI, if_pos hp] at h42
            have hd := dgv_lt (b := 16) (.inr rfl) hp
            obtain ⟨dz, hdz⟩ : ∃ dz : Int, dz = (dgv c : Int) := ⟨_, rfl⟩
            rw [← hdz] at h42
            have d0 : 0 ≤ dz := by omega
            have d1 : dz < 16 := by omega
            obtain ⟨z0, z1, hall, hf, ht⟩ := hh.out
            have hall2 : ((bl s).take (k + 1)).all (pb 16) = true := by rw [all_take HLT.out, hall, ← HC.out, hp]; rfl
            have hvl : vl 16 0 ((bl s).take (k + 1)) = 16 * vl 16 0 ((bl s).take k) + dgv c := by rw [vl_take 16 HLT.out, ← HC.out]
            cases ov with
            | true =>
              have HN := Lib.hid (show ∀ z' : Int, 0 ≤ z' → z' < 18446744073709551616 → IVn 16 (bl s) (k + 1) z' true from fun z' a b => ⟨a, b, hall2, fun h => by (cases h), fun _ => by have := ht rfl; omega⟩)
              have HW := Lib.hid (show ∀ y : Int, 0 ≤ IntKind.u64.wrap y ∧ IntKind.u64.wrap y < 18446744073709551616 from fun y => by rw [IntKind.wrap_u64]; omega)
              clear hh hall hf ht hall2 hvl hdz hd
              go_wp2_with (go_at_call 130; refine (h42 _).mono ?_; rintro e w2 ⟨rfl, rfl⟩)
              go_roundw
              case rel => exact ⟨k + 1, _, true, rfl, rfl, by go_num, by omega, (by trivial), Lib.hid (HN.out _ (HW.out _).1 (HW.out _).2)⟩
              case measure => simp [intOf]; omega
            | false =>
              have hz := hf rfl
              by_cases hov : (18446744073709551615 - dz) / 16 < z
              · have HN := Lib.hid (show ∀ z' : Int, 0 ≤ z' → z' < 18446744073709551616 → IVn 16 (bl s) (k + 1) z' true from fun z' a b => ⟨a, b, hall2, fun h => by (cases h), fun _ => by omega⟩)
                have HW := Lib.hid (show ∀ y : Int, 0 ≤ IntKind.u64.wrap y ∧ IntKind.u64.wrap y < 18446744073709551616 from fun y => by rw [IntKind.wrap_u64]; omega)
                clear hh hall hf ht hall2 hvl hdz hd hz
                go_wp2_with (go_at_call 130; refine (h42 _).mono ?_; rintro e w2 ⟨rfl, rfl⟩)
                go_roundw
                case rel => exact ⟨k + 1, _, true, rfl, rfl, by go_num, by omega, (by trivial), Lib.hid (HN.out _ (HW.out _).1 (HW.out _).2)⟩
                case measure => simp [intOf]; omega
              · have hov2 : z ≤ (18446744073709551615 - dz) / 16 := by omega
                have hex : 16 * z + dz < 18446744073709551616 := by omega
                have HN := Lib.hid (show IVn 16 (bl s) (k + 1) (16 * z + dz) false from ⟨by omega, by omega, hall2, fun _ => by rw [hvl, hz, hdz]; omega, fun h => by (cases h)⟩)
                clear hh hall hf ht hall2 hvl hdz hd hz hov
                go_wp2_with (go_at_call 130; refine (h42 _).mono ?_; rintro e w2 ⟨rfl, rfl⟩)
                go_roundw
                case rel => exact ⟨k + 1, _, false, by first | rfl | (congr 1; omega), by rw [decide_eq_false (by omega)], by go_num, by omega, (by trivial), HN⟩
                case measure => simp [intOf]; omega
          · have hp : pb 16 c = false := by simpa using hp
            rw [dgI, if_neg (by rw [hp]; simp)] at h42
            have HV := Lib.hid (show resU (numE 16 (bl s)) = .tuple #[.int .u64 0, .int .i64 6] by
              rw [numE_not (by rw [HNUM.out]; exact not_all HLT.out (by rw [← HC.out]; exact hp))]; rfl)
            clear hh hp
            go_wp2_with (go_at_call 130; refine (h42 _).mono ?_; rintro e w2 ⟨rfl, rfl⟩)
            go_ret2
            exact ⟨ret_v HV.out.symm, BK.refl _⟩
        · obtain rfl : k = s.size := by omega
          obtain ⟨z0, z1, hall, hf, ht⟩ := hh.out
          rw [List.take_of_length_le (Nat.le_of_eq (bl_len s))] at hall hf ht
          have hE : numE 16 (bl s) = if vl 16 0 (bl s) < 18446744073709551616 then .ok (vl 16 0 (bl s)) else .range := numE_of (by rw [HNUM.out]; exact hall)
          cases ov with
          | true =>
            have HV := Lib.hid (show resU (numE 16 (bl s)) = .tuple #[.int .u64 0, .int .i64 2] by
              rw [hE, if_neg (by have := ht rfl; omega)]; rfl)
            clear hh hall hf ht hE
            go_wp2_with fail
            go_ret2
            exact ⟨ret_v HV.out.symm, BK.refl _⟩
          | false =>
            have HV := Lib.hid (show resU (numE 16 (bl s)) = .tuple #[.int .u64 z, .int .i64 0] by
              rw [hE, if_pos (by have := hf rfl; omega), hf rfl]; rfl)
            clear hh hall hf ht hE
            go_wp2_with fail
            go_ret2
            exact ⟨ret_v HV.out.symm, BK.refl _⟩
end Go.Proofs.YtneidfbgdgegjaaGreatDoor
