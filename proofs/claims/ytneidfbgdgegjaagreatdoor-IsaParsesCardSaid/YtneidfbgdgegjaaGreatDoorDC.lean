/- isNumeral. -/
import Derived.Test.YtneidfbgdgegjaaGreatDoorDB
namespace Go.Proofs.YtneidfbgdgegjaaGreatDoor
open Go.RowKit
set_option linter.unusedVariables false
set_option linter.unusedSimpArgs false
set_option maxRecDepth 100000 in
set_option maxHeartbeats 2000000 in
theorem num31d (s : ByteArray) (w : World) (hs : s.size ≤ 1000000) : Calls Tryz.prog 124 #[.string s, .func (.func 125) #[] #[]] w fun e w' => e = .returned (.bool (numB isDec (bl s))) ∧ w' = w := by
  have hlast : ∀ c : UInt8, ((c.toNat : Int) != 48) = (c != 48) := fun c => by
    rw [Bool.eq_iff_iff, bne_iff_ne, bne_iff_ne]
    constructor
    · intro h e; subst e; exact h rfl
    · intro h e; exact h (UInt8.toNat_inj.1 (by show c.toNat = 48; omega))
  have HL := Lib.hid hlast
  clear hlast
  go_enter Tryz.func124, Tryz.ntmps124
  go_wp2_with fail
  go_loopw [8] (fun x wr => ∃ k : Nat, x = .int .i64 (k : Int) ∧ k ≤ s.size ∧ wr = w ∧ ((bl s).take k).all isDec = true) (fun x _ => s.size - (intOf x).toNat)
  case atStart => exact ⟨0, rfl, Nat.zero_le _, rfl, by simp⟩
  case round =>
    obtain ⟨k, rfl, hk, rfl, ha⟩ := hrel
    by_cases hlt : k < s.size
    · have hx := idx9 hlt wr
      have hst : (bl s).take (k + 1) = (bl s).take k ++ [(bl s).getD k 0] := by
        rw [List.take_succ_eq_append_getElem (show k < (bl s).length from hlt), List.getD_eq_getElem?_getD, List.getElem?_eq_getElem (show k < (bl s).length from hlt)]
        rfl
      have HS := Lib.hid hst
      have HA := Lib.hid ha
      have hmem : (bl s).getD k 0 ∈ bl s := by
        rw [List.getD_eq_getElem?_getD, List.getElem?_eq_getElem (show k < (bl s).length from hlt)]
        exact List.getElem_mem (show k < (bl s).length from hlt)
      have HM := Lib.hid hmem
      clear hst ha hmem
      generalize (bl s).getD k 0 = c at hx HS HM
      by_cases hp : isDec c = true
      · go_wp2_with (go_at_call 125; refine (dec28 c _).mono ?_; rintro e w' ⟨rfl, rfl⟩)
        go_roundw
        case rel => exact ⟨k + 1, by go_num, by omega, (by trivial), by rw [HS.out, List.all_append, HA.out]; simp [hp]⟩
        case measure => simp [intOf]; omega
      · have hp : isDec c = false := by simpa using hp
        have hres : numB isDec (bl s) = false := by
          unfold numB
          have : (bl s).all isDec = false := by
            rw [List.all_eq_false]
            exact ⟨c, HM.out, by simp [hp]⟩
          rw [this]; rfl
        have HR := Lib.hid hres
        clear hres
        go_wp2_with (go_at_call 125; refine (dec28 c _).mono ?_; rintro e w' ⟨rfl, rfl⟩)
        go_ret
        exact ⟨ret_bool HR.out.symm, rfl⟩
    · obtain rfl : k = s.size := by omega
      have hall : (bl s).all isDec = true := by rwa [List.take_of_length_le (Nat.le_of_eq (bl_len s))] at ha
      have hres : numB isDec (bl s) = noLead (bl s) := by unfold numB; rw [hall]; rfl
      have HR := Lib.hid hres
      clear hall hres ha
      by_cases h0 : s = ⟨#[48]⟩
      · subst h0
        go_wp2_with fail
        go_ret
        exact ⟨rfl, rfl⟩
      · by_cases h1 : s = ⟨#[]⟩
        · subst h1
          go_wp2_with fail
          go_ret
          exact ⟨rfl, rfl⟩
        · have hpos : 0 < s.size := by
            rcases Nat.eq_zero_or_pos s.size with h | h
            · exfalso
              apply h1
              apply bl_inj
              exact List.eq_nil_of_length_eq_zero (by rw [bl_len, h])
            · exact h
          have hx := idx9 hpos wr
          rw [show ((0 : Nat) : Int) = 0 from rfl] at hx
          have hnl : noLead (bl s) = ((bl s).getD 0 0 != 48) := by
            have h0' : bl s ≠ [48] := fun h => h0 (bl_inj h)
            have h1' : bl s ≠ [] := fun h => h1 (bl_inj h)
            generalize bl s = l at h0' h1'
            cases l with
            | nil => exact absurd rfl h1'
            | cons c r =>
              unfold noLead
              have : ((c :: r) == [48]) = false := by rw [beq_eq_false_iff_ne]; exact h0'
              rw [this]
              rfl
          have HR2 := Lib.hid (HR.out.trans hnl)
          have d0 : (s.toList == [48]) = false := by rw [beq_eq_false_iff_ne, ByteArray.toList_eq]; exact fun h => h0 (bl_inj h)
          have d1 : s.toList.isEmpty = false := by rw [List.isEmpty_eq_false_iff, ByteArray.toList_eq]; exact fun h => h1 (bl_inj h)
          clear hnl
          generalize (bl s).getD 0 0 = c at hx HR2
          have HLc := Lib.hid (HL.out c)
          go_wp2_with fail
          all_goals go_ret
          all_goals exact ⟨ret_bool (by rw [HR2.out, ← HLc.out]), rfl⟩
set_option maxRecDepth 100000 in
set_option maxHeartbeats 2000000 in
theorem num31h (s : ByteArray) (w : World) (hs : s.size ≤ 1000000) : Calls Tryz.prog 124 #[.string s, .func (.func 128) #[] #[]] w fun e w' => e = .returned (.bool (numB isHex (bl s))) ∧ w' = w := by
  have hlast : ∀ c : UInt8, ((c.toNat : Int) != 48) = (c != 48) := fun c => by
    rw [Bool.eq_iff_iff, bne_iff_ne, bne_iff_ne]
    constructor
    · intro h e; subst e; exact h rfl
    · intro h e; exact h (UInt8.toNat_inj.1 (by show c.toNat = 48; omega))
  have HL := Lib.hid hlast
  clear hlast
  go_enter Tryz.func124, Tryz.ntmps124
  go_wp2_with fail
  go_loopw [8] (fun x wr => ∃ k : Nat, x = .int .i64 (k : Int) ∧ k ≤ s.size ∧ wr = w ∧ ((bl s).take k).all isHex = true) (fun x _ => s.size - (intOf x).toNat)
  case atStart => exact ⟨0, rfl, Nat.zero_le _, rfl, by simp⟩
  case round =>
    obtain ⟨k, rfl, hk, rfl, ha⟩ := hrel
    by_cases hlt : k < s.size
    · have hx := idx9 hlt wr
      have hst : (bl s).take (k + 1) = (bl s).take k ++ [(bl s).getD k 0] := by
        rw [List.take_succ_eq_append_getElem (show k < (bl s).length from hlt), List.getD_eq_getElem?_getD, List.getElem?_eq_getElem (show k < (bl s).length from hlt)]
        rfl
      have HS := Lib.hid hst
      have HA := Lib.hid ha
      have hmem : (bl s).getD k 0 ∈ bl s := by
        rw [List.getD_eq_getElem?_getD, List.getElem?_eq_getElem (show k < (bl s).length from hlt)]
        exact List.getElem_mem (show k < (bl s).length from hlt)
      have HM := Lib.hid hmem
      clear hst ha hmem
      generalize (bl s).getD k 0 = c at hx HS HM
      by_cases hp : isHex c = true
      · go_wp2_with (go_at_call 128; refine (hex30 c _).mono ?_; rintro e w' ⟨rfl, rfl⟩)
        go_roundw
        case rel => exact ⟨k + 1, by go_num, by omega, (by trivial), by rw [HS.out, List.all_append, HA.out]; simp [hp]⟩
        case measure => simp [intOf]; omega
      · have hp : isHex c = false := by simpa using hp
        have hres : numB isHex (bl s) = false := by
          unfold numB
          have : (bl s).all isHex = false := by
            rw [List.all_eq_false]
            exact ⟨c, HM.out, by simp [hp]⟩
          rw [this]; rfl
        have HR := Lib.hid hres
        clear hres
        go_wp2_with (go_at_call 128; refine (hex30 c _).mono ?_; rintro e w' ⟨rfl, rfl⟩)
        go_ret
        exact ⟨ret_bool HR.out.symm, rfl⟩
    · obtain rfl : k = s.size := by omega
      have hall : (bl s).all isHex = true := by rwa [List.take_of_length_le (Nat.le_of_eq (bl_len s))] at ha
      have hres : numB isHex (bl s) = noLead (bl s) := by unfold numB; rw [hall]; rfl
      have HR := Lib.hid hres
      clear hall hres ha
      by_cases h0 : s = ⟨#[48]⟩
      · subst h0
        go_wp2_with fail
        go_ret
        exact ⟨rfl, rfl⟩
      · by_cases h1 : s = ⟨#[]⟩
        · subst h1
          go_wp2_with fail
          go_ret
          exact ⟨rfl, rfl⟩
        · have hpos : 0 < s.size := by
            rcases Nat.eq_zero_or_pos s.size with h | h
            · exfalso
              apply h1
              apply bl_inj
              exact List.eq_nil_of_length_eq_zero (by rw [bl_len, h])
            · exact h
          have hx := idx9 hpos wr
          rw [show ((0 : Nat) : Int) = 0 from rfl] at hx
          have hnl : noLead (bl s) = ((bl s).getD 0 0 != 48) := by
            have h0' : bl s ≠ [48] := fun h => h0 (bl_inj h)
            have h1' : bl s ≠ [] := fun h => h1 (bl_inj h)
            generalize bl s = l at h0' h1'
            cases l with
            | nil => exact absurd rfl h1'
            | cons c r =>
              unfold noLead
              have : ((c :: r) == [48]) = false := by rw [beq_eq_false_iff_ne]; exact h0'
              rw [this]
              rfl
          have HR2 := Lib.hid (HR.out.trans hnl)
          have d0 : (s.toList == [48]) = false := by rw [beq_eq_false_iff_ne, ByteArray.toList_eq]; exact fun h => h0 (bl_inj h)
          have d1 : s.toList.isEmpty = false := by rw [List.isEmpty_eq_false_iff, ByteArray.toList_eq]; exact fun h => h1 (bl_inj h)
          clear hnl
          generalize (bl s).getD 0 0 = c at hx HR2
          have HLc := Lib.hid (HL.out c)
          go_wp2_with fail
          all_goals go_ret
          all_goals exact ⟨ret_bool (by rw [HR2.out, ← HLc.out]), rfl⟩
end Go.Proofs.YtneidfbgdgegjaaGreatDoor
