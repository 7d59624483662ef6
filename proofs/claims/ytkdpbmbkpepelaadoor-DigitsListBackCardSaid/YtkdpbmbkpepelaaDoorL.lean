/- The reference's Parse and ParseInt. -/
import Derived.Test.YtkdpbmbkpepelaaDoorK
namespace Go.Proofs.YtkdpbmbkpepelaaDoor
open Go.RowKit
set_option linter.unusedVariables false
set_option linter.unusedSimpArgs false
theorem ext_tail (s : ByteArray) (k : Nat) (n : Nat) (h : s.size ≤ n) : bl (s.extract k n) = (bl s).drop k := by
  rw [bl_extract, List.take_of_length_le (by rw [List.length_drop, bl_len]; omega)]
theorem ext_head (s : ByteArray) (k : Nat) : bl (s.extract 0 k) = (bl s).take k := by
  rw [bl_extract]; rfl
theorem ext_size (s : ByteArray) (k n : Nat) : (s.extract k n).size ≤ s.size := by
  rw [← bl_len, bl_extract, List.length_take, List.length_drop, bl_len]; omega
theorem resU_shape (n : Lib.NumEnd Nat) : ∃ (a : Int) (b : Int), resU n = .tuple #[.int .u64 a, .int .i64 b] := by
  cases n <;> exact ⟨_, _, rfl⟩
theorem resI_shape (n : Lib.NumEnd Int) : ∃ (a : Int) (b : Int), resI n = .tuple #[.int .i64 a, .int .i64 b] := by
  cases n <;> exact ⟨_, _, rfl⟩
set_option maxRecDepth 100000 in
set_option maxHeartbeats 4000000 in
theorem rparse17 (s : ByteArray) (hs : s.size ≤ 1000000) (w : World) : Calls Tryd.prog 17 #[.string s] w fun e w' => e = .returned (resU (parseS (bl s))) ∧ BK w w' := by
  go_enter Tryd.func17, Tryd.ntmps17
  go_wp2_with fail
  · rename_i h1 h2 _ _ _ _
    have h16 := number33_16 (s.extract 2 s.size) (Nat.le_trans (ext_size _ _ _) hs) w
    obtain ⟨a, b, hab⟩ := resU_shape (numE 16 (bl (s.extract 2 s.size)))
    rw [hab] at h16
    have HV := Lib.hid (show resU (parseS (bl s)) = .tuple #[.int .u64 a, .int .i64 b] by
      rw [← hab, ext_tail _ _ _ (Nat.le_refl _)]
      have h2 : (s.extract 0 2).toList = [48, 120] := by simpa using h2
      rw [ByteArray.toList_eq] at h2
      have h2 : bl (s.extract 0 2) = [48, 120] := h2
      rw [ext_head] at h2
      unfold parseS
      rw [if_pos h2])
    clear hab h1 h2
    refine h16.mono ?_
    rintro e w' ⟨rfl, hb⟩
    have HB := Lib.hid hb
    clear hb
    go_wp2_with fail
    go_ret2
    exact ⟨ret_v HV.out.symm, HB.out⟩
  · rename_i h1 h2 _ _ _ _
    have h16 := number33_10 s hs w
    obtain ⟨a, b, hab⟩ := resU_shape (numE 10 (bl s))
    rw [hab] at h16
    have HV := Lib.hid (show resU (parseS (bl s)) = .tuple #[.int .u64 a, .int .i64 b] by
      rw [← hab]
      have h2 : (s.extract 0 2).toList ≠ [48, 120] := by simpa using h2
      rw [ByteArray.toList_eq] at h2
      have h2 : bl (s.extract 0 2) ≠ [48, 120] := h2
      rw [ext_head] at h2
      unfold parseS
      rw [if_neg h2])
    clear hab h1 h2
    refine h16.mono ?_
    rintro e w' ⟨rfl, hb⟩
    have HB := Lib.hid hb
    clear hb
    go_wp2_with fail
    go_ret2
    exact ⟨ret_v HV.out.symm, HB.out⟩
  · rename_i h1
    have h16 := number33_10 s hs w
    obtain ⟨a, b, hab⟩ := resU_shape (numE 10 (bl s))
    rw [hab] at h16
    have HV := Lib.hid (show resU (parseS (bl s)) = .tuple #[.int .u64 a, .int .i64 b] by
      rw [← hab]
      have hl : (bl s).length ≤ 2 := by rw [bl_len]; omega
      unfold parseS
      split
      · rename_i h2
        rw [List.take_of_length_le hl] at h2
        rw [h2]
        rfl
      · rfl)
    clear hab h1
    refine h16.mono ?_
    rintro e w' ⟨rfl, hb⟩
    have HB := Lib.hid hb
    clear hb
    go_wp2_with fail
    go_ret2
    exact ⟨ret_v HV.out.symm, HB.out⟩
theorem parseI_neg (l : List UInt8) : parseI (45 :: l) = neg (numE 10 l) := by
  show (if ([45] : List UInt8) = [45] then neg (numE 10 l) else pos (numE 10 (45 :: l))) = _
  rw [if_pos rfl]
theorem parseI_pos (c : UInt8) (l : List UInt8) (h : c ≠ 45) : parseI (c :: l) = pos (numE 10 (c :: l)) := by
  show (if ([c] : List UInt8) = [45] then neg (numE 10 l) else pos (numE 10 (c :: l))) = _
  rw [if_neg (fun e => h (List.cons.inj e).1)]
theorem bl_cons {s : ByteArray} (h : 0 < s.size) : bl s = (s.data[0]'h) :: bl (s.extract 1 s.size) := by
  rw [ext_tail _ _ _ (Nat.le_refl _)]
  have h' : 0 < (bl s).length := h
  have e : (bl s)[0]'h' = s.data[0]'h := by
    show s.data.toList[0]'h' = s.data[0]'h
    simp
  rw [← e]
  generalize bl s = l at h'
  cases l with
  | nil => simp at h'
  | cons c r => rfl
set_option maxRecDepth 100000 in
set_option maxHeartbeats 4000000 in
theorem rpint19 (s : ByteArray) (hs : s.size ≤ 1000000) (w : World) : Calls Tryd.prog 19 #[.string s] w fun e w' => e = .returned (resI (parseI (bl s))) ∧ BK w w' := by
  rcases Nat.eq_zero_or_pos s.size with h0 | h0
  · have hE : bl s = [] := List.eq_nil_of_length_eq_zero (by rw [bl_len, h0])
    have H33 := number33_10 s hs w
    rw [hE] at H33
    have H33 : Calls Tryd.prog 33 #[.string s, .int .u64 10] w fun e w' => e = .returned (.tuple #[.int .u64 0, .int .i64 6]) ∧ BK w w' := H33
    have HV := Lib.hid (show resI (parseI (bl s)) = .tuple #[.int .i64 0, .int .i64 6] by rw [hE]; rfl)
    have i0 : (s.size : Int) = 0 := by omega
    clear h0 hE
    go_enter Tryd.func19, Tryd.ntmps19
    go_wp2_with (go_at_call 33; refine H33.mono ?_; rintro e w' ⟨rfl, hb⟩; have HB := Lib.hid hb; clear hb)
    go_ret2
    exact ⟨ret_v HV.out.symm, HB.out⟩
  · have hcons := bl_cons h0
    have hi0 : (0 : Int) < (s.size : Int) := by omega
    by_cases hm : ((s.data[0]'h0).toNat : Int) = 45
    · have hmb : (((s[0]'h0).toNat : Int) == 45) = true := by rw [beq_iff_eq]; exact hm
      have hc : (s.data[0]'h0) = 45 := UInt8.toNat_inj.1 (by show (s.data[0]'h0).toNat = 45; omega)
      rw [hc] at hcons
      have hI : parseI (bl s) = neg (numE 10 (bl (s.extract 1 s.size))) := by
        rw [hcons]; exact parseI_neg _
      have H33 := number33_10 (s.extract 1 s.size) (Nat.le_trans (ext_size _ _ _) hs) w
      cases hq : numE 10 (bl (s.extract 1 s.size)) with
      | «syntax» =>
        rw [hq] at H33 hI
        have H33 : Calls Tryd.prog 33 #[.string (s.extract 1 s.size), .int .u64 10] w fun e w' => e = .returned (.tuple #[.int .u64 0, .int .i64 6]) ∧ BK w w' := H33
        have HV := Lib.hid (show resI (parseI (bl s)) = .tuple #[.int .i64 0, .int .i64 6] by rw [hI]; rfl)
        clear hI hcons hc hq
        go_enter Tryd.func19, Tryd.ntmps19
        go_wp2_with (go_at_call 33; refine H33.mono ?_; rintro e w' ⟨rfl, hb⟩; have HB := Lib.hid hb; clear hb)
        go_ret2
        exact ⟨ret_v HV.out.symm, HB.out⟩
      | range =>
        rw [hq] at H33 hI
        have H33 : Calls Tryd.prog 33 #[.string (s.extract 1 s.size), .int .u64 10] w fun e w' => e = .returned (.tuple #[.int .u64 0, .int .i64 2]) ∧ BK w w' := H33
        have HV := Lib.hid (show resI (parseI (bl s)) = .tuple #[.int .i64 0, .int .i64 2] by rw [hI]; rfl)
        clear hI hcons hc hq
        go_enter Tryd.func19, Tryd.ntmps19
        go_wp2_with (go_at_call 33; refine H33.mono ?_; rintro e w' ⟨rfl, hb⟩; have HB := Lib.hid hb; clear hb)
        go_ret2
        exact ⟨ret_v HV.out.symm, HB.out⟩
      | ok x =>
        rw [hq] at H33 hI
        have hx := (numE_ok hq).2.2
        have hI : parseI (bl s) = if x = 0 then .syntax else if x ≤ 9223372036854775808 then .ok (-(x : Int)) else .range := hI
        obtain ⟨a, ha⟩ : ∃ a : Int, a = (x : Int) := ⟨_, rfl⟩
        have H33 : Calls Tryd.prog 33 #[.string (s.extract 1 s.size), .int .u64 10] w fun e w' => e = .returned (.tuple #[.int .u64 (x : Int), .int .i64 0]) ∧ BK w w' := H33
        rw [← ha] at H33
        by_cases hx0 : x = 0
        · have HV := Lib.hid (show resI (parseI (bl s)) = .tuple #[.int .i64 0, .int .i64 6] by rw [hI, if_pos hx0]; rfl)
          obtain rfl : a = 0 := by omega
          clear hI hcons hc hq hx ha hx0
          go_enter Tryd.func19, Tryd.ntmps19
          go_wp2_with (go_at_call 33; refine H33.mono ?_; rintro e w' ⟨rfl, hb⟩; have HB := Lib.hid hb; clear hb)
          go_ret2
          exact ⟨ret_v HV.out.symm, HB.out⟩
        · by_cases hx1 : x ≤ 9223372036854775808
          · have HV := Lib.hid (show resI (parseI (bl s)) = .tuple #[.int .i64 (-a), .int .i64 0] by rw [hI, if_neg hx0, if_pos hx1, ha]; rfl)
            have a0 : a ≠ 0 := by omega
            have a1 : a ≤ 9223372036854775808 := by omega
            have a2 : 0 ≤ a := by omega
            have HW := Lib.hid (show wrap64 (-wrap64 a) = -a by unfold wrap64; omega)
            clear hI hcons hc hq hx ha hx0 hx1
            go_enter Tryd.func19, Tryd.ntmps19
            go_wp2_with (go_at_call 33; refine H33.mono ?_; rintro e w' ⟨rfl, hb⟩; have HB := Lib.hid hb; clear hb)
            go_ret2
            exact ⟨by rw [HV.out]; exact congrArg (fun z => Ending.returned (.tuple #[.int .i64 z, .int .i64 0])) HW.out, HB.out⟩
          · have HV := Lib.hid (show resI (parseI (bl s)) = .tuple #[.int .i64 0, .int .i64 2] by rw [hI, if_neg hx0, if_neg hx1]; rfl)
            have a0 : a ≠ 0 := by omega
            have a1 : 9223372036854775808 < a := by omega
            clear hI hcons hc hq hx ha hx0 hx1
            go_enter Tryd.func19, Tryd.ntmps19
            go_wp2_with (go_at_call 33; refine H33.mono ?_; rintro e w' ⟨rfl, hb⟩; have HB := Lib.hid hb; clear hb)
            go_ret2
            exact ⟨ret_v HV.out.symm, HB.out⟩
    · have hmb : (((s[0]'h0).toNat : Int) == 45) = false := by rw [beq_eq_false_iff_ne]; exact hm
      have hI : parseI (bl s) = pos (numE 10 (bl s)) := by
        rw [hcons]
        exact parseI_pos _ _ (fun e => hm (by rw [e]; rfl))
      have H33 := number33_10 s hs w
      cases hq : numE 10 (bl s) with
      | «syntax» =>
        rw [hq] at H33 hI
        have H33 : Calls Tryd.prog 33 #[.string s, .int .u64 10] w fun e w' => e = .returned (.tuple #[.int .u64 0, .int .i64 6]) ∧ BK w w' := H33
        have HV := Lib.hid (show resI (parseI (bl s)) = .tuple #[.int .i64 0, .int .i64 6] by rw [hI]; rfl)
        clear hI hcons hq
        go_enter Tryd.func19, Tryd.ntmps19
        go_wp2_with (go_at_call 33; refine H33.mono ?_; rintro e w' ⟨rfl, hb⟩; have HB := Lib.hid hb; clear hb)
        go_ret2
        exact ⟨ret_v HV.out.symm, HB.out⟩
      | range =>
        rw [hq] at H33 hI
        have H33 : Calls Tryd.prog 33 #[.string s, .int .u64 10] w fun e w' => e = .returned (.tuple #[.int .u64 0, .int .i64 2]) ∧ BK w w' := H33
        have HV := Lib.hid (show resI (parseI (bl s)) = .tuple #[.int .i64 0, .int .i64 2] by rw [hI]; rfl)
        clear hI hcons hq
        go_enter Tryd.func19, Tryd.ntmps19
        go_wp2_with (go_at_call 33; refine H33.mono ?_; rintro e w' ⟨rfl, hb⟩; have HB := Lib.hid hb; clear hb)
        go_ret2
        exact ⟨ret_v HV.out.symm, HB.out⟩
      | ok x =>
        rw [hq] at H33 hI
        have hx := (numE_ok hq).2.2
        have hI : parseI (bl s) = if x < 9223372036854775808 then .ok (x : Int) else .range := hI
        obtain ⟨a, ha⟩ : ∃ a : Int, a = (x : Int) := ⟨_, rfl⟩
        have H33 : Calls Tryd.prog 33 #[.string s, .int .u64 10] w fun e w' => e = .returned (.tuple #[.int .u64 (x : Int), .int .i64 0]) ∧ BK w w' := H33
        rw [← ha] at H33
        by_cases hx1 : x < 9223372036854775808
        · have HV := Lib.hid (show resI (parseI (bl s)) = .tuple #[.int .i64 a, .int .i64 0] by rw [hI, if_pos hx1, ha]; rfl)
          have a1 : a ≤ 9223372036854775807 := by omega
          have a2 : 0 ≤ a := by omega
          have hwr : IntKind.i64.wrap a = a := by rw [IntKind.wrap_i64]; omega
          clear hI hcons hq hx ha hx1
          go_enter Tryd.func19, Tryd.ntmps19
          go_wp2_with (go_at_call 33; refine H33.mono ?_; rintro e w' ⟨rfl, hb⟩; have HB := Lib.hid hb; clear hb)
          go_ret2
          exact ⟨ret_v HV.out.symm, HB.out⟩
        · have HV := Lib.hid (show resI (parseI (bl s)) = .tuple #[.int .i64 0, .int .i64 2] by rw [hI, if_neg hx1]; rfl)
          have a1 : 9223372036854775807 < a := by omega
          clear hI hcons hq hx ha hx1
          go_enter Tryd.func19, Tryd.ntmps19
          go_wp2_with (go_at_call 33; refine H33.mono ?_; rintro e w' ⟨rfl, hb⟩; have HB := Lib.hid hb; clear hb)
          go_ret2
          exact ⟨ret_v HV.out.symm, HB.out⟩
end Go.Proofs.YtkdpbmbkpepelaaDoor
