/- The reference's Parse and ParseInt. -/
import Derived.Test.YtneidfbgdgegjaaGreatDoorDK
namespace Go.Proofs.YtneidfbgdgegjaaGreatDoor
open Go.RowKit
set_option linter.unusedVariables false
set_option linter.unusedSimpArgs false
theorem ext_tail (s : ByteArray) (k : Nat) (n : Nat) (h : s.size ≤ n) : bl (s.extract k n) = (bl s).drop k := by
  rw [bl_extract, List.take_of_length_le (by rw [List.length_drop, bl_len]; omega)]
theorem ext_head (s : ByteArray) (k : Nat) : bl (s.extract 0 k) = (bl s).take k := by
  rw [bl_extract]; rfl
theorem ext_size (s : ByteArray) (k n : Nat) : (s.extract k n).size ≤ s.size := by
  rw [← bl_len, bl_extract, List.length_take, List.length_drop, bl_len]; omega
theorem resU_shape (n : Lib.NumEnd Nat) : ∃ (a : Int) (b : Int), resU n = .tuple #[.int .u64 a, .int .i64 b] := by
  cases n <;> exact ⟨_, _, rfl⟩
theorem resI_shape (n : Lib.NumEnd Int) : ∃ (a : Int) (b : Int), resI n = .tuple #[.int .i64 a, .int .i64 b] := by
  cases n <;> exact ⟨_, _, rfl⟩
set_option maxRecDepth 100000 in
set_option maxHeartbeats 4000000 in
theorem rparse17 (s : ByteArray) (hs : s.size ≤ 1000000) (w : World) : Calls Tryz.prog 100 #[.string s] w fun e w' => e = .returned (resU (parseS (bl s))) ∧ BK w w' := by
  go_enter Tryz.func100, Tryz.ntmps100
  go_wp2_with fail
  · rename_i h1 h2 _ _ _ _
    have h16 := number33_16 (s.extract 2 s.size) (Nat.le_trans (ext_size _ _ _) hs) w
    obtain ⟨a, b, hab⟩ := resU_shape (numE 16 (bl (s.extract 2 s.size)))
    rw [hab] at h16
    have HV := Lib.hid (show resU (parseS (bl s)) = .tuple #[.int .u64 a, .int .i64 b] by
      rw [← hab, ext_tail _ _ _ (Nat.le_refl _)]
      have h2 : (s.extract 0 2).toList = [48, 120] := by simpa using h2
      rw [ByteArray.toList_eq] at h2
      have h2 : bl (s.extract 0 2) = [48, 120] := h2
      rw [ext_head] at h2
      unfold parseS
      rw [if_pos h2])
    clear hab h1 h2
    refine h16.mono ?_
    rintro e w' ⟨rfl, hb⟩
    have HB := Lib.hid hb
    clear hb
    go_wp2_with fail
    go_ret2
    exact ⟨ret_v HV.out.symm, HB.out⟩
  · rename_i h1 h2 _ _ _ _
    have h16 := number33_10 s hs w
    obtain ⟨a, b, hab⟩ := resU_shape (numE 10 (bl s))
    rw [hab] at h16
    have HV := Lib.hid (show resU (parseS (bl s)) = .tuple #[.int .u64 a, .int .i64 b] by
      rw [← hab]
      have h2 : (s.extract 0 2).toList ≠ [48, 120] := by simpa using h2
      rw [ByteArray.toList_eq] at h2
      have h2 : bl (s.extract 0 2) ≠ [48, 120] := h2
      rw [ext_head] at h2
      unfold parseS
      rw [if_neg h2])
    clear hab h1 h2
    refine h16.mono ?_
    rintro e w' ⟨rfl, hb⟩
    have HB := Lib.hid hb
    clear hb
    go_wp2_with fail
    go_ret2
    exact ⟨ret_v HV.out.symm, HB.out⟩
  · rename_i h1
    have h16 := number33_10 s hs w
    obtain ⟨a, b, hab⟩ := resU_shape (numE 10 (bl s))
    rw [hab] at h16
    have HV := Lib.hid (show resU (parseS (bl s)) = .tuple #[.int .u64 a, .int .i64 b] by
      rw [← hab]
      have hl : (bl s).length ≤ 2 := by rw [bl_len]; omega
      unfold parseS
      split
      · rename_i h2
        rw [List.take_of_length_le hl] at h2
        rw [h2]
        rfl
      · rfl)
    clear hab h1
    refine h16.mono ?_
    rintro e w' ⟨rfl, hb⟩
    have HB := Lib.hid hb
    clear hb
    go_wp2_with fail
    go_ret2
    exact ⟨ret_v HV.out.symm, HB.out⟩
theorem parseI_neg (l : List UInt8) : parseI (45 :: l) = neg (numE 10 l) := by
  show (if ([45] : List UInt8) = [45] then neg (numE 10 l) else pos (numE 10 (45 :: l))) = _
  rw [if_pos rfl]
theorem parseI_pos (c : UInt8) (l : List UInt8) (h : c ≠ 45) : parseI (c :: l) = pos (numE 10 (c :: l)) := by
  show (if ([c] : List UInt8) = [45] then neg (numE 10 l) else pos (numE 10 (c :: l))) = _
  rw [if_neg (fun e => h (List.cons.inj e).1)]
theorem bl_cons {s : ByteArray} (h : 0 < s.size) : bl s = (s.data[0]'h) :: bl (s.extract 1 s.size) := by
  rw [ext_tail _ _ _ (Nat.le_refl _)]
  have h' : 0 < (bl s).length := h
  have e : (bl s)[0]'h' = s.data[0]'h := by
    show s.data.toList[0]'h' = s.data[0]'h
    simp
  rw [← e]
  generalize bl s = l at h'
  cases l with
  | nil => simp at h'
  | cons c r => rfl
end Go.Proofs.YtneidfbgdgegjaaGreatDoor
