/- Names of operators. -/
import Derived.Test.YtngmhgcnohgaiaaDoorF
namespace Go.Proofs.YtngmhgcnohgaiaaDoor
open Go.RowKit
set_option linter.unusedVariables false
/-- the names, NoOp's empty one ahead -/
def tab : List (List UInt8) := [[], [118, 97, 114], [99, 111, 110, 115, 116], [110, 111, 116], [110, 101, 103], [97, 110, 100], [111, 114], [120, 111, 114], [97, 100, 100], [115, 117, 98], [109, 117, 108], [117, 100, 105, 118], [117, 114, 101, 109], [115, 104, 108], [108, 115, 104, 114], [97, 115, 104, 114], [101, 113], [117, 108, 116], [115, 108, 116], [105, 116, 101], [99, 111, 110, 99, 97, 116], [101, 120, 116, 114, 97, 99, 116], [122, 101, 120, 116], [115, 101, 120, 116], [104, 111, 108, 101], [110, 117, 109], [101, 118, 97, 108]]
/-- the name of operator k -/
def nameAt (k : Nat) : ByteArray := ⟨(tab.getD k []).toArray⟩
def nameB (op : Int) : ByteArray := if isOpB op = true then nameAt op.toNat else ByteArray.empty
/-- the table stands where the program lays it -/
def Tab (w : World) : Prop := ∀ k, k < 27 → w.cell? ⟨0, k, none⟩ = some (.string (nameAt k))
theorem tab_len : tab.length = 27 := rfl
theorem tab_at (n : Nat) (h : n < (tab.map fun l => Value.string ⟨l.toArray⟩).length) : (tab.map fun l => Value.string ⟨l.toArray⟩)[n] = .string (nameAt n) := by
  have h' : n < tab.length := by simpa using h
  simp [nameAt, List.getD_eq_getElem?_getD, h']
theorem ret_str {a b : ByteArray} (h : a = b) : Ending.returned (.string a) = .returned (.string b) := by rw [h]
set_option maxHeartbeats 400000 in
theorem name_any (op : Int) (w : World) (ht : Hid (Tab w)) : Calls Tryd.prog 7 #[.int .i64 op] w fun e w' => e = .returned (.string (nameB op)) ∧ w = w' := by
  rcases Bool.eq_false_or_eq_true (isOpB op) with ho | ho
  · have hr : 0 < op ∧ op < 27 := by unfold isOpB at ho; exact of_decide_eq_true ho
    obtain ⟨n, rfl⟩ := Int.eq_ofNat_of_zero_le (show 0 ≤ op by omega)
    have hc := ht.out n (by omega)
    have h1 : n < 27 := by omega
    go_enter Tryd.func7, Tryd.ntmps7
    go_wp2_with (go_at_call 11; refine (isOp_any _ _).mono ?_; rintro e w' ⟨rfl, rfl⟩)
    go_ret
    exact ⟨ret_str (by unfold nameB; rw [if_pos ho]; rfl), rfl⟩
  · go_enter Tryd.func7, Tryd.ntmps7
    go_wp2_with (go_at_call 11; refine (isOp_any _ _).mono ?_; rintro e w' ⟨rfl, rfl⟩)
    go_ret
    exact ⟨ret_str (by unfold nameB; rw [if_neg (by simp [ho])]; rfl), rfl⟩
set_option maxHeartbeats 400000 in
theorem rname_any (op : Int) (w : World) : Calls Tryd.prog 8 #[.int .i64 op] w fun e w' => e = .returned (.string (nameB op)) ∧ Up w w' := by
  rcases Bool.eq_false_or_eq_true (isOpB op) with ho | ho
  · have hr : 0 < op ∧ op < 27 := by unfold isOpB at ho; exact of_decide_eq_true ho
    obtain ⟨n, rfl⟩ := Int.eq_ofNat_of_zero_le (show 0 ≤ op by omega)
    have h1 : n < 27 := by omega
    have h2 : 0 < n := by omega
    have ho' := Lib.hid ho
    clear hr ho
    go_enter Tryd.func8, Tryd.ntmps8
    go_wp2
    all_goals go_ret
    all_goals refine ⟨?_, (Up.refl _).alloc _ _⟩
    refine congrArg Ending.returned ((tab_at n (by simp [tab_len]; omega)).trans ?_)
    unfold nameB; rw [if_pos ho'.out]; rfl
  · have hr : op < 1 ∨ 26 < op := by unfold isOpB at ho; have := of_decide_eq_false ho; omega
    have ho' := Lib.hid ho
    clear ho
    rcases hr with hr | hr
    all_goals
      go_enter Tryd.func8, Tryd.ntmps8
      go_wp2
      go_ret
      exact ⟨ret_str (by unfold nameB; rw [if_neg (by simp [ho'.out])]; rfl), (Up.refl _).alloc _ _⟩
def ofL (s : ByteArray) : Int × Bool := match (List.range 26).find? fun j => decide (nameAt (j + 1) = s) with
  | some j => ((j : Int) + 1, true)
  | none => (0, false)
def Miss (s : ByteArray) (k : Nat) : Prop := ∀ j, j < k → ¬ nameAt (j + 1) = s
theorem of_miss {s : ByteArray} (h : Miss s 26) : ofL s = (0, false) := by
  unfold ofL
  have : (List.range 26).find? (fun j => decide (nameAt (j + 1) = s)) = none := by
    rw [List.find?_eq_none]; intro j hj; have := h j (by simpa using hj); simpa using this
  rw [this]
theorem of_hit {s : ByteArray} {k : Nat} (hk : k < 26) (h : Miss s k) (hs : nameAt (k + 1) = s) : ofL s = ((k : Int) + 1, true) := by
  unfold ofL
  have : (List.range 26).find? (fun j => decide (nameAt (j + 1) = s)) = some k := by
    rw [List.find?_range_eq_some]
    refine ⟨by simpa using hs, by simpa using hk, fun j hj => ?_⟩
    have := h j hj; simpa using this
  rw [this]
theorem miss_succ {s : ByteArray} {k : Nat} (h : Miss s k) (hs : ¬ nameAt (k + 1) = s) : Miss s (k + 1) := fun j hj => by
  by_cases e : j = k
  · subst e; exact hs
  · exact h j (by omega)
theorem nameB_at (k : Nat) (hk : k < 26) : nameB ((k : Int) + 1) = nameAt (k + 1) := by
  unfold nameB isOpB; rw [if_pos (by apply decide_eq_true; omega)]; congr 1
theorem str_eq {a b : ByteArray} (h : (a.toList == b.toList) = true) : a = b := by
  have h1 := beq_iff_eq.1 h
  rw [ByteArray.toList_eq, ByteArray.toList_eq] at h1
  exact ByteArray.ext (Array.ext' h1)
theorem str_ne {a b : ByteArray} (h : (a.toList == b.toList) = false) : ¬ a = b := fun e => by
  subst e; simp at h
theorem ret2b {a : Int} {b : Bool} {p : Int × Bool} (h : p = (a, b)) : Ending.returned (.tuple #[.int .i64 a, .bool b]) = .returned (.tuple #[.int .i64 p.1, .bool p.2]) := by rw [h]
set_option maxHeartbeats 1000000 in
theorem rof_any (s : ByteArray) (w : World) : Calls Tryd.prog 6 #[.string s] w fun e w' => e = .returned (.tuple #[.int .i64 (ofL s).1, .bool (ofL s).2]) ∧ Up w w' := by
  go_enter Tryd.func6, Tryd.ntmps6
  go_wp2_with fail
  go_loopw [4] (fun i wr => ∃ k : Nat, k ≤ 26 ∧ i = .int .i64 ((k : Int) + 1) ∧ Miss s k ∧ Up w wr) (fun i _ => 27 - (intOf i).toNat)
  case atStart => exact ⟨0, by omega, rfl, fun j hj => by omega, Up.refl _⟩
  case round =>
    obtain ⟨k, hk, rfl, hm, hu⟩ := hrel
    by_cases hlt : k < 26
    · have hn := Lib.hid (nameB_at k hlt)
      have hm' := Lib.hid hm
      clear hm
      go_wp2_with fail
      refine (rname_any _ _).mono ?_
      rintro e w1 ⟨rfl, hu1⟩
      rw [hn.out]
      go_wp2_with fail
      · have h : ((nameAt (k + 1)).toList == s.toList) = true := by assumption
        go_ret2
        exact ⟨ret2b (by rw [of_hit hlt hm'.out (str_eq h)]), hu.trans hu1⟩
      · have h : ((nameAt (k + 1)).toList == s.toList) = false := by assumption
        go_roundw
        case rel => exact ⟨k + 1, by omega, by go_num, miss_succ hm'.out (str_ne h), hu.trans hu1⟩
        case measure => simp [intOf]; omega
    · obtain rfl : k = 26 := by omega
      go_wp2_with fail
      go_ret2
      exact ⟨ret2b (by rw [of_miss hm]), hu⟩
set_option maxHeartbeats 1000000 in
theorem of_any (s : ByteArray) (w : World) (ht : Hid (Tab w)) (hw : 0 < w.heap.size) : Calls Tryd.prog 5 #[.string s] w fun e w' => e = .returned (.tuple #[.int .i64 (ofL s).1, .bool (ofL s).2]) ∧ Below w.heap.size w w' := by
  go_enter Tryd.func5, Tryd.ntmps5
  go_wp2_with fail
  refine (ops_any _).mono ?_
  rintro e w1 ⟨v, rfl, hown, hb⟩
  obtain ⟨g, cap, hv, hl, hc⟩ := row_open hown (by omega)
  have hc' : ∀ k, k < 26 → w1.cell? ⟨g, k, none⟩ = some (.int .i64 ((k : Int) + 1)) := fun k hk => by
    rw [hc k hk]; simp [upto, hk]
  rw [hv]
  clear hv hown hc hl
  go_wp2_with fail
  have ht1 : Hid (Tab w1) := Lib.hid fun k hk => by rw [hb.cell (p := ⟨0, k, none⟩) hw]; exact ht.out k hk
  go_loop [8] (fun i => ∃ k : Nat, k ≤ 26 ∧ i = .int .i64 k ∧ Miss s k) (fun i => 26 - (intOf i).toNat)
  case atStart => exact ⟨0, by omega, rfl, fun j hj => by omega⟩
  case round =>
    obtain ⟨k, hk, rfl, hm⟩ := hrel
    have hm' := Lib.hid hm
    clear hm
    by_cases hlt : k < 26
    · have hcell := hc' k hlt
      have hn := ht1.out (k + 1) (by omega)
      go_wp2_with fail
      · have h : ((nameAt (k + 1)).toList == s.toList) = true := by assumption
        go_ret2
        exact ⟨ret2b (by rw [of_hit hlt hm'.out (str_eq h)]), hb⟩
      · have h : ((nameAt (k + 1)).toList == s.toList) = false := by assumption
        go_round
        case rel => exact ⟨k + 1, by omega, by go_num, miss_succ hm'.out (str_ne h)⟩
        case measure => simp [intOf]; omega
    · obtain rfl : k = 26 := by omega
      go_wp2_with fail
      go_ret2
      exact ⟨ret2b (by rw [of_miss hm'.out]), hb⟩
end Go.Proofs.YtngmhgcnohgaiaaDoor
