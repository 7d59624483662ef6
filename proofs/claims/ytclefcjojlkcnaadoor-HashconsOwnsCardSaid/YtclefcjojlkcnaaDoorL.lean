/- Comparisons of numbers and texts. -/
import Derived.Test.YtclefcjojlkcnaaDoorC
namespace Go.Proofs.YtclefcjojlkcnaaDoor
open Go.RowKit
set_option linter.unusedVariables false
set_option linter.unusedSimpArgs false
theorem ret_int' {k : IntKind} {a b : Int} (h : a = b) : Ending.returned (.int k a) = .returned (.int k b) := by rw [h]
/-- -1, 0 or 1 -/
def ci (x y : Int) : Int := if x < y then -1 else if y < x then 1 else 0
set_option maxHeartbeats 400000 in
theorem nan49 (x : Int) (w : World) : Calls Tryd.prog 49 #[.int .i64 x] w fun e w' => e = .returned (.bool false) ∧ w = w' := by
  go_enter Tryd.func49, Tryd.ntmps49
  go_wp2
  go_ret
  exact ⟨by simp, rfl⟩
set_option maxHeartbeats 400000 in
theorem nan50 (x : Int) (w : World) : Calls Tryd.prog 50 #[.int .i64 x] w fun e w' => e = .returned (.bool false) ∧ w = w' := by
  go_enter Tryd.func50, Tryd.ntmps50
  go_wp2
  go_ret
  exact ⟨by simp, rfl⟩
set_option maxHeartbeats 400000 in
theorem nan51 (x : Int) (w : World) : Calls Tryd.prog 51 #[.int .u64 x] w fun e w' => e = .returned (.bool false) ∧ w = w' := by
  go_enter Tryd.func51, Tryd.ntmps51
  go_wp2
  go_ret
  exact ⟨by simp, rfl⟩
set_option maxHeartbeats 400000 in
theorem nan52 (s : ByteArray) (w : World) : Calls Tryd.prog 52 #[.string s] w fun e w' => e = .returned (.bool false) ∧ w = w' := by
  go_enter Tryd.func52, Tryd.ntmps52
  go_wp2
  go_ret
  exact ⟨by simp, rfl⟩
set_option maxHeartbeats 400000 in
theorem cmp36 (x y : Int) (w : World) : Calls Tryd.prog 36 #[.int .i64 x, .int .i64 y] w fun e w' => e = .returned (.int .i64 (ci x y)) ∧ w = w' := by
  go_enter Tryd.func36, Tryd.ntmps36
  go_wp2_with (go_at_call 49; refine (nan49 _ _).mono ?_; rintro e w' ⟨rfl, rfl⟩)
  all_goals go_ret
  all_goals exact ⟨ret_int' (by unfold ci; (repeat' split) <;> omega), rfl⟩
set_option maxHeartbeats 400000 in
theorem cmp37 (x y : Int) (w : World) : Calls Tryd.prog 37 #[.int .i64 x, .int .i64 y] w fun e w' => e = .returned (.int .i64 (ci x y)) ∧ w = w' := by
  go_enter Tryd.func37, Tryd.ntmps37
  go_wp2_with (go_at_call 50; refine (nan50 _ _).mono ?_; rintro e w' ⟨rfl, rfl⟩)
  all_goals go_ret
  all_goals exact ⟨ret_int' (by unfold ci; (repeat' split) <;> omega), rfl⟩
set_option maxHeartbeats 400000 in
theorem cmp38 (x y : Int) (w : World) : Calls Tryd.prog 38 #[.int .u64 x, .int .u64 y] w fun e w' => e = .returned (.int .i64 (ci x y)) ∧ w = w' := by
  go_enter Tryd.func38, Tryd.ntmps38
  go_wp2_with (go_at_call 51; refine (nan51 _ _).mono ?_; rintro e w' ⟨rfl, rfl⟩)
  all_goals go_ret
  all_goals exact ⟨ret_int' (by unfold ci; (repeat' split) <;> omega), rfl⟩
set_option maxHeartbeats 400000 in
theorem sign41 (a b : Bool) (w : World) : Calls Tryd.prog 41 #[.bool a, .bool b] w fun e w' => e = .returned (.int .i64 (if a then -1 else if b then 1 else 0)) ∧ w = w' := by
  cases a <;> cases b
  all_goals
    go_enter Tryd.func41, Tryd.ntmps41
    go_wp2
    go_ret
    exact ⟨rfl, rfl⟩
def cs (s t : ByteArray) : Int := if Op.bytesLess s.toList t.toList = true then -1 else if (s.toList == t.toList) = true then 0 else 1
set_option maxHeartbeats 400000 in
theorem cmp39 (s t : ByteArray) (w : World) : Calls Tryd.prog 39 #[.string s, .string t] w fun e w' => e = .returned (.int .i64 (cs s t)) ∧ w = w' := by
  go_enter Tryd.func39, Tryd.ntmps39
  go_wp2_with (go_at_call 52; refine (nan52 _ _).mono ?_; rintro e w' ⟨rfl, rfl⟩)
  all_goals go_ret
  all_goals exact ⟨ret_int' (by unfold cs; simp_all), rfl⟩
/-- the first that is not 0 -/
def nz : List Int → Int
  | [] => 0
  | x :: l => if x = 0 then nz l else x
def sl : List Int → List Int → Int
  | [], [] => 0
  | [], _ :: _ => -1
  | _ :: _, [] => 1
  | x :: l, y :: m => if ci x y = 0 then sl l m else ci x y
theorem nz_drop (l : List Int) (k : Nat) (hk : k < l.length) : nz (l.drop k) = if l.getD k 0 = 0 then nz (l.drop (k + 1)) else l.getD k 0 := by
  rw [List.drop_eq_getElem_cons hk]
  have : l.getD k 0 = l[k] := by simp [List.getD_eq_getElem?_getD, hk]
  rw [this]; rfl
theorem sl_drop (l m : List Int) (k : Nat) (hk : k < l.length) (hm : k < m.length) : sl (l.drop k) (m.drop k) = if ci (l.getD k 0) (m.getD k 0) = 0 then sl (l.drop (k + 1)) (m.drop (k + 1)) else ci (l.getD k 0) (m.getD k 0) := by
  rw [List.drop_eq_getElem_cons hk, List.drop_eq_getElem_cons hm]
  have h1 : l.getD k 0 = l[k] := by simp [List.getD_eq_getElem?_getD, hk]
  have h2 : m.getD k 0 = m[k] := by simp [List.getD_eq_getElem?_getD, hm]
  rw [h1, h2]; rfl
theorem sl_short (l m : List Int) (k : Nat) (hk : k < l.length) (hm : m.length ≤ k) : sl (l.drop k) (m.drop k) = 1 := by
  rw [List.drop_eq_getElem_cons hk, List.drop_of_length_le hm]; rfl
theorem sl_end (l m : List Int) (k : Nat) (hk : l.length ≤ k) : sl (l.drop k) (m.drop k) = if k < m.length then -1 else 0 := by
  rw [List.drop_of_length_le hk]
  split
  · rename_i h
    rw [List.drop_eq_getElem_cons h]; rfl
  · rw [List.drop_of_length_le (by omega)]; rfl
set_option maxHeartbeats 1000000 in
theorem or35 (b n c : Nat) (l : List Int) (w : World) (hl : l.length = n) (hn : n ≤ 1000) (hc : ∀ k, k < l.length → w.cell? ⟨b, k, none⟩ = some (.int .i64 (l.getD k 0))) :
    Calls Tryd.prog 35 #[.slice (some ⟨b, 0, none⟩) n c] w fun e w' => e = .returned (.int .i64 (nz l)) ∧ w = w' := by
  subst hl
  have HC := Lib.hid hc
  clear hc
  go_enter Tryd.func35, Tryd.ntmps35
  go_wp2_with fail
  go_loop [8] (fun x => ∃ k : Nat, k ≤ l.length ∧ x = .int .i64 k ∧ nz l = nz (l.drop k)) (fun x => l.length - (intOf x).toNat)
  case atStart => exact ⟨0, Nat.zero_le _, rfl, by simp⟩
  case round =>
    obtain ⟨k, hk, rfl, hz⟩ := hrel
    by_cases hlt : k < l.length
    · have d := HC.out k hlt
      have hd := nz_drop l k hlt
      have HZ := Lib.hid (hz.trans hd)
      clear hz hd
      generalize l.getD k 0 = x at d HZ
      by_cases hx : x = 0
      · have hb : (x != 0) = false := by simp [hx]
        have HX := Lib.hid hx
        clear hx
        go_wp2_with fail
        go_round
        case rel => exact ⟨k + 1, by omega, by go_num, by rw [HZ.out, if_pos HX.out]⟩
        case measure => simp [intOf]; omega
      · have hb : (x != 0) = true := by simp [hx]
        go_wp2_with fail
        go_ret
        exact ⟨ret_int' (by rw [HZ.out, if_neg hx]), rfl⟩
    · have HZ := Lib.hid hz
      clear hz
      go_wp2_with fail
      go_ret
      exact ⟨ret_int' (by rw [HZ.out, List.drop_of_length_le (by omega)]; rfl), rfl⟩
set_option maxHeartbeats 1000000 in
theorem sl40 (p q : Option Addr) (c d : Nat) (zs ys : List Int) (w : World) (hz : zs.length ≤ 1000) (hy : ys.length ≤ 1000) (h : Ra w p zs) (h' : Ra w q ys) :
    Calls Tryd.prog 40 #[.slice p zs.length c, .slice q ys.length d] w fun e w' => e = .returned (.int .i64 (sl zs ys)) ∧ w = w' := by
  have H := Lib.hid h
  have H' := Lib.hid h'
  clear h h'
  go_enter Tryd.func40, Tryd.ntmps40
  go_wp2_with fail
  go_loop [11] (fun x => ∃ k : Nat, k ≤ zs.length ∧ x = .int .i64 k ∧ sl zs ys = sl (zs.drop k) (ys.drop k) ∧ k ≤ ys.length) (fun x => zs.length - (intOf x).toNat)
  case atStart => exact ⟨0, Nat.zero_le _, rfl, by simp, Nat.zero_le _⟩
  case round =>
    obtain ⟨k, hk, rfl, hs, hky⟩ := hrel
    by_cases hlt : k < zs.length
    · obtain ⟨b, off, rfl, hlb, hcell⟩ := H.out (by omega)
      have d1 := hcell k hlt
      clear hcell
      by_cases hly : k < ys.length
      · obtain ⟨b', off', rfl, hlb', hcell'⟩ := H'.out (by omega)
        have d2 := hcell' k hly
        have HS := Lib.hid (hs.trans (sl_drop zs ys k hlt hly))
        clear hcell' hs
        have hd : decide (ys.length ≤ k) = false := by simp; omega
        generalize zs.getD k 0 = x at d1 HS
        generalize ys.getD k 0 = y at d2 HS
        have hcc := cmp37 x y
        generalize ci x y = r at hcc HS
        have HCC := Lib.hid hcc
        clear hcc
        by_cases hx : r = 0
        · have hb : (r != 0) = false := by simp [hx]
          have HX := Lib.hid hx
          clear hx
          go_wp2_with (go_at_call 37; refine (HCC.out _).mono ?_; rintro e w' ⟨rfl, rfl⟩)
          go_round
          case rel => exact ⟨k + 1, by omega, by go_num, by rw [HS.out, if_pos HX.out], by omega⟩
          case measure => simp [intOf]; omega
        · have hb : (r != 0) = true := by simp [hx]
          go_wp2_with (go_at_call 37; refine (HCC.out _).mono ?_; rintro e w' ⟨rfl, rfl⟩)
          go_ret
          exact ⟨ret_int' (by rw [HS.out, if_neg hx]), rfl⟩
      · have HS := Lib.hid (hs.trans (sl_short zs ys k hlt (by omega)))
        have hd : decide (ys.length ≤ k) = true := by simp; omega
        clear hs
        go_wp2_with fail
        go_ret
        exact ⟨ret_int' HS.out.symm, rfl⟩
    · have HS := Lib.hid (hs.trans (sl_end zs ys k (by omega)))
      obtain rfl : k = zs.length := by omega
      clear hs
      by_cases hy2 : zs.length < ys.length
      · have hd : decide (zs.length < ys.length) = true := by simpa using hy2
        go_wp2_with fail
        go_ret
        exact ⟨ret_int' (by rw [HS.out, if_pos hy2]), rfl⟩
      · have hd : decide (zs.length < ys.length) = false := by simpa using hy2
        go_wp2_with fail
        go_ret
        exact ⟨ret_int' (by rw [HS.out, if_neg hy2]), rfl⟩
end Go.Proofs.YtclefcjojlkcnaaDoor
