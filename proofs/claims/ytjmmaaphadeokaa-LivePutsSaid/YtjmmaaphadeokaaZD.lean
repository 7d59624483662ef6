/- What an operation computes; eight numbers in a box. -/
import Derived.Test.YtjmmaaphadeokaaZC
import Derived.Test.YtjmmaaphadeokaaN
import Derived.Test.YtjmmaaphadeokaaZA
namespace Go.Proofs.Ytjmmaaphadeokaa
open Go.RowKit
set_option linter.unusedVariables false
set_option linter.unusedSimpArgs false
def valV (W op a b : Int) : Int := if op = 2 then a else if op = 3 then notV W a else if op = 4 then negV W a else if op = 5 then andV W a b else if op = 6 then orV W a b else if op = 7 then xorV W a b else if op = 8 then addV W a b else if op = 9 then subV W a b else if op = 10 then mulV W a b else if op = 11 then udivV W a b else if op = 12 then uremV W a b else if op = 13 then shlOp W a b else if op = 14 then lshrOp W a b else if op = 15 then ashrOp W a b else if op = 16 then eqV W a b else if op = 17 then ultV W a b else sltV W a b
theorem valV_2 (W a b : Int) : valV W 2 a b = a := rfl
theorem valV_3 (W a b : Int) : valV W 3 a b = notV W a := rfl
theorem valV_4 (W a b : Int) : valV W 4 a b = negV W a := rfl
theorem valV_5 (W a b : Int) : valV W 5 a b = andV W a b := rfl
theorem valV_6 (W a b : Int) : valV W 6 a b = orV W a b := rfl
theorem valV_7 (W a b : Int) : valV W 7 a b = xorV W a b := rfl
theorem valV_8 (W a b : Int) : valV W 8 a b = addV W a b := rfl
theorem valV_9 (W a b : Int) : valV W 9 a b = subV W a b := rfl
theorem valV_10 (W a b : Int) : valV W 10 a b = mulV W a b := rfl
theorem valV_11 (W a b : Int) : valV W 11 a b = udivV W a b := rfl
theorem valV_12 (W a b : Int) : valV W 12 a b = uremV W a b := rfl
theorem valV_13 (W a b : Int) : valV W 13 a b = shlOp W a b := rfl
theorem valV_14 (W a b : Int) : valV W 14 a b = lshrOp W a b := rfl
theorem valV_15 (W a b : Int) : valV W 15 a b = ashrOp W a b := rfl
theorem valV_16 (W a b : Int) : valV W 16 a b = eqV W a b := rfl
theorem valV_17 (W a b : Int) : valV W 17 a b = ultV W a b := rfl
theorem valV_18 (W a b : Int) : valV W 18 a b = sltV W a b := rfl
set_option maxHeartbeats 1000000 in
theorem val52_2 (W a b : Int) (h1 : 1 ≤ W) (h2 : W ≤ 64) (w : World) : Calls Try.prog 52 #[.int .i64 2, .int .i64 W, .int .u64 a, .int .u64 b] w fun e w' => e = .returned (.int .u64 (a)) ∧ w = w' := by
  go_enter Try.func52, Try.ntmps52
  go_wp2
  all_goals go_ret
  all_goals exact ⟨rfl, rfl⟩
set_option maxHeartbeats 1000000 in
theorem val52_3 (W a b : Int) (h1 : 1 ≤ W) (h2 : W ≤ 64) (w : World) : Calls Try.prog 52 #[.int .i64 3, .int .i64 W, .int .u64 a, .int .u64 b] w fun e w' => e = .returned (.int .u64 (notV W a)) ∧ w = w' := by
  go_enter Try.func52, Try.ntmps52
  go_wp2_with (go_at_call 65; refine (not65 _ _ h1 h2 _).mono ?_; rintro e w' ⟨rfl, rfl⟩)
  all_goals go_ret
  all_goals exact ⟨rfl, rfl⟩
set_option maxHeartbeats 1000000 in
theorem val52_4 (W a b : Int) (h1 : 1 ≤ W) (h2 : W ≤ 64) (w : World) : Calls Try.prog 52 #[.int .i64 4, .int .i64 W, .int .u64 a, .int .u64 b] w fun e w' => e = .returned (.int .u64 (negV W a)) ∧ w = w' := by
  go_enter Try.func52, Try.ntmps52
  go_wp2_with (go_at_call 66; refine (neg66 _ _ h1 h2 _).mono ?_; rintro e w' ⟨rfl, rfl⟩)
  all_goals go_ret
  all_goals exact ⟨rfl, rfl⟩
set_option maxHeartbeats 1000000 in
theorem val52_5 (W a b : Int) (h1 : 1 ≤ W) (h2 : W ≤ 64) (w : World) : Calls Try.prog 52 #[.int .i64 5, .int .i64 W, .int .u64 a, .int .u64 b] w fun e w' => e = .returned (.int .u64 (andV W a b)) ∧ w = w' := by
  go_enter Try.func52, Try.ntmps52
  go_wp2_with (go_at_call 67; refine (and67 _ _ _ h1 h2 _).mono ?_; rintro e w' ⟨rfl, rfl⟩)
  all_goals go_ret
  all_goals exact ⟨rfl, rfl⟩
set_option maxHeartbeats 1000000 in
theorem val52_6 (W a b : Int) (h1 : 1 ≤ W) (h2 : W ≤ 64) (w : World) : Calls Try.prog 52 #[.int .i64 6, .int .i64 W, .int .u64 a, .int .u64 b] w fun e w' => e = .returned (.int .u64 (orV W a b)) ∧ w = w' := by
  go_enter Try.func52, Try.ntmps52
  go_wp2_with (go_at_call 68; refine (or68 _ _ _ h1 h2 _).mono ?_; rintro e w' ⟨rfl, rfl⟩)
  all_goals go_ret
  all_goals exact ⟨rfl, rfl⟩
set_option maxHeartbeats 1000000 in
theorem val52_7 (W a b : Int) (h1 : 1 ≤ W) (h2 : W ≤ 64) (w : World) : Calls Try.prog 52 #[.int .i64 7, .int .i64 W, .int .u64 a, .int .u64 b] w fun e w' => e = .returned (.int .u64 (xorV W a b)) ∧ w = w' := by
  go_enter Try.func52, Try.ntmps52
  go_wp2_with (go_at_call 69; refine (xor69 _ _ _ h1 h2 _).mono ?_; rintro e w' ⟨rfl, rfl⟩)
  all_goals go_ret
  all_goals exact ⟨rfl, rfl⟩
set_option maxHeartbeats 1000000 in
theorem val52_8 (W a b : Int) (h1 : 1 ≤ W) (h2 : W ≤ 64) (w : World) : Calls Try.prog 52 #[.int .i64 8, .int .i64 W, .int .u64 a, .int .u64 b] w fun e w' => e = .returned (.int .u64 (addV W a b)) ∧ w = w' := by
  go_enter Try.func52, Try.ntmps52
  go_wp2_with (go_at_call 70; refine (add70 _ _ _ h1 h2 _).mono ?_; rintro e w' ⟨rfl, rfl⟩)
  all_goals go_ret
  all_goals exact ⟨rfl, rfl⟩
set_option maxHeartbeats 1000000 in
theorem val52_9 (W a b : Int) (h1 : 1 ≤ W) (h2 : W ≤ 64) (w : World) : Calls Try.prog 52 #[.int .i64 9, .int .i64 W, .int .u64 a, .int .u64 b] w fun e w' => e = .returned (.int .u64 (subV W a b)) ∧ w = w' := by
  go_enter Try.func52, Try.ntmps52
  go_wp2_with (go_at_call 71; refine (sub71 _ _ _ h1 h2 _).mono ?_; rintro e w' ⟨rfl, rfl⟩)
  all_goals go_ret
  all_goals exact ⟨rfl, rfl⟩
set_option maxHeartbeats 1000000 in
theorem val52_10 (W a b : Int) (h1 : 1 ≤ W) (h2 : W ≤ 64) (w : World) : Calls Try.prog 52 #[.int .i64 10, .int .i64 W, .int .u64 a, .int .u64 b] w fun e w' => e = .returned (.int .u64 (mulV W a b)) ∧ w = w' := by
  go_enter Try.func52, Try.ntmps52
  go_wp2_with (go_at_call 72; refine (mul72 _ _ _ h1 h2 _).mono ?_; rintro e w' ⟨rfl, rfl⟩)
  all_goals go_ret
  all_goals exact ⟨rfl, rfl⟩
set_option maxHeartbeats 1000000 in
theorem val52_11 (W a b : Int) (h1 : 1 ≤ W) (h2 : W ≤ 64) (w : World) : Calls Try.prog 52 #[.int .i64 11, .int .i64 W, .int .u64 a, .int .u64 b] w fun e w' => e = .returned (.int .u64 (udivV W a b)) ∧ w = w' := by
  go_enter Try.func52, Try.ntmps52
  go_wp2_with (go_at_call 73; refine (udiv73 _ _ _ h1 h2 _).mono ?_; rintro e w' ⟨rfl, rfl⟩)
  all_goals go_ret
  all_goals exact ⟨rfl, rfl⟩
set_option maxHeartbeats 1000000 in
theorem val52_12 (W a b : Int) (h1 : 1 ≤ W) (h2 : W ≤ 64) (w : World) : Calls Try.prog 52 #[.int .i64 12, .int .i64 W, .int .u64 a, .int .u64 b] w fun e w' => e = .returned (.int .u64 (uremV W a b)) ∧ w = w' := by
  go_enter Try.func52, Try.ntmps52
  go_wp2_with (go_at_call 74; refine (urem74 _ _ _ h1 h2 _).mono ?_; rintro e w' ⟨rfl, rfl⟩)
  all_goals go_ret
  all_goals exact ⟨rfl, rfl⟩
set_option maxHeartbeats 1000000 in
theorem val52_13 (W a b : Int) (h1 : 1 ≤ W) (h2 : W ≤ 64) (w : World) : Calls Try.prog 52 #[.int .i64 13, .int .i64 W, .int .u64 a, .int .u64 b] w fun e w' => e = .returned (.int .u64 (shlOp W a b)) ∧ w = w' := by
  go_enter Try.func52, Try.ntmps52
  go_wp2_with (go_at_call 75; refine (shl75 _ _ _ h1 h2 _).mono ?_; rintro e w' ⟨rfl, rfl⟩)
  all_goals go_ret
  all_goals exact ⟨rfl, rfl⟩
set_option maxHeartbeats 1000000 in
theorem val52_14 (W a b : Int) (h1 : 1 ≤ W) (h2 : W ≤ 64) (w : World) : Calls Try.prog 52 #[.int .i64 14, .int .i64 W, .int .u64 a, .int .u64 b] w fun e w' => e = .returned (.int .u64 (lshrOp W a b)) ∧ w = w' := by
  go_enter Try.func52, Try.ntmps52
  go_wp2_with (go_at_call 76; refine (lshr76 _ _ _ h1 h2 _).mono ?_; rintro e w' ⟨rfl, rfl⟩)
  all_goals go_ret
  all_goals exact ⟨rfl, rfl⟩
set_option maxHeartbeats 1000000 in
theorem val52_15 (W a b : Int) (h1 : 1 ≤ W) (h2 : W ≤ 64) (w : World) : Calls Try.prog 52 #[.int .i64 15, .int .i64 W, .int .u64 a, .int .u64 b] w fun e w' => e = .returned (.int .u64 (ashrOp W a b)) ∧ w = w' := by
  go_enter Try.func52, Try.ntmps52
  go_wp2_with (go_at_call 77; refine (ashr77 _ _ _ h1 h2 _).mono ?_; rintro e w' ⟨rfl, rfl⟩)
  all_goals go_ret
  all_goals exact ⟨rfl, rfl⟩
set_option maxHeartbeats 1000000 in
theorem val52_16 (W a b : Int) (h1 : 1 ≤ W) (h2 : W ≤ 64) (w : World) : Calls Try.prog 52 #[.int .i64 16, .int .i64 W, .int .u64 a, .int .u64 b] w fun e w' => e = .returned (.int .u64 (eqV W a b)) ∧ w = w' := by
  go_enter Try.func52, Try.ntmps52
  go_wp2_with (go_at_call 78; refine (eq78 _ _ _ h1 h2 _).mono ?_; rintro e w' ⟨rfl, rfl⟩)
  all_goals go_ret
  all_goals exact ⟨rfl, rfl⟩
set_option maxHeartbeats 1000000 in
theorem val52_17 (W a b : Int) (h1 : 1 ≤ W) (h2 : W ≤ 64) (w : World) : Calls Try.prog 52 #[.int .i64 17, .int .i64 W, .int .u64 a, .int .u64 b] w fun e w' => e = .returned (.int .u64 (ultV W a b)) ∧ w = w' := by
  go_enter Try.func52, Try.ntmps52
  go_wp2_with (go_at_call 79; refine (ult79 _ _ _ h1 h2 _).mono ?_; rintro e w' ⟨rfl, rfl⟩)
  all_goals go_ret
  all_goals exact ⟨rfl, rfl⟩
set_option maxHeartbeats 1000000 in
theorem val52_18 (W a b : Int) (h1 : 1 ≤ W) (h2 : W ≤ 64) (w : World) : Calls Try.prog 52 #[.int .i64 18, .int .i64 W, .int .u64 a, .int .u64 b] w fun e w' => e = .returned (.int .u64 (sltV W a b)) ∧ w = w' := by
  go_enter Try.func52, Try.ntmps52
  go_wp2_with (go_at_call 80; refine (slt80 _ _ _ h1 h2 _).mono ?_; rintro e w' ⟨rfl, rfl⟩)
  all_goals go_ret
  all_goals exact ⟨rfl, rfl⟩
theorem valV_one (W : Int) : OneSrc (valV W) := fun op a b b' h1 h2 => by
  obtain rfl | rfl | rfl : op = 2 ∨ op = 3 ∨ op = 4 := by omega
  · rw [valV_2, valV_2]
  · rw [valV_3, valV_3]
  · rw [valV_4, valV_4]
theorem val52 (W op a b : Int) (h1 : 1 ≤ W) (h2 : W ≤ 64) (o1 : 2 ≤ op) (o2 : op ≤ 18) (w : World) : Calls Try.prog 52 #[.int .i64 op, .int .i64 W, .int .u64 a, .int .u64 b] w fun e w' => e = .returned (.int .u64 (valV W op a b)) ∧ w = w' := by
  obtain rfl | rfl | rfl | rfl | rfl | rfl | rfl | rfl | rfl | rfl | rfl | rfl | rfl | rfl | rfl | rfl | rfl : op = 2 ∨ op = 3 ∨ op = 4 ∨ op = 5 ∨ op = 6 ∨ op = 7 ∨ op = 8 ∨ op = 9 ∨ op = 10 ∨ op = 11 ∨ op = 12 ∨ op = 13 ∨ op = 14 ∨ op = 15 ∨ op = 16 ∨ op = 17 ∨ op = 18 := by omega
  · exact val52_2 W a b h1 h2 w
  · exact val52_3 W a b h1 h2 w
  · exact val52_4 W a b h1 h2 w
  · exact val52_5 W a b h1 h2 w
  · exact val52_6 W a b h1 h2 w
  · exact val52_7 W a b h1 h2 w
  · exact val52_8 W a b h1 h2 w
  · exact val52_9 W a b h1 h2 w
  · exact val52_10 W a b h1 h2 w
  · exact val52_11 W a b h1 h2 w
  · exact val52_12 W a b h1 h2 w
  · exact val52_13 W a b h1 h2 w
  · exact val52_14 W a b h1 h2 w
  · exact val52_15 W a b h1 h2 w
  · exact val52_16 W a b h1 h2 w
  · exact val52_17 W a b h1 h2 w
  · exact val52_18 W a b h1 h2 w
/-! eight numbers in a box -/
def ua (s : List Int) : Array Value := (s.map (Value.int .u64)).toArray
theorem ua_size (s : List Int) : (ua s).size = s.length := by simp [ua]
theorem ua_get (s : List Int) (k : Nat) (h : k < s.length) : (ua s)[k]? = some (.int .u64 s[k]) := by simp [ua, h]
theorem ua_set (s : List Int) (j : Nat) (x : Int) : (ua s).setIfInBounds j (.int .u64 x) = ua (s.set j x) := by simp [ua, List.map_set]
theorem ua_one (s : List Int) : (ua s).all (·.oneCell') = true := by
  rw [Array.all_eq_true_iff_forall_mem]; intro v hv; simp [ua] at hv
  rcases hv with ⟨_, _, rfl⟩; rfl
def SU (w : World) (b : Nat) (s : List Int) : Prop := w.heap[b]? = some (.cells (ua s) 45 (0, 0))
theorem SU.lt {w : World} {b : Nat} {s : List Int} (h : SU w b s) : b < w.heap.size := (Array.getElem?_eq_some_iff.1 h).1
theorem SU.keep {w w' : World} {b : Nat} {s : List Int} (h : SU w b s) (hb : BK w w') : SU w' b s := (bk_block hb h.lt).trans h
theorem SU.other {w : World} {b : Nat} {s : List Int} (h : SU w b s) (p : Addr) (u : Value) (hp : b ≠ p.block) : SU (w.setCell p u) b s := (Below.heap_setCell w p u b hp).trans h
theorem SU.set {w : World} {b : Nat} {s : List Int} (h : SU w b s) (j : Nat) (x : Int) : SU (w.setCell ⟨b, j, none⟩ (.int .u64 x)) b (s.set j x) := by
  unfold SU
  rw [heap_setCell_same w b j (ua s) 45 (.int .u64 x) h, ua_set]
theorem SU.cell {w : World} {b : Nat} {s : List Int} (h : SU w b s) (j : Nat) (hj : j < s.length) : w.cell? ⟨b, j, none⟩ = some (.int .u64 s[j]) := by
  rw [cell_of_row w _ _ _ _ _ h]; exact ua_get s j hj
theorem SU.frozen {w : World} {b : Nat} {s : List Int} (h : SU w b s) (j : Nat) : w.frozen? ⟨b, j, none⟩ = false := by simp [World.frozen?, show w.heap[b]? = _ from h]
theorem SU.new (w : World) (s : List Int) : SU (w.alloc (.cells (ua s) 45)) w.heap.size s := heap_alloc_new w _
theorem SU.old {w : World} {b : Nat} {s : List Int} (h : SU w b s) (o : Obj) : SU (w.alloc o) b s := (heap_alloc_old w o h.lt).trans h
theorem SU.row {w : World} {b : Nat} {s s' : List Int} (h : SU w b s) : SU (w.setRow b (ua s')) b s' := setRow_heap w b (ua s) (ua s') 45 (0, 0) h
theorem SU.row_old {w : World} {b c : Nat} {s : List Int} (x : Array Value) (h : SU w b s) (hn : b ≠ c) : SU (w.setRow c x) b s := (setRow_other w c b x hn).trans h
end Go.Proofs.Ytjmmaaphadeokaa
