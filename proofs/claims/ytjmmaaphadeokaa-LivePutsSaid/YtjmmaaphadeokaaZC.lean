/- The reference's operations on numbers: division, shifts, comparisons; value. -/
import Derived.Test.YtjmmaaphadeokaaZB
namespace Go.Proofs.Ytjmmaaphadeokaa
open Go.RowKit
set_option linter.unusedVariables false
set_option linter.unusedSimpArgs false
def divG (a b : Int) (k : Nat) (p : Int × Int) : Int × Int :=
  if bitV p.2 63 = 1 ∨ b ≤ IntKind.u64.wrap (IntKind.u64.wrap (p.2 * 2) + bitV a (63 - k)) then (bits BinOp.or IntKind.u64 p.1 (IntKind.u64.wrap (2 ^ (63 - (k : Int)).toNat)), IntKind.u64.wrap (IntKind.u64.wrap (IntKind.u64.wrap (p.2 * 2) + bitV a (63 - k)) - b)) else (p.1, IntKind.u64.wrap (IntKind.u64.wrap (p.2 * 2) + bitV a (63 - k)))
def divV (a b : Int) : Int × Int := upP (divG a b) 64
def udivV (W a b : Int) : Int := if cutV W b = 0 then maskI W else (divV (cutV W a) (cutV W b)).1
def uremV (W a b : Int) : Int := if cutV W b = 0 then cutV W a else (divV (cutV W a) (cutV W b)).2
def shG (W a s f : Int) (k : Nat) (y : Int) : Int := bits BinOp.or IntKind.u64 y (IntKind.u64.wrap ((if wrap64 (k + s) < W then bitV a (wrap64 (k + s)) else f) * 2 ^ k))
def shV (W a s f : Int) : Int := upV (shG W a s f) W.toNat
def byV (W b : Int) : Int := wrap64 (min (cutV W b) 64)
def shlOp (W a b : Int) : Int := shV W a (wrap64 (-byV W b)) 0
def lshrOp (W a b : Int) : Int := shV W a (byV W b) 0
def ashrOp (W a b : Int) : Int := shV W a (byV W b) (bitV a (W - 1))
def truthV (b : Bool) : Int := if b then 1 else 0
def eqV (W a b : Int) : Int := truthV (decide (cutV W a = cutV W b))
def ultV (W a b : Int) : Int := truthV (decide (cutV W a < cutV W b))
def ngV (W x : Int) : Bool := decide (bitV x (W - 1) = 1)
def sgnV (W x : Int) : Int := if ngV W x then wrap64 (wrap64 (-(wrap64 (IntKind.u64.wrap (maskI W - cutV W x)))) - 1) else wrap64 (cutV W x)
def sltV (W a b : Int) : Int := truthV (decide (sgnV W a < sgnV W b))

theorem divG_yes {a b : Int} {k : Nat} {x y : Int} (h : bitV y 63 = 1 ∨ b ≤ IntKind.u64.wrap (IntKind.u64.wrap (y * 2) + bitV a (63 - k))) : divG a b k (x, y) = (bits BinOp.or IntKind.u64 x (IntKind.u64.wrap (2 ^ (63 - (k : Int)).toNat)), IntKind.u64.wrap (IntKind.u64.wrap (IntKind.u64.wrap (y * 2) + bitV a (63 - k)) - b)) := if_pos h
theorem divG_no {a b : Int} {k : Nat} {x y : Int} (h : ¬ (bitV y 63 = 1 ∨ b ≤ IntKind.u64.wrap (IntKind.u64.wrap (y * 2) + bitV a (63 - k)))) : divG a b k (x, y) = (x, IntKind.u64.wrap (IntKind.u64.wrap (y * 2) + bitV a (63 - k))) := if_neg h
set_option maxHeartbeats 1000000 in
theorem div88 (a b : Int) (w : World) : Calls Try.prog 88 #[.int .u64 a, .int .u64 b] w fun e w' => e = .returned (.tuple #[.int .u64 (divV a b).1, .int .u64 (divV a b).2]) ∧ w = w' := by
  have HZ := Lib.hid (show divV a b = upP (divG a b) 64 from rfl)
  go_enter Try.func88, Try.ntmps88
  go_wp2_with fail
  go_loop [6, 7, 8] (fun m c i => ∃ k : Nat, k ≤ 64 ∧ i = .int .i64 (63 - k) ∧ m = .int .u64 (upP (divG a b) k).1 ∧ c = .int .u64 (upP (divG a b) k).2) (fun _ _ i => (intOf i + 1).toNat)
  case atStart => exact ⟨0, Nat.zero_le _, rfl, rfl, rfl⟩
  case round =>
    obtain ⟨k, hk, rfl, rfl, rfl⟩ := hrel
    by_cases hlt : k < 64
    · have HS := Lib.hid (show upP (divG a b) (k + 1) = divG a b k (upP (divG a b) k) from rfl)
      generalize upP (divG a b) k = m at HS ⊢
      obtain ⟨m1, m2⟩ := m
      have HY := Lib.hid (@divG_yes a b k m1 m2)
      have HN := Lib.hid (@divG_no a b k m1 m2)
      obtain ⟨x, hx⟩ : ∃ x : Int, x = 63 - (k : Int) := ⟨_, rfl⟩
      have HX := Lib.hid (show x - 1 = 63 - ((k + 1 : Nat) : Int) by omega)
      have x0 : 0 ≤ x := by omega
      have x1 : x ≤ 63 := by omega
      rw [← hx] at HY HN ⊢
      have HXX := Lib.hid hx
      clear hx
      by_cases hp : bitV m2 63 = 1
      · have HY2 := Lib.hid (HY.out (.inl hp))
        go_wp2_with (go_at_call 64; refine (bit64 _ _ _).mono ?_; rintro e w' ⟨rfl, rfl⟩)
        go_round
        case rel => exact ⟨k + 1, by omega, by rw [HX.out], by rw [HS.out, HY2.out], by rw [HS.out, HY2.out]⟩
        case measure => simp [intOf]; omega
      · by_cases hq : b ≤ IntKind.u64.wrap (IntKind.u64.wrap (m2 * 2) + bitV a x)
        · have HY2 := Lib.hid (HY.out (.inr hq))
          go_wp2_with (go_at_call 64; refine (bit64 _ _ _).mono ?_; rintro e w' ⟨rfl, rfl⟩)
          go_round
          case rel => exact ⟨k + 1, by omega, by rw [HX.out], by rw [HS.out, HY2.out], by rw [HS.out, HY2.out]⟩
          case measure => simp [intOf]; omega
        · have HY2 := Lib.hid (HN.out (fun h => h.elim hp hq))
          go_wp2_with (go_at_call 64; refine (bit64 _ _ _).mono ?_; rintro e w' ⟨rfl, rfl⟩)
          all_goals try (exfalso; rename_i hh; exact hh.elim (fun e => hp (eq_of_beq e)) (fun e => absurd e (by omega)))
          go_round
          case rel => exact ⟨k + 1, by omega, by rw [HX.out], by rw [HS.out, HY2.out], by rw [HS.out, HY2.out]⟩
          case measure => simp [intOf]; omega
    · obtain rfl : k = 64 := by omega
      go_wp2_with fail
      go_ret2
      exact ⟨by rw [HZ.out]; try rfl, rfl⟩

theorem shG_yes {W a s f : Int} {k : Nat} {y : Int} (h : wrap64 (k + s) < W) : shG W a s f k y = bits BinOp.or IntKind.u64 y (IntKind.u64.wrap (bitV a (wrap64 (k + s)) * 2 ^ k)) := by unfold shG; rw [if_pos h]
theorem shG_no {W a s f : Int} {k : Nat} {y : Int} (h : ¬ wrap64 (k + s) < W) : shG W a s f k y = bits BinOp.or IntKind.u64 y (IntKind.u64.wrap (f * 2 ^ k)) := by unfold shG; rw [if_neg h]
set_option maxHeartbeats 1000000 in
theorem shift89 (W a s f : Int) (h1 : 1 ≤ W) (h2 : W ≤ 64) (w : World) : Calls Try.prog 89 #[.int .i64 W, .int .u64 a, .int .i64 s, .int .u64 f] w fun e w' => e = .returned (.int .u64 (shV W a s f)) ∧ w = w' := by
  obtain ⟨n, rfl⟩ : ∃ n : Nat, W = n := ⟨W.toNat, by omega⟩
  have HZ := Lib.hid (show shV n a s f = upV (shG n a s f) n from rfl)
  go_enter Try.func89, Try.ntmps89
  go_wp2_with (go_at_call 63; refine (w63 n h1 h2 _).mono ?_; rintro e w' ⟨rfl, rfl⟩)
  go_loop [9, 14] (fun m i => ∃ k : Nat, k ≤ n ∧ i = .int .i64 k ∧ m = .int .u64 (upV (shG n a s f) k)) (fun _ i => n - (intOf i).toNat)
  case atStart => exact ⟨0, Nat.zero_le _, rfl, rfl⟩
  case round =>
    obtain ⟨k, hk, rfl, rfl⟩ := hrel
    by_cases hlt : k < n
    · have HS := Lib.hid (show upV (shG n a s f) (k + 1) = shG n a s f k (upV (shG n a s f) k) from rfl)
      generalize upV (shG n a s f) k = m at HS ⊢
      by_cases hp : wrap64 ((k : Int) + s) < n
      · have HY2 := Lib.hid (@shG_yes n a s f k m hp)
        go_wp2_with (first | (go_at_call 64; refine (bit64 _ _ _).mono ?_; rintro e w' ⟨rfl, rfl⟩) | (go_at_call 63; refine (w63 n h1 h2 _).mono ?_; rintro e w' ⟨rfl, rfl⟩))
        go_round
        case rel => exact ⟨k + 1, by omega, by go_num, by rw [HS.out, HY2.out]⟩
        case measure => simp [intOf]; omega
      · have HY2 := Lib.hid (@shG_no n a s f k m hp)
        go_wp2_with (first | (go_at_call 64; refine (bit64 _ _ _).mono ?_; rintro e w' ⟨rfl, rfl⟩) | (go_at_call 63; refine (w63 n h1 h2 _).mono ?_; rintro e w' ⟨rfl, rfl⟩))
        go_round
        case rel => exact ⟨k + 1, by omega, by go_num, by rw [HS.out, HY2.out]⟩
        case measure => simp [intOf]; omega
    · obtain rfl : k = n := by omega
      go_wp2_with fail
      go_ret
      exact ⟨ret_int HZ.out.symm, rfl⟩

set_option maxHeartbeats 1000000 in
theorem udiv73 (W a b : Int) (h1 : 1 ≤ W) (h2 : W ≤ 64) (w : World) : Calls Try.prog 73 #[.int .i64 W, .int .u64 a, .int .u64 b] w fun e w' => e = .returned (.int .u64 (udivV W a b)) ∧ w = w' := by
  by_cases h : cutV W b = 0
  · have HV := Lib.hid (show udivV W a b = maskI W from if_pos h)
    go_enter Try.func73, Try.ntmps73
    go_wp2_with (first | (go_at_call 51; refine (cut51 _ _ h1 h2 _).mono ?_; rintro e w' ⟨rfl, rfl⟩) | (go_at_call 62; refine (mask62 _ h1 h2 _).mono ?_; rintro e w' ⟨rfl, rfl⟩) | (go_at_call 88; refine (div88 _ _ _).mono ?_; rintro e w' ⟨rfl, rfl⟩))
    all_goals go_ret
    all_goals exact ⟨ret_int HV.out.symm, rfl⟩
  · have HV := Lib.hid (show udivV W a b = (divV (cutV W a) (cutV W b)).1 from if_neg h)
    go_enter Try.func73, Try.ntmps73
    go_wp2_with (first | (go_at_call 51; refine (cut51 _ _ h1 h2 _).mono ?_; rintro e w' ⟨rfl, rfl⟩) | (go_at_call 62; refine (mask62 _ h1 h2 _).mono ?_; rintro e w' ⟨rfl, rfl⟩) | (go_at_call 88; refine (div88 _ _ _).mono ?_; rintro e w' ⟨rfl, rfl⟩))
    all_goals go_ret
    all_goals exact ⟨ret_int HV.out.symm, rfl⟩

set_option maxHeartbeats 1000000 in
theorem urem74 (W a b : Int) (h1 : 1 ≤ W) (h2 : W ≤ 64) (w : World) : Calls Try.prog 74 #[.int .i64 W, .int .u64 a, .int .u64 b] w fun e w' => e = .returned (.int .u64 (uremV W a b)) ∧ w = w' := by
  by_cases h : cutV W b = 0
  · have HV := Lib.hid (show uremV W a b = cutV W a from if_pos h)
    go_enter Try.func74, Try.ntmps74
    go_wp2_with (first | (go_at_call 51; refine (cut51 _ _ h1 h2 _).mono ?_; rintro e w' ⟨rfl, rfl⟩) | (go_at_call 62; refine (mask62 _ h1 h2 _).mono ?_; rintro e w' ⟨rfl, rfl⟩) | (go_at_call 88; refine (div88 _ _ _).mono ?_; rintro e w' ⟨rfl, rfl⟩))
    all_goals go_ret
    all_goals exact ⟨ret_int HV.out.symm, rfl⟩
  · have HV := Lib.hid (show uremV W a b = (divV (cutV W a) (cutV W b)).2 from if_neg h)
    go_enter Try.func74, Try.ntmps74
    go_wp2_with (first | (go_at_call 51; refine (cut51 _ _ h1 h2 _).mono ?_; rintro e w' ⟨rfl, rfl⟩) | (go_at_call 62; refine (mask62 _ h1 h2 _).mono ?_; rintro e w' ⟨rfl, rfl⟩) | (go_at_call 88; refine (div88 _ _ _).mono ?_; rintro e w' ⟨rfl, rfl⟩))
    all_goals go_ret
    all_goals exact ⟨ret_int HV.out.symm, rfl⟩

set_option maxHeartbeats 1000000 in
theorem by90 (W b : Int) (h1 : 1 ≤ W) (h2 : W ≤ 64) (w : World) : Calls Try.prog 90 #[.int .i64 W, .int .u64 b] w fun e w' => e = .returned (.int .i64 (byV W b)) ∧ w = w' := by
  go_enter Try.func90, Try.ntmps90
  go_wp2_with (first | (go_at_call 51; refine (cut51 _ _ h1 h2 _).mono ?_; rintro e w' ⟨rfl, rfl⟩))
  all_goals go_ret
  all_goals exact ⟨ret_int (by unfold byV; congr 1; omega), rfl⟩

set_option maxHeartbeats 1000000 in
theorem shl75 (W a b : Int) (h1 : 1 ≤ W) (h2 : W ≤ 64) (w : World) : Calls Try.prog 75 #[.int .i64 W, .int .u64 a, .int .u64 b] w fun e w' => e = .returned (.int .u64 (shlOp W a b)) ∧ w = w' := by
  go_enter Try.func75, Try.ntmps75
  go_wp2_with (first | (go_at_call 90; refine (by90 _ _ h1 h2 _).mono ?_; rintro e w' ⟨rfl, rfl⟩) | (go_at_call 89; refine (shift89 _ _ _ _ h1 h2 _).mono ?_; rintro e w' ⟨rfl, rfl⟩))
  all_goals go_ret
  all_goals exact ⟨ret_int rfl, rfl⟩

set_option maxHeartbeats 1000000 in
theorem lshr76 (W a b : Int) (h1 : 1 ≤ W) (h2 : W ≤ 64) (w : World) : Calls Try.prog 76 #[.int .i64 W, .int .u64 a, .int .u64 b] w fun e w' => e = .returned (.int .u64 (lshrOp W a b)) ∧ w = w' := by
  go_enter Try.func76, Try.ntmps76
  go_wp2_with (first | (go_at_call 90; refine (by90 _ _ h1 h2 _).mono ?_; rintro e w' ⟨rfl, rfl⟩) | (go_at_call 89; refine (shift89 _ _ _ _ h1 h2 _).mono ?_; rintro e w' ⟨rfl, rfl⟩))
  all_goals go_ret
  all_goals exact ⟨ret_int rfl, rfl⟩

set_option maxHeartbeats 1000000 in
theorem ashr77 (W a b : Int) (h1 : 1 ≤ W) (h2 : W ≤ 64) (w : World) : Calls Try.prog 77 #[.int .i64 W, .int .u64 a, .int .u64 b] w fun e w' => e = .returned (.int .u64 (ashrOp W a b)) ∧ w = w' := by
  go_enter Try.func77, Try.ntmps77
  go_wp2_with (first | (go_at_call 90; refine (by90 _ _ h1 h2 _).mono ?_; rintro e w' ⟨rfl, rfl⟩) | (go_at_call 89; refine (shift89 _ _ _ _ h1 h2 _).mono ?_; rintro e w' ⟨rfl, rfl⟩) | (go_at_call 63; refine (w63 _ h1 h2 _).mono ?_; rintro e w' ⟨rfl, rfl⟩) | (go_at_call 64; refine (bit64 _ _ _).mono ?_; rintro e w' ⟨rfl, rfl⟩))
  all_goals go_ret
  all_goals exact ⟨ret_int rfl, rfl⟩

theorem truth91 (b : Bool) (w : World) : Calls Try.prog 91 #[.bool b] w fun e w' => e = .returned (.int .u64 (truthV b)) ∧ w = w' := by
  cases b
  · go_enter Try.func91, Try.ntmps91
    go_wp2
    all_goals go_ret
    all_goals exact ⟨rfl, rfl⟩
  · go_enter Try.func91, Try.ntmps91
    go_wp2
    all_goals go_ret
    all_goals exact ⟨rfl, rfl⟩

set_option maxHeartbeats 1000000 in
theorem eq78 (W a b : Int) (h1 : 1 ≤ W) (h2 : W ≤ 64) (w : World) : Calls Try.prog 78 #[.int .i64 W, .int .u64 a, .int .u64 b] w fun e w' => e = .returned (.int .u64 (eqV W a b)) ∧ w = w' := by
  go_enter Try.func78, Try.ntmps78
  go_wp2_with (first | (go_at_call 51; refine (cut51 _ _ h1 h2 _).mono ?_; rintro e w' ⟨rfl, rfl⟩) | (go_at_call 91; refine (truth91 _ _).mono ?_; rintro e w' ⟨rfl, rfl⟩))
  all_goals go_ret
  all_goals exact ⟨ret_int rfl, rfl⟩

set_option maxHeartbeats 1000000 in
theorem ult79 (W a b : Int) (h1 : 1 ≤ W) (h2 : W ≤ 64) (w : World) : Calls Try.prog 79 #[.int .i64 W, .int .u64 a, .int .u64 b] w fun e w' => e = .returned (.int .u64 (ultV W a b)) ∧ w = w' := by
  go_enter Try.func79, Try.ntmps79
  go_wp2_with (first | (go_at_call 51; refine (cut51 _ _ h1 h2 _).mono ?_; rintro e w' ⟨rfl, rfl⟩) | (go_at_call 91; refine (truth91 _ _).mono ?_; rintro e w' ⟨rfl, rfl⟩))
  all_goals go_ret
  all_goals exact ⟨ret_int rfl, rfl⟩

set_option maxHeartbeats 1000000 in
theorem neg100 (W x : Int) (h1 : 1 ≤ W) (h2 : W ≤ 64) (w : World) : Calls Try.prog 100 #[.int .i64 W, .int .u64 x] w fun e w' => e = .returned (.bool (ngV W x)) ∧ w = w' := by
  go_enter Try.func100, Try.ntmps100
  go_wp2_with (first | (go_at_call 63; refine (w63 _ h1 h2 _).mono ?_; rintro e w' ⟨rfl, rfl⟩) | (go_at_call 64; refine (bit64 _ _ _).mono ?_; rintro e w' ⟨rfl, rfl⟩))
  all_goals go_ret
  all_goals exact ⟨ret_bool rfl, rfl⟩

set_option maxHeartbeats 1000000 in
theorem sgn92 (W x : Int) (h1 : 1 ≤ W) (h2 : W ≤ 64) (w : World) : Calls Try.prog 92 #[.int .i64 W, .int .u64 x] w fun e w' => e = .returned (.int .i64 (sgnV W x)) ∧ w = w' := by
  have HV := Lib.hid (show sgnV W x = if ngV W x then wrap64 (wrap64 (-(wrap64 (IntKind.u64.wrap (maskI W - cutV W x)))) - 1) else wrap64 (cutV W x) from rfl)
  have HG := Lib.hid (neg100 W x h1 h2 w)
  generalize ngV W x = b at HV HG
  cases b
  · go_enter Try.func92, Try.ntmps92
    go_wp2_with (first | (go_at_call 51; refine (cut51 _ _ h1 h2 _).mono ?_; rintro e w' ⟨rfl, rfl⟩) | (go_at_call 62; refine (mask62 _ h1 h2 _).mono ?_; rintro e w' ⟨rfl, rfl⟩) | (go_at_call 100; refine HG.out.mono ?_; rintro e w' ⟨rfl, rfl⟩))
    all_goals go_ret
    all_goals exact ⟨ret_int HV.out.symm, rfl⟩
  · go_enter Try.func92, Try.ntmps92
    go_wp2_with (first | (go_at_call 51; refine (cut51 _ _ h1 h2 _).mono ?_; rintro e w' ⟨rfl, rfl⟩) | (go_at_call 62; refine (mask62 _ h1 h2 _).mono ?_; rintro e w' ⟨rfl, rfl⟩) | (go_at_call 100; refine HG.out.mono ?_; rintro e w' ⟨rfl, rfl⟩))
    all_goals go_ret
    all_goals exact ⟨ret_int HV.out.symm, rfl⟩

set_option maxHeartbeats 1000000 in
theorem slt80 (W a b : Int) (h1 : 1 ≤ W) (h2 : W ≤ 64) (w : World) : Calls Try.prog 80 #[.int .i64 W, .int .u64 a, .int .u64 b] w fun e w' => e = .returned (.int .u64 (sltV W a b)) ∧ w = w' := by
  go_enter Try.func80, Try.ntmps80
  go_wp2_with (first | (go_at_call 92; refine (sgn92 _ _ h1 h2 _).mono ?_; rintro e w' ⟨rfl, rfl⟩) | (go_at_call 91; refine (truth91 _ _).mono ?_; rintro e w' ⟨rfl, rfl⟩))
  all_goals go_ret
  all_goals exact ⟨ret_int rfl, rfl⟩
end Go.Proofs.Ytjmmaaphadeokaa
