/- The reference's operations on numbers, as functions of their values. -/
import Derived.Test.YtjmmaaphadeokaaE
namespace Go.Proofs.Ytjmmaaphadeokaa
open Go.RowKit
set_option linter.unusedVariables false
set_option linter.unusedSimpArgs false
def bitV (x i : Int) : Int := if 0 ≤ i ∧ i ≤ 63 then bits BinOp.and IntKind.u64 (x / 2 ^ i.toNat) 1 else 0
set_option maxHeartbeats 400000 in
theorem bit64 (x i : Int) (w : World) : Calls Try.prog 64 #[.int .u64 x, .int .i64 i] w fun e w' => e = .returned (.int .u64 (bitV x i)) ∧ w = w' := by
  by_cases h : 0 ≤ i ∧ i ≤ 63
  · have hB := Lib.hid (show bitV x i = bits BinOp.and IntKind.u64 (x / 2 ^ i.toNat) 1 from if_pos h)
    obtain ⟨h0, h1⟩ := h
    go_enter Try.func64, Try.ntmps64
    go_wp2
    all_goals go_ret
    all_goals exact ⟨ret_int hB.out.symm, rfl⟩
  · have hB := Lib.hid (show bitV x i = 0 from if_neg h)
    by_cases h0 : i < 0
    · clear h
      go_enter Try.func64, Try.ntmps64
      go_wp2
      all_goals go_ret
      all_goals exact ⟨ret_int hB.out.symm, rfl⟩
    · have h1 : 63 < i := by omega
      clear h
      go_enter Try.func64, Try.ntmps64
      go_wp2
      all_goals go_ret
      all_goals exact ⟨ret_int hB.out.symm, rfl⟩
def upV (g : Nat → Int → Int) : Nat → Int
  | 0 => 0
  | k + 1 => g k (upV g k)
/-- pairs -/
def upP (g : Nat → Int × Int → Int × Int) : Nat → Int × Int
  | 0 => (0, 0)
  | k + 1 => g k (upP g k)
def shlV (b : Int) (k : Nat) : Int := IntKind.u64.wrap (b * 2 ^ k)
def orV64 (y b : Int) (k : Nat) : Int := bits BinOp.or IntKind.u64 y (IntKind.u64.wrap (b * 2 ^ k))
def cutG (x : Int) (k : Nat) (y : Int) : Int := bits BinOp.or IntKind.u64 y (IntKind.u64.wrap (bitV x k * 2 ^ k))
def cutV (W x : Int) : Int := upV (cutG x) W.toNat
def andG (a b : Int) (k : Nat) (y : Int) : Int := if bitV a k = 1 ∧ bitV b k = 1 then bits BinOp.or IntKind.u64 y (IntKind.u64.wrap (2 ^ k)) else y
def andV (W a b : Int) : Int := upV (andG a b) W.toNat
def addG (a b : Int) (k : Nat) (p : Int × Int) : Int × Int :=
  (bits BinOp.or IntKind.u64 p.1 (IntKind.u64.wrap ((IntKind.u64.wrap (IntKind.u64.wrap (bitV a k + bitV b k) + p.2)).tmod 2 * 2 ^ k)), IntKind.u64.wrap ((IntKind.u64.wrap (IntKind.u64.wrap (bitV a k + bitV b k) + p.2)).tdiv 2))
def addV (W a b : Int) : Int := (upP (addG a b) W.toNat).1
def notV (W a : Int) : Int := IntKind.u64.wrap (maskI W - cutV W a)
def orV (W a b : Int) : Int := notV W (andV W (notV W a) (notV W b))
def xorV (W a b : Int) : Int := IntKind.u64.wrap (orV W a b - andV W a b)
def negV (W a : Int) : Int := addV W (notV W a) 1
def subV (W a b : Int) : Int := addV W a (negV W b)
def mulG (W a b : Int) (k : Nat) (y : Int) : Int := if bitV b (W - 1 - k) = 1 then addV W (addV W y y) a else addV W y y
def mulV (W a b : Int) : Int := upV (mulG W a b) W.toNat

set_option maxHeartbeats 1000000 in
theorem cut51 (W x : Int) (h1 : 1 ≤ W) (h2 : W ≤ 64) (w : World) : Calls Try.prog 51 #[.int .i64 W, .int .u64 x] w fun e w' => e = .returned (.int .u64 (cutV W x)) ∧ w = w' := by
  obtain ⟨n, rfl⟩ : ∃ n : Nat, W = n := ⟨W.toNat, by omega⟩
  have HZ := Lib.hid (show cutV n x = upV (cutG x) n from rfl)
  go_enter Try.func51, Try.ntmps51
  go_wp2_with (go_at_call 63; refine (w63 n h1 h2 _).mono ?_; rintro e w' ⟨rfl, rfl⟩)
  go_loop [5, 9] (fun m i => ∃ k : Nat, k ≤ n ∧ i = .int .i64 k ∧ m = .int .u64 (upV (cutG x) k)) (fun _ i => n - (intOf i).toNat)
  case atStart => exact ⟨0, Nat.zero_le _, rfl, rfl⟩
  case round =>
    obtain ⟨k, hk, rfl, rfl⟩ := hrel
    by_cases hlt : k < n
    · have HS := Lib.hid (show upV (cutG x) (k + 1) = cutG x k (upV (cutG x) k) from rfl)
      generalize upV (cutG x) k = m at HS ⊢
      go_wp2_with (go_at_call 64; refine (bit64 _ _ _).mono ?_; rintro e w' ⟨rfl, rfl⟩)
      go_round
      case rel => exact ⟨k + 1, by omega, by go_num, by rw [HS.out]; rfl⟩
      case measure => simp [intOf]; omega
    · obtain rfl : k = n := by omega
      go_wp2_with fail
      go_ret
      exact ⟨ret_int HZ.out.symm, rfl⟩

theorem andG_yes {a b : Int} {k : Nat} {y : Int} (h1 : bitV a k = 1) (h2 : bitV b k = 1) : andG a b k y = bits BinOp.or IntKind.u64 y (IntKind.u64.wrap (2 ^ k)) := if_pos ⟨h1, h2⟩
theorem andG_no {a b : Int} {k : Nat} {y : Int} (h : ¬ (bitV a k = 1 ∧ bitV b k = 1)) : andG a b k y = y := if_neg h
set_option maxHeartbeats 1000000 in
theorem and67 (W a b : Int) (h1 : 1 ≤ W) (h2 : W ≤ 64) (w : World) : Calls Try.prog 67 #[.int .i64 W, .int .u64 a, .int .u64 b] w fun e w' => e = .returned (.int .u64 (andV W a b)) ∧ w = w' := by
  obtain ⟨n, rfl⟩ : ∃ n : Nat, W = n := ⟨W.toNat, by omega⟩
  have HZ := Lib.hid (show andV n a b = upV (andG a b) n from rfl)
  go_enter Try.func67, Try.ntmps67
  go_wp2_with (go_at_call 63; refine (w63 n h1 h2 _).mono ?_; rintro e w' ⟨rfl, rfl⟩)
  go_loop [7, 11] (fun m i => ∃ k : Nat, k ≤ n ∧ i = .int .i64 k ∧ m = .int .u64 (upV (andG a b) k)) (fun _ i => n - (intOf i).toNat)
  case atStart => exact ⟨0, Nat.zero_le _, rfl, rfl⟩
  case round =>
    obtain ⟨k, hk, rfl, rfl⟩ := hrel
    by_cases hlt : k < n
    · have HS := Lib.hid (show upV (andG a b) (k + 1) = andG a b k (upV (andG a b) k) from rfl)
      have HA := Lib.hid (@andG_yes a b k (upV (andG a b) k))
      have HB := Lib.hid (@andG_no a b k (upV (andG a b) k))
      generalize upV (andG a b) k = m at HS HA HB ⊢
      by_cases hp : bitV a k = 1
      · by_cases hq : bitV b k = 1
        · go_wp2_with (go_at_call 64; refine (bit64 _ _ _).mono ?_; rintro e w' ⟨rfl, rfl⟩)
          go_round
          case rel => exact ⟨k + 1, by omega, by go_num, by rw [HS.out, HA.out hp hq]; try rfl⟩
          case measure => simp [intOf]; omega
        · go_wp2_with (go_at_call 64; refine (bit64 _ _ _).mono ?_; rintro e w' ⟨rfl, rfl⟩)
          go_round
          case rel => exact ⟨k + 1, by omega, by go_num, by rw [HS.out, HB.out (fun h => hq h.2)]⟩
          case measure => simp [intOf]; omega
      · go_wp2_with (go_at_call 64; refine (bit64 _ _ _).mono ?_; rintro e w' ⟨rfl, rfl⟩)
        go_round
        case rel => exact ⟨k + 1, by omega, by go_num, by rw [HS.out, HB.out (fun h => hp h.1)]⟩
        case measure => simp [intOf]; omega
    · obtain rfl : k = n := by omega
      go_wp2_with fail
      go_ret
      exact ⟨ret_int HZ.out.symm, rfl⟩

set_option maxHeartbeats 1000000 in
theorem add70 (W a b : Int) (h1 : 1 ≤ W) (h2 : W ≤ 64) (w : World) : Calls Try.prog 70 #[.int .i64 W, .int .u64 a, .int .u64 b] w fun e w' => e = .returned (.int .u64 (addV W a b)) ∧ w = w' := by
  obtain ⟨n, rfl⟩ : ∃ n : Nat, W = n := ⟨W.toNat, by omega⟩
  have HZ := Lib.hid (show addV n a b = (upP (addG a b) n).1 from rfl)
  go_enter Try.func70, Try.ntmps70
  go_wp2_with (go_at_call 63; refine (w63 n h1 h2 _).mono ?_; rintro e w' ⟨rfl, rfl⟩)
  go_loop [7, 8, 13] (fun m c i => ∃ k : Nat, k ≤ n ∧ i = .int .i64 k ∧ m = .int .u64 (upP (addG a b) k).1 ∧ c = .int .u64 (upP (addG a b) k).2) (fun _ _ i => n - (intOf i).toNat)
  case atStart => exact ⟨0, Nat.zero_le _, rfl, rfl, rfl⟩
  case round =>
    obtain ⟨k, hk, rfl, rfl, rfl⟩ := hrel
    by_cases hlt : k < n
    · have HS := Lib.hid (show upP (addG a b) (k + 1) = addG a b k (upP (addG a b) k) from rfl)
      generalize upP (addG a b) k = m at HS ⊢
      obtain ⟨m1, m2⟩ := m
      go_wp2_with (go_at_call 64; refine (bit64 _ _ _).mono ?_; rintro e w' ⟨rfl, rfl⟩)
      go_round
      case rel => exact ⟨k + 1, by omega, by go_num, by rw [HS.out]; rfl, by rw [HS.out]; rfl⟩
      case measure => simp [intOf]; omega
    · obtain rfl : k = n := by omega
      go_wp2_with fail
      go_ret
      exact ⟨ret_int HZ.out.symm, rfl⟩

set_option maxHeartbeats 1000000 in
theorem not65 (W a : Int) (h1 : 1 ≤ W) (h2 : W ≤ 64) (w : World) : Calls Try.prog 65 #[.int .i64 W, .int .u64 a] w fun e w' => e = .returned (.int .u64 (notV W a)) ∧ w = w' := by
  go_enter Try.func65, Try.ntmps65
  go_wp2_with (first | (go_at_call 62; refine (mask62 _ h1 h2 _).mono ?_; rintro e w' ⟨rfl, rfl⟩) | (go_at_call 51; refine (cut51 _ _ h1 h2 _).mono ?_; rintro e w' ⟨rfl, rfl⟩))
  all_goals go_ret
  all_goals exact ⟨ret_int rfl, rfl⟩

set_option maxHeartbeats 1000000 in
theorem or68 (W a b : Int) (h1 : 1 ≤ W) (h2 : W ≤ 64) (w : World) : Calls Try.prog 68 #[.int .i64 W, .int .u64 a, .int .u64 b] w fun e w' => e = .returned (.int .u64 (orV W a b)) ∧ w = w' := by
  go_enter Try.func68, Try.ntmps68
  go_wp2_with (first | (go_at_call 65; refine (not65 _ _ h1 h2 _).mono ?_; rintro e w' ⟨rfl, rfl⟩) | (go_at_call 67; refine (and67 _ _ _ h1 h2 _).mono ?_; rintro e w' ⟨rfl, rfl⟩))
  all_goals go_ret
  all_goals exact ⟨ret_int rfl, rfl⟩

set_option maxHeartbeats 1000000 in
theorem xor69 (W a b : Int) (h1 : 1 ≤ W) (h2 : W ≤ 64) (w : World) : Calls Try.prog 69 #[.int .i64 W, .int .u64 a, .int .u64 b] w fun e w' => e = .returned (.int .u64 (xorV W a b)) ∧ w = w' := by
  go_enter Try.func69, Try.ntmps69
  go_wp2_with (first | (go_at_call 68; refine (or68 _ _ _ h1 h2 _).mono ?_; rintro e w' ⟨rfl, rfl⟩) | (go_at_call 67; refine (and67 _ _ _ h1 h2 _).mono ?_; rintro e w' ⟨rfl, rfl⟩))
  all_goals go_ret
  all_goals exact ⟨ret_int rfl, rfl⟩

set_option maxHeartbeats 1000000 in
theorem neg66 (W a : Int) (h1 : 1 ≤ W) (h2 : W ≤ 64) (w : World) : Calls Try.prog 66 #[.int .i64 W, .int .u64 a] w fun e w' => e = .returned (.int .u64 (negV W a)) ∧ w = w' := by
  go_enter Try.func66, Try.ntmps66
  go_wp2_with (first | (go_at_call 65; refine (not65 _ _ h1 h2 _).mono ?_; rintro e w' ⟨rfl, rfl⟩) | (go_at_call 70; refine (add70 _ _ _ h1 h2 _).mono ?_; rintro e w' ⟨rfl, rfl⟩))
  all_goals go_ret
  all_goals exact ⟨ret_int rfl, rfl⟩

set_option maxHeartbeats 1000000 in
theorem sub71 (W a b : Int) (h1 : 1 ≤ W) (h2 : W ≤ 64) (w : World) : Calls Try.prog 71 #[.int .i64 W, .int .u64 a, .int .u64 b] w fun e w' => e = .returned (.int .u64 (subV W a b)) ∧ w = w' := by
  go_enter Try.func71, Try.ntmps71
  go_wp2_with (first | (go_at_call 66; refine (neg66 _ _ h1 h2 _).mono ?_; rintro e w' ⟨rfl, rfl⟩) | (go_at_call 70; refine (add70 _ _ _ h1 h2 _).mono ?_; rintro e w' ⟨rfl, rfl⟩))
  all_goals go_ret
  all_goals exact ⟨ret_int rfl, rfl⟩

set_option maxHeartbeats 1000000 in
theorem mul72 (W a b : Int) (h1 : 1 ≤ W) (h2 : W ≤ 64) (w : World) : Calls Try.prog 72 #[.int .i64 W, .int .u64 a, .int .u64 b] w fun e w' => e = .returned (.int .u64 (mulV W a b)) ∧ w = w' := by
  obtain ⟨n, rfl⟩ : ∃ n : Nat, W = n := ⟨W.toNat, by omega⟩
  have HZ := Lib.hid (show mulV n a b = upV (mulG n a b) n from rfl)
  go_enter Try.func72, Try.ntmps72
  go_wp2_with (go_at_call 63; refine (w63 n h1 h2 _).mono ?_; rintro e w' ⟨rfl, rfl⟩)
  go_loop [7, 8] (fun m i => ∃ k : Nat, k ≤ n ∧ i = .int .i64 ((n : Int) - 1 - k) ∧ m = .int .u64 (upV (mulG n a b) k)) (fun _ i => (intOf i + 1).toNat)
  case atStart => exact ⟨0, Nat.zero_le _, by go_num, rfl⟩
  case round =>
    obtain ⟨k, hk, rfl, rfl⟩ := hrel
    by_cases hlt : k < n
    · have HS := Lib.hid (show upV (mulG n a b) (k + 1) = mulG n a b k (upV (mulG n a b) k) from rfl)
      generalize upV (mulG n a b) k = m at HS ⊢
      obtain ⟨x, hx⟩ : ∃ x : Int, x = (n : Int) - 1 - k := ⟨_, rfl⟩
      have HG := Lib.hid (show mulG n a b k m = if bitV b x = 1 then addV n (addV n m m) a else addV n m m by rw [hx]; rfl)
      have HX := Lib.hid (show x - 1 = (n : Int) - 1 - ((k + 1 : Nat) : Int) by omega)
      have x0 : 0 ≤ x := by omega
      have x1 : x ≤ 63 := by omega
      rw [← hx]
      have HXX := Lib.hid hx
      clear hx
      have C1 := Lib.hid (bit64 b x w)
      generalize bitV b x = p at HG C1
      by_cases hp : p = 1
      · subst hp
        go_wp2_with (first | (go_at_call 64; refine C1.out.mono ?_; rintro e w' ⟨rfl, rfl⟩) | (go_at_call 70; refine (add70 _ _ _ h1 h2 _).mono ?_; rintro e w' ⟨rfl, rfl⟩))
        go_round
        case rel => exact ⟨k + 1, by omega, by rw [HX.out], by rw [HS.out, HG.out]; rfl⟩
        case measure => simp [intOf]; omega
      · have HG2 := Lib.hid (HG.out.trans (if_neg hp))
        go_wp2_with (first | (go_at_call 64; refine C1.out.mono ?_; rintro e w' ⟨rfl, rfl⟩) | (go_at_call 70; refine (add70 _ _ _ h1 h2 _).mono ?_; rintro e w' ⟨rfl, rfl⟩))
        go_round
        case rel => exact ⟨k + 1, by omega, by rw [HX.out], by rw [HS.out, HG2.out]⟩
        case measure => simp [intOf]; omega
    · obtain rfl : k = n := by omega
      go_wp2_with fail
      go_ret
      exact ⟨ret_int HZ.out.symm, rfl⟩
end Go.Proofs.Ytjmmaaphadeokaa
