/- Package scheduler and its reference: clamped numbers and doubled ones. -/
import Derived.Test.YtbpmkbnldoeffaaRows
import Derived.WalkKit
import Derived.WalkSpells
import Derived.WalkLawsBesides
import Derived.Lib.Hide
import Derived.Lib.MinMax
import Derived.IntWalk
import Derived.Below
import Derived.WalkSmall
import Derived.Deep.DeepMust
import Derived.Deep.RegionHeld3
import Derived.Deep.RegionWith
import Derived.Deep.QuietTactic
import Derived.BigQuiet
namespace Go.Proofs.Ytbpmkbnldoeffaa
open Go.RowKit
set_option linter.unusedVariables false
set_option linter.unusedSimpArgs false
theorem ret_bool {a b : Bool} (h : a = b) : Ending.returned (.bool a) = .returned (.bool b) := by rw [h]
theorem ret_int {k : IntKind} {a b : Int} (h : a = b) : Ending.returned (.int k a) = .returned (.int k b) := by rw [h]
theorem below_alloc (w : World) (o : Obj) : Below w.heap.size w (w.alloc o) := (Below.refl _ _).alloc (Nat.le_refl _) o
theorem below_chain {a b c : World} (h : Below a.heap.size a b) (k : Below b.heap.size b c) : Below a.heap.size a c := h.trans (k.mono h.size)
def BK (w0 w' : World) : Prop := Below w0.heap.size w0 w'
theorem BK.refl (w : World) : BK w w := Below.refl _ _
theorem bk_drew {w0 wc : World} (h : BK w0 wc) : BK w0 wc.drew := below_drewN (B := w0.heap.size) (a := w0) (w := wc) h 1
theorem bk_chain {a b c : World} (h : BK a b) (k : Below b.heap.size b c) : BK a c := below_chain h k
/-- n from lo to hi -/
def cl (n lo hi : Int) : Int := min (max n lo) hi
/-- n doubled t times, at most 2^40 -/
def gr (n t : Int) : Int := min (n * 2 ^ t.toNat) 1099511627776
theorem cl_le (n lo hi : Int) : cl n lo hi ≤ hi := by unfold cl; omega
theorem cl_ge (n lo hi : Int) (h : lo ≤ hi) : lo ≤ cl n lo hi := by unfold cl; omega
theorem cl_cl (n lo hi : Int) (h : lo ≤ hi) : cl (cl n lo hi) lo hi = cl n lo hi := by unfold cl; omega
theorem cl_in (n lo hi : Int) (h1 : lo ≤ n) (h2 : n ≤ hi) : cl n lo hi = n := by unfold cl; omega
theorem pow_le30 (t : Nat) (h : t ≤ 30) : (2 : Int) ^ t ≤ 1073741824 := by
  have : (2 : Nat) ^ t ≤ 2 ^ 30 := Nat.pow_le_pow_right (by omega) h
  have h2 : ((2 ^ t : Nat) : Int) ≤ ((2 ^ 30 : Nat) : Int) := Int.ofNat_le.2 this
  simpa using h2
theorem pow_pos' (t : Nat) : (0 : Int) < 2 ^ t := Int.pow_pos (by omega)
theorem mul_b (n : Int) (t : Nat) (h0 : 0 ≤ n) (h1 : n ≤ 65536) (ht : t ≤ 30) : 0 ≤ n * 2 ^ t ∧ n * 2 ^ t ≤ 70368744177664 := by
  have hp := pow_le30 t ht
  have hq := pow_pos' t
  refine ⟨Int.mul_nonneg h0 (Int.le_of_lt hq), ?_⟩
  calc n * 2 ^ t ≤ 65536 * 2 ^ t := Int.mul_le_mul_of_nonneg_right h1 (Int.le_of_lt hq)
    _ ≤ 65536 * 1073741824 := Int.mul_le_mul_of_nonneg_left hp (by omega)
    _ = 70368744177664 := by decide
theorem gr_ge (n t : Int) (h : 1 ≤ n) : 1 ≤ gr n t := by
  unfold gr
  have hq := pow_pos' t.toNat
  have : 1 * 1 ≤ n * 2 ^ t.toNat := Int.mul_le_mul h (by omega) (by omega) (by omega)
  omega
theorem gr_le (n t : Int) : gr n t ≤ 1099511627776 := by unfold gr; omega
theorem gr_zero (n : Int) (h : n ≤ 65536) : gr n 0 = n := by unfold gr; simp; omega
theorem gr_mono (n s t : Int) (h : 0 ≤ n) (hs : 0 ≤ s) (hst : s ≤ t) : gr n s ≤ gr n t := by
  unfold gr
  have hp : (2 : Nat) ^ s.toNat ≤ 2 ^ t.toNat := Nat.pow_le_pow_right (by omega) (by omega)
  have h2 : ((2 ^ s.toNat : Nat) : Int) ≤ ((2 ^ t.toNat : Nat) : Int) := Int.ofNat_le.2 hp
  have h3 : n * (2 : Int) ^ s.toNat ≤ n * 2 ^ t.toNat := Int.mul_le_mul_of_nonneg_left (by simpa using h2) h
  omega
/-- the loop of the reference -/
def gl (n : Int) : Nat → Int
  | 0 => n
  | k + 1 => min (2 * gl n k) 1099511627776
theorem gl_gr (n : Int) (h0 : 0 ≤ n) (h1 : n ≤ 65536) (k : Nat) : gl n k = min (n * 2 ^ k) 1099511627776 := by
  induction k with
  | zero => simp [gl]; omega
  | succ k ih =>
    have hq := pow_pos' k
    have : 0 ≤ n * 2 ^ k := Int.mul_nonneg h0 (Int.le_of_lt hq)
    rw [gl, ih, Int.pow_succ, ← Int.mul_assoc]
    generalize n * 2 ^ k = z at *
    omega
theorem gl_b (n : Int) (h0 : 0 ≤ n) (h1 : n ≤ 65536) (k : Nat) : 0 ≤ gl n k ∧ gl n k ≤ 1099511627776 := by
  rw [gl_gr n h0 h1]
  have hq := pow_pos' k
  have : 0 ≤ n * 2 ^ k := Int.mul_nonneg h0 (Int.le_of_lt hq)
  omega
set_option maxHeartbeats 400000 in
theorem clamp_any (n lo hi : Int) (w : World) : Calls Try.prog 21 #[.int .i64 n, .int .i64 lo, .int .i64 hi] w fun e w' => e = .returned (.int .i64 (cl n lo hi)) ∧ w = w' := by
  go_enter Try.func21, Try.ntmps21
  go_wp2
  go_ret
  exact ⟨rfl, rfl⟩
set_option maxHeartbeats 400000 in
theorem rclamp_any (n lo hi : Int) (w : World) : Calls Try.prog 23 #[.int .i64 n, .int .i64 lo, .int .i64 hi] w fun e w' => e = .returned (.int .i64 (cl n lo hi)) ∧ w = w' := by
  go_enter Try.func23, Try.ntmps23
  go_wp2
  go_ret
  exact ⟨rfl, rfl⟩
/-- a state -/
def bo (l b t u : Int) : Value := .agg #[.int .i64 l, .int .i64 b, .int .i64 t, .int .i64 u]
def nL (l : Int) : Int := cl l 1 65536
def nT (t : Int) : Int := cl t 0 30
def nU (u : Int) : Int := cl u 0 4398046511104
def nI (n : Int) : Int := cl n 0 1099511627776
set_option maxHeartbeats 1000000 in
theorem clamped_any (l b t u : Int) (w : World) : Calls Try.prog 22 #[.agg #[.int .i64 l, .int .i64 b, .int .i64 t, .int .i64 u]] w fun e w' => e = .returned (.agg #[.int .i64 (nL l), .int .i64 (nL b), .int .i64 (nT t), .int .i64 (nU u)]) ∧ Below w.heap.size w w' := by
  go_enter Try.func22, Try.ntmps22
  go_wp2_with (go_at_call 21; refine (clamp_any _ _ _ _).mono ?_; rintro e w' ⟨rfl, rfl⟩)
  refine bodyPost_ret (v := .agg #[.int .i64 (nL l), .int .i64 (nL b), .int .i64 (nT t), .int .i64 (nU u)]) (by simp [results, Try.results22, go_sem, nL, nT, nU]) rfl ⟨rfl, ?_⟩
  repeat (first | exact Below.refl _ _ | refine Below.setCell ?_ (by simp) _ | refine Below.alloc ?_ (by simp) _)
set_option maxHeartbeats 400000 in
theorem doubled_any (n t : Int) (w : World) (h0 : 0 ≤ n) (h1 : n ≤ 65536) (t0 : 0 ≤ t) (t1 : t ≤ 30) : Calls Try.prog 25 #[.int .i64 n, .int .i64 t] w fun e w' => e = .returned (.int .i64 (gr n t)) ∧ w = w' := by
  have hm := mul_b n t.toNat h0 h1 (by omega)
  have hw : IntKind.i64.wrap (n * 2 ^ t.toNat) = n * 2 ^ t.toNat := IntWalk.i64_in _ (by omega)
  go_enter Try.func25, Try.ntmps25
  go_wp2
  go_ret
  exact ⟨ret_int (by unfold gr; first | rfl | rw [hw] | simp [hw]), rfl⟩
set_option maxHeartbeats 1000000 in
theorem grown_any (n t : Int) (w : World) (h0 : 0 ≤ n) (h1 : n ≤ 65536) (t0 : 0 ≤ t) (t1 : t ≤ 30) : Calls Try.prog 26 #[.int .i64 n, .int .i64 t] w fun e w' => e = .returned (.int .i64 (gr n t)) ∧ w = w' := by
  obtain ⟨m, rfl⟩ : ∃ m : Nat, t = m := ⟨t.toNat, by omega⟩
  have hg := Lib.hid (gl_gr n h0 h1 m)
  have hb := Lib.hid (gl_b n h0 h1)
  clear h1
  go_enter Try.func26, Try.ntmps26
  go_wp2
  go_loop [0, 5] (fun v i => ∃ k : Nat, k ≤ m ∧ i = .int .i64 k ∧ v = .int .i64 (gl n k)) (fun _ i => m - (intOf i).toNat)
  case atStart => exact ⟨0, Nat.zero_le _, rfl, rfl⟩
  case round =>
    obtain ⟨k, hk, rfl, rfl⟩ := hrel
    have hbk := hb.out k
    by_cases hlt : k < m
    · go_wp2
      go_round
      case rel => exact ⟨k + 1, by omega, by go_num, rfl⟩
      case measure => simp [intOf]; omega
    · go_wp2
      go_ret
      obtain rfl : k = m := by omega
      exact ⟨ret_int (by rw [hg.out]; unfold gr; simp), rfl⟩
end Go.Proofs.Ytbpmkbnldoeffaa
