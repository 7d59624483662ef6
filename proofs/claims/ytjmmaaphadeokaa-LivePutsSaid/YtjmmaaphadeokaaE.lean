/- Masks; a register that is missing. -/
import Derived.Test.YtjmmaaphadeokaaD
namespace Go.Proofs.Ytjmmaaphadeokaa
open Go.RowKit
set_option linter.unusedVariables false
set_option linter.unusedSimpArgs false
set_option maxHeartbeats 400000 in
theorem clamp102 (W : Int) (h1 : 1 ≤ W) (h2 : W ≤ 64) (w : World) : Calls Try.prog 102 #[.int .i64 W] w fun e w' => e = .returned (.int .i64 W) ∧ w = w' := by
  go_enter Try.func102, Try.ntmps102
  go_wp2
  all_goals go_ret
  all_goals exact ⟨ret_int (by omega), rfl⟩
set_option maxHeartbeats 400000 in
theorem w63 (W : Int) (h1 : 1 ≤ W) (h2 : W ≤ 64) (w : World) : Calls Try.prog 63 #[.int .i64 W] w fun e w' => e = .returned (.int .i64 W) ∧ w = w' := by
  go_enter Try.func63, Try.ntmps63
  go_wp2
  all_goals go_ret
  all_goals exact ⟨ret_int (by omega), rfl⟩
theorem mask_shift (W : Int) (h1 : 1 ≤ W) (h2 : W ≤ 64) : (18446744073709551615 : Int) / 2 ^ (64 - W).toNat = maskI W := by
  have : ∀ n : Fin 65, (18446744073709551615 : Int) / 2 ^ (64 - (n.val : Int)).toNat = 2 ^ n.val - 1 := by decide +kernel
  obtain ⟨n, rfl⟩ : ∃ n : Nat, W = n := ⟨W.toNat, by omega⟩
  have h := this ⟨n, by omega⟩
  unfold maskI
  simpa using h
set_option maxHeartbeats 400000 in
theorem mask96 (W : Int) (h1 : 1 ≤ W) (h2 : W ≤ 64) (w : World) : Calls Try.prog 96 #[.int .i64 W] w fun e w' => e = .returned (.int .u64 (maskI W)) ∧ w = w' := by
  go_enter Try.func96, Try.ntmps96
  go_wp2_with (go_at_call 102; refine (clamp102 W h1 h2 _).mono ?_; rintro e w' ⟨rfl, rfl⟩)
  go_ret
  exact ⟨ret_int (mask_shift W h1 h2), rfl⟩
def mN (k : Nat) : Int := 2 ^ k - 1
theorem mN_bd (k : Nat) (h : k < 64) : 0 ≤ mN k ∧ mN k ≤ 9223372036854775807 := by
  have : ∀ n : Fin 64, 0 ≤ mN n.val ∧ mN n.val ≤ 9223372036854775807 := by decide +kernel
  exact this ⟨k, h⟩
theorem mN_succ (k : Nat) : mN k * 2 + 1 = mN (k + 1) := by unfold mN; rw [Int.pow_succ]; omega
set_option maxHeartbeats 1000000 in
theorem mask62 (W : Int) (h1 : 1 ≤ W) (h2 : W ≤ 64) (w : World) : Calls Try.prog 62 #[.int .i64 W] w fun e w' => e = .returned (.int .u64 (maskI W)) ∧ w = w' := by
  obtain ⟨n, rfl⟩ : ∃ n : Nat, W = n := ⟨W.toNat, by omega⟩
  have HM := Lib.hid (show maskI (n : Int) = mN n from by unfold maskI mN; simp)
  go_enter Try.func62, Try.ntmps62
  go_wp2_with (go_at_call 63; refine (w63 n h1 h2 _).mono ?_; rintro e w' ⟨rfl, rfl⟩)
  go_loop [3, 6] (fun m i => ∃ k : Nat, k ≤ n ∧ i = .int .i64 k ∧ m = .int .u64 (mN k)) (fun _ i => n - (intOf i).toNat)
  case atStart => exact ⟨0, Nat.zero_le _, rfl, rfl⟩
  case round =>
    obtain ⟨k, hk, rfl, rfl⟩ := hrel
    by_cases hlt : k < n
    · obtain ⟨b1, b2⟩ := mN_bd k (by omega)
      have HS := Lib.hid (mN_succ k)
      generalize mN k = m at b1 b2 HS
      go_wp2_with fail
      go_round
      case rel => exact ⟨k + 1, by omega, by go_num, by rw [← HS.out]; try go_num⟩
      case measure => simp [intOf]; omega
    · obtain rfl : k = n := by omega
      go_wp2_with fail
      go_ret
      exact ⟨ret_int HM.out.symm, rfl⟩
/-! a register that is missing: the closure -/
def missB (R r : Int) : Bool := !inB R r
set_option maxHeartbeats 1000000 in
theorem miss93 (W R r : Int) (p q : Option Addr) (n pc m qc : Nat) (b : Nat) (w : World) (h : B4 w b (.int .i64 W) (.int .i64 R) (.slice p n pc) (.slice q m qc)) :
    Calls Try.prog 93 #[.int .i64 r, .pointer (some ⟨b, 0, none⟩)] w fun e w' => e = .returned (.bool (missB R r)) ∧ BK w w' := by
  obtain ⟨c0, c1, c2, c3⟩ := h
  have HM := Lib.hid (show missB R r = !inB R r from rfl)
  have H := Lib.hid (reg94 W R r p q n pc m qc w)
  generalize inB R r = x at H HM
  go_enter Try.func93, Try.ntmps93
  go_wp2_with (go_at_call 94; refine H.out.mono ?_; rintro e w1 ⟨rfl, hb⟩; have HB := Lib.hid hb; clear hb)
  go_ret
  exact ⟨ret_bool HM.out.symm, HB.out⟩
def anyMiss (R : Int) (l : List Int) : Bool := l.any (fun r => !inB R r)
theorem anyMiss_drop (R : Int) (l : List Int) (k : Nat) (h : k < l.length) : anyMiss R (l.drop k) = (missB R l[k] || anyMiss R (l.drop (k + 1))) := by
  rw [List.drop_eq_getElem_cons h]; rfl
def IP (R : Int) (l : List Int) (w : World) (e : Ending) (w' : World) : Prop := ∃ x : Int, e = .returned (.int .i64 x) ∧ decide (0 ≤ x) = anyMiss R l ∧ BK w w'
set_option maxHeartbeats 1000000 in
theorem index101 (W R : Int) (p q : Option Addr) (n pc m qc : Nat) (b : Nat) (l : List Int) (s : Option Addr) (sc : Nat) (w : World) (h : B4 w b (.int .i64 W) (.int .i64 R) (.slice p n pc) (.slice q m qc)) (hr : RO w s sc l) (hl : l.length ≤ 1000) :
    Calls Try.prog 101 #[.slice s l.length sc, .func (.func 93) #[] #[.pointer (some ⟨b, 0, none⟩)]] w (IP R l w) := by
  have HZ := Lib.hid (show anyMiss R (l.drop l.length) = false by rw [List.drop_length]; rfl)
  have HR := Lib.hid hr
  have H4 := Lib.hid h
  clear h hr
  go_enter Try.func101, Try.ntmps101
  go_wp2_with fail
  go_loopw [8] (fun i wr => ∃ k : Nat, k ≤ l.length ∧ i = .int .i64 k ∧ anyMiss R l = anyMiss R (l.drop k) ∧ BK w wr) (fun i _ => l.length - (intOf i).toNat)
  case atStart => exact ⟨0, Nat.zero_le _, rfl, rfl, BK.refl _⟩
  case round =>
    obtain ⟨k, hk, rfl, hs, hb⟩ := hrel
    have HB := Lib.hid hb
    by_cases hlt : k < l.length
    · have HS := Lib.hid (hs.trans (anyMiss_drop R l k hlt))
      obtain ⟨b', o, rfl, hc⟩ := (HR.out.keep hb).get k hlt
      have HC := Lib.hid (miss93 W R l[k] p q n pc m qc b wr (H4.out.keep hb))
      clear hs hb
      generalize l[k] = y at hc HS HC
      generalize hz : missB R y = z at HS HC
      cases z
      · clear hz
        go_wp2_with (go_at_call 93; refine HC.out.mono ?_; rintro e w1 ⟨rfl, hb1⟩; have HB1 := Lib.hid (bk_tr HB.out hb1); clear hb1)
        go_roundw
        case rel => exact ⟨k + 1, by omega, by go_num, HS.out, HB1.out⟩
        case measure => simp [intOf]; omega
      · clear hz
        go_wp2_with (go_at_call 93; refine HC.out.mono ?_; rintro e w1 ⟨rfl, hb1⟩; have HB1 := Lib.hid (bk_tr HB.out hb1); clear hb1)
        go_ret
        exact ⟨_, rfl, by rw [HS.out]; simp, HB1.out⟩
    · obtain rfl : k = l.length := by omega
      have H1 := Lib.hid (hs.trans HZ.out)
      clear hs hb
      go_wp2_with fail
      go_ret
      exact ⟨_, rfl, by rw [H1.out]; rfl, HB.out⟩
set_option maxHeartbeats 1000000 in
theorem any95 (W R : Int) (p q : Option Addr) (n pc m qc : Nat) (b : Nat) (l : List Int) (s : Option Addr) (sc : Nat) (w : World) (h : B4 w b (.int .i64 W) (.int .i64 R) (.slice p n pc) (.slice q m qc)) (hr : RO w s sc l) (hl : l.length ≤ 1000) :
    Calls Try.prog 95 #[.slice s l.length sc, .func (.func 93) #[] #[.pointer (some ⟨b, 0, none⟩)]] w fun e w' => e = .returned (.bool (anyMiss R l)) ∧ BK w w' := by
  have HC := Lib.hid (index101 W R p q n pc m qc b l s sc w h hr hl)
  clear h hr
  go_enter Try.func95, Try.ntmps95
  go_wp2_with (go_at_call 101; refine HC.out.mono ?_; rintro e w1 ⟨x, rfl, hx, hb1⟩; have HX := Lib.hid hx; have HB1 := Lib.hid hb1; clear hb1 hx)
  all_goals go_ret
  all_goals exact ⟨ret_bool (by rw [← HX.out]), HB1.out⟩
end Go.Proofs.Ytjmmaaphadeokaa
