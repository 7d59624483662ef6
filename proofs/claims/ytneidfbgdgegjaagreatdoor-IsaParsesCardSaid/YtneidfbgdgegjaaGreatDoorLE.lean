/- Masks; a register that is missing. -/
import Derived.Test.YtneidfbgdgegjaaGreatDoorLD
namespace Go.Proofs.YtneidfbgdgegjaaGreatDoor
open Go.RowKit
set_option linter.unusedVariables false
set_option linter.unusedSimpArgs false
set_option maxHeartbeats 400000 in
theorem clamp102 (W : Int) (h1 : 1 ≤ W) (h2 : W ≤ 64) (w : World) : Calls Tryz.prog 84 #[.int .i64 W] w fun e w' => e = .returned (.int .i64 W) ∧ w = w' := by
  go_enter Tryz.func84, Tryz.ntmps84
  go_wp2
  all_goals go_ret
  all_goals exact ⟨ret_int (by omega), rfl⟩
set_option maxHeartbeats 400000 in
theorem w63 (W : Int) (h1 : 1 ≤ W) (h2 : W ≤ 64) (w : World) : Calls Tryz.prog 85 #[.int .i64 W] w fun e w' => e = .returned (.int .i64 W) ∧ w = w' := by
  go_enter Tryz.func85, Tryz.ntmps85
  go_wp2
  all_goals go_ret
  all_goals exact ⟨ret_int (by omega), rfl⟩
theorem mask_shift (W : Int) (h1 : 1 ≤ W) (h2 : W ≤ 64) : (18446744073709551615 : Int) / 2 ^ (64 - W).toNat = maskI W := by
  have : ∀ n : Fin 65, (18446744073709551615 : Int) / 2 ^ (64 - (n.val : Int)).toNat = 2 ^ n.val - 1 := by decide +kernel
  obtain ⟨n, rfl⟩ : ∃ n : Nat, W = n := ⟨W.toNat, by omega⟩
  have h := this ⟨n, by omega⟩
  unfold maskI
  simpa using h
set_option maxHeartbeats 400000 in
theorem mask96 (W : Int) (h1 : 1 ≤ W) (h2 : W ≤ 64) (w : World) : Calls Tryz.prog 64 #[.int .i64 W] w fun e w' => e = .returned (.int .u64 (maskI W)) ∧ w = w' := by
  go_enter Tryz.func64, Tryz.ntmps64
  go_wp2_with (go_at_call 84; refine (clamp102 W h1 h2 _).mono ?_; rintro e w' ⟨rfl, rfl⟩)
  go_ret
  exact ⟨ret_int (mask_shift W h1 h2), rfl⟩
def mN (k : Nat) : Int := 2 ^ k - 1
theorem mN_bd (k : Nat) (h : k < 64) : 0 ≤ mN k ∧ mN k ≤ 9223372036854775807 := by
  have : ∀ n : Fin 64, 0 ≤ mN n.val ∧ mN n.val ≤ 9223372036854775807 := by decide +kernel
  exact this ⟨k, h⟩
theorem mN_succ (k : Nat) : mN k * 2 + 1 = mN (k + 1) := by unfold mN; rw [Int.pow_succ]; omega
def missB (R r : Int) : Bool := !inB R r
set_option maxHeartbeats 1000000 in
theorem miss93 (W R r : Int) (p q : Option Addr) (n pc m qc : Nat) (b : Nat) (w : World) (h : B4 w b (.int .i64 W) (.int .i64 R) (.slice p n pc) (.slice q m qc)) :
    Calls Tryz.prog 61 #[.int .i64 r, .pointer (some ⟨b, 0, none⟩)] w fun e w' => e = .returned (.bool (missB R r)) ∧ BK w w' := by
  obtain ⟨c0, c1, c2, c3⟩ := h
  have HM := Lib.hid (show missB R r = !inB R r from rfl)
  have H := Lib.hid (reg94 W R r p q n pc m qc w)
  generalize inB R r = x at H HM
  go_enter Tryz.func61, Tryz.ntmps61
  go_wp2_with (go_at_call 62; refine H.out.mono ?_; rintro e w1 ⟨rfl, hb⟩; have HB := Lib.hid hb; clear hb)
  go_ret
  exact ⟨ret_bool HM.out.symm, HB.out⟩
def anyMiss (R : Int) (l : List Int) : Bool := l.any (fun r => !inB R r)
theorem anyMiss_drop (R : Int) (l : List Int) (k : Nat) (h : k < l.length) : anyMiss R (l.drop k) = (missB R l[k] || anyMiss R (l.drop (k + 1))) := by
  rw [List.drop_eq_getElem_cons h]; rfl
def IP (R : Int) (l : List Int) (w : World) (e : Ending) (w' : World) : Prop := ∃ x : Int, e = .returned (.int .i64 x) ∧ decide (0 ≤ x) = anyMiss R l ∧ BK w w'
set_option maxHeartbeats 1000000 in
theorem index101 (W R : Int) (p q : Option Addr) (n pc m qc : Nat) (b : Nat) (l : List Int) (s : Option Addr) (sc : Nat) (w : World) (h : B4 w b (.int .i64 W) (.int .i64 R) (.slice p n pc) (.slice q m qc)) (hr : RO w s sc l) (hl : l.length ≤ 1000) :
    Calls Tryz.prog 83 #[.slice s l.length sc, .func (.func 61) #[] #[.pointer (some ⟨b, 0, none⟩)]] w (IP R l w) := by
  have HZ := Lib.hid (show anyMiss R (l.drop l.length) = false by rw [List.drop_length]; rfl)
  have HR := Lib.hid hr
  have H4 := Lib.hid h
  clear h hr
  go_enter Tryz.func83, Tryz.ntmps83
  go_wp2_with fail
  go_loopw [8] (fun i wr => ∃ k : Nat, k ≤ l.length ∧ i = .int .i64 k ∧ anyMiss R l = anyMiss R (l.drop k) ∧ BK w wr) (fun i _ => l.length - (intOf i).toNat)
  case atStart => exact ⟨0, Nat.zero_le _, rfl, rfl, BK.refl _⟩
  case round =>
    obtain ⟨k, hk, rfl, hs, hb⟩ := hrel
    have HB := Lib.hid hb
    by_cases hlt : k < l.length
    · have HS := Lib.hid (hs.trans (anyMiss_drop R l k hlt))
      obtain ⟨b', o, rfl, hc⟩ := (HR.out.keep hb).get k hlt
      have HC := Lib.hid (miss93 W R l[k] p q n pc m qc b wr (H4.out.keep hb))
      clear hs hb
      generalize l[k] = y at hc HS HC
      generalize hz : missB R y = z at HS HC
      cases z
      · clear hz
        go_wp2_with (go_at_call 61; refine HC.out.mono ?_; rintro e w1 ⟨rfl, hb1⟩; have HB1 := Lib.hid (bk_tr HB.out hb1); clear hb1)
        go_roundw
        case rel => exact ⟨k + 1, by omega, by go_num, HS.out, HB1.out⟩
        case measure => simp [intOf]; omega
      · clear hz
        go_wp2_with (go_at_call 61; refine HC.out.mono ?_; rintro e w1 ⟨rfl, hb1⟩; have HB1 := Lib.hid (bk_tr HB.out hb1); clear hb1)
        go_ret
        exact ⟨_, rfl, by rw [HS.out]; simp, HB1.out⟩
    · obtain rfl : k = l.length := by omega
      have H1 := Lib.hid (hs.trans HZ.out)
      clear hs hb
      go_wp2_with fail
      go_ret
      exact ⟨_, rfl, by rw [H1.out]; rfl, HB.out⟩
set_option maxHeartbeats 1000000 in
theorem any95 (W R : Int) (p q : Option Addr) (n pc m qc : Nat) (b : Nat) (l : List Int) (s : Option Addr) (sc : Nat) (w : World) (h : B4 w b (.int .i64 W) (.int .i64 R) (.slice p n pc) (.slice q m qc)) (hr : RO w s sc l) (hl : l.length ≤ 1000) :
    Calls Tryz.prog 63 #[.slice s l.length sc, .func (.func 61) #[] #[.pointer (some ⟨b, 0, none⟩)]] w fun e w' => e = .returned (.bool (anyMiss R l)) ∧ BK w w' := by
  have HC := Lib.hid (index101 W R p q n pc m qc b l s sc w h hr hl)
  clear h hr
  go_enter Tryz.func63, Tryz.ntmps63
  go_wp2_with (go_at_call 83; refine HC.out.mono ?_; rintro e w1 ⟨x, rfl, hx, hb1⟩; have HX := Lib.hid hx; have HB1 := Lib.hid hb1; clear hb1 hx)
  all_goals go_ret
  all_goals exact ⟨ret_bool (by rw [← HX.out]), HB1.out⟩
end Go.Proofs.YtneidfbgdgegjaaGreatDoor
