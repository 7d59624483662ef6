/- FormatUint at base 10; Dec. -/
import Derived.Test.YtneidfbgdgegjaaGreatDoorDD
namespace Go.Proofs.YtneidfbgdgegjaaGreatDoor
open Go.RowKit
set_option linter.unusedVariables false
set_option linter.unusedSimpArgs false
theorem ret_str {a b : ByteArray} (h : a = b) : Ending.returned (.string a) = .returned (.string b) := by rw [h]
theorem dec72 (u : Nat) (hu64 : u < 18446744073709551616) (w : World) (ht : Tb w) :
    Calls Tryz.prog 72 #[.int .u64 u] w fun e w' => e = .returned (.string ⟨(wrn 10 u).toArray⟩) ∧ BK w w' := by
  have H0 := fu37_10 u hu64 w ht
  have H : Calls Tryz.prog 90 #[.int .u64 u, .int .i64 10] w fun e w' => e = .returned (.string ⟨(wrn 10 u).toArray⟩) ∧ BK w w' := by
    clear ht hu64
    go_enter Tryz.func90, Tryz.ntmps90
    go_wp2_with (go_at_call 104; refine H0.mono ?_; rintro e w' ⟨rfl, hb⟩; have HB := Lib.hid hb; clear hb)
    go_ret
    exact ⟨rfl, HB.out⟩
  clear ht hu64 H0
  go_enter Tryz.func72, Tryz.ntmps72
  go_wp2_with (go_at_call 90; refine H.mono ?_; rintro e w' ⟨rfl, hb⟩; have HB := Lib.hid hb; clear hb)
  go_ret
  exact ⟨rfl, HB.out⟩
theorem wrn_le (b : Nat) (hb : 2 ≤ b) : ∀ (k u : Nat), u < b ^ (k + 1) → (wrn b u).length ≤ k + 1
  | 0, u, h => by rw [wrn_lt (by simpa using h)]; simp
  | k + 1, u, h => by
    by_cases hu : u < b
    · rw [wrn_lt hu]; simp
    · rw [wrn_ge hb (by omega), List.length_append]
      have := wrn_le b hb k (u / b) (Nat.div_lt_of_lt_mul (by rw [Nat.mul_comm, ← Nat.pow_succ]; exact h))
      simp; omega
theorem wrn_len (b u : Nat) (hb : b = 10 ∨ b = 16) (h : u < 18446744073709551616) : (wrn b u).length ≤ 64 := by
  refine wrn_le b (by omega) 63 u (Nat.lt_of_lt_of_le h ?_)
  rw [show (18446744073709551616 : Nat) = 2 ^ 64 by decide]
  exact Nat.pow_le_pow_left (by omega) 64
end Go.Proofs.YtneidfbgdgegjaaGreatDoor
