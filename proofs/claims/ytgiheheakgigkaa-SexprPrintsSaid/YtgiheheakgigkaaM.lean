/- The reference: one s-expression, by levels. -/
import Derived.Test.YtgiheheakgigkaaL
namespace Go.Proofs.Ytgiheheakgigkaa
open Go.RowKit
set_option linter.unusedVariables false
set_option linter.unusedSimpArgs false
theorem exR_bad {x : X} (k i : Nat) (h : x.f i ≠ 40) (hb : ab (x.f i) = false) : exR x k i = .err i 6 := by
  cases k <;> (unfold exR; rw [if_pos ⟨h, hb⟩])
theorem exR_atom {x : X} (k i : Nat) (h : x.f i ≠ 40) (hb : ab (x.f i) = true) : exR x (k + 1) i = .ok (.mk (x.s i (ae x i)) []) (ae x i) := by
  unfold exR
  rw [if_neg (by rw [hb]; simp), if_pos h]
theorem exR_list {x : X} (k i : Nat) (h : x.f i = 40) : exR x (k + 1) i = ofEl (elF x (exR x k) (x.n - i) [] (i + 1)) := by
  rw [exR, if_neg (by rw [h]; simp), if_neg (by rw [h]; simp)]
  cases elF x (exR x k) (x.n - i) [] (i + 1) <;> rfl
theorem exR_deep {x : X} (i : Nat) (h : x.f i = 40 ∨ ab (x.f i) = true) : exR x 0 i = .err i 7 := by
  unfold exR
  rw [if_neg]
  rintro ⟨h1, h2⟩
  rcases h with h | h
  · exact h1 h
  · rw [h] at h2; cases h2
theorem one32 (s : ByteArray) (hs : s.size ≤ 100000) : ∀ (k op : Nat), op + k = 64 → ∀ (w : World) (i : Nat), i < s.size → Calls Try.prog 32 #[.string s, .int .i64 (i : Int), .int .i64 (op : Int)] w (ONP w (exR (xo s) k i)) := by
  intro k
  induction k with
  | zero =>
    intro op hop w i hi
    obtain rfl : op = 64 := by omega
    by_cases h40 : (xo s).f i = 40
    · rw [exR_deep i (.inl h40)]; exact one32_deep s w i hi (.inl h40)
    · cases hab : ab ((xo s).f i) with
      | true => rw [exR_deep i (.inr hab)]; exact one32_deep s w i hi (.inr hab)
      | false => rw [exR_bad 0 i h40 hab]; exact one32_bad s w i 64 hi h40 hab
  | succ k ih =>
    intro op hop w i hi
    by_cases h40 : (xo s).f i = 40
    · rw [exR_list k i h40, xo_n]
      exact one32_list s hs k op (by omega) (fun w i hi => by have := ih (op + 1) (by omega) w i hi; rwa [show ((op + 1 : Nat) : Int) = (op : Int) + 1 by omega] at this) w i hi h40
    · cases hab : ab ((xo s).f i) with
      | true => rw [exR_atom k i h40 hab]; exact one32_atom s hs w i op hi (by omega) h40 hab
      | false => rw [exR_bad (k + 1) i h40 hab]; exact one32_bad s w i op hi h40 hab
end Go.Proofs.Ytgiheheakgigkaa
