/- A long text: blanks, and an atom. -/
import Derived.Test.YtgiheheakgigkaaAD
namespace Go.Proofs.Ytgiheheakgigkaa
open Go.RowKit
set_option linter.unusedVariables false
set_option linter.unusedSimpArgs false
/-- n blanks, and an a -/
structure Sp (s : ByteArray) (n : Nat) : Prop where
  size : s.size = n + 1
  bl : ∀ i, i < n → (xo s).f i = 32
  at_ : (xo s).f n = 97
  ex : s.extract n (n + 1) = ⟨#[97]⟩
theorem sp_sk {s : ByteArray} {n : Nat} (h : Sp s n) : ∀ k i, i + k = n → sk (xo s) false i = n := by
  intro k
  induction k with
  | zero =>
    intro i hi
    obtain rfl : i = n := by omega
    rw [sk_step (by rw [xo_n, h.size]; omega), h.at_, if_neg (by decide), if_neg (by decide), if_pos ⟨rfl, by decide⟩]
  | succ k ih =>
    intro i hi
    rw [sk_step (by rw [xo_n, h.size]; omega), h.bl i (by omega), if_neg (by decide), if_neg (by decide), if_neg (by decide)]
    exact ih (i + 1) (by omega)
theorem sp_ae {s : ByteArray} {n : Nat} (h : Sp s n) : ae (xo s) n = n + 1 := by
  rw [ae_step (by rw [xo_n, h.size]; omega), h.at_, if_pos (by decide), ae_end (by rw [xo_n, h.size]; omega)]
theorem sp_all {s : ByteArray} {n : Nat} (h : Sp s n) : allR (xo s) = .ok [lf ⟨#[97]⟩] 0 := by
  have hsk := sp_sk h n 0 (by omega)
  have hex : exR (xo s) 64 n = .ok (lf ⟨#[97]⟩) (n + 1) := by
    rw [exR_atom 63 n (by rw [h.at_]; decide) (by rw [h.at_]; decide), sp_ae h]
    show R.ok (T.mk (s.extract n (n + 1)) []) (n + 1) = _
    rw [h.ex]; rfl
  unfold allR
  rw [xo_n, h.size, alF, hsk, xo_n, h.size, if_pos (by omega), hex]
  show alF (xo s) (n + 1) ([] ++ [lf ⟨#[97]⟩]) (n + 1) = _
  rw [alF, sk_end (by rw [xo_n, h.size]; exact Nat.le_refl _), xo_n, h.size, if_neg (by omega)]
  rfl
theorem sp_one {s : ByteArray} {n : Nat} (h : Sp s n) : parseR (xo s) = (lf ⟨#[97]⟩, 0, 0) := parse_one (sp_all h)
end Go.Proofs.Ytgiheheakgigkaa
