/- The law Long: its text. -/
import Derived.Test.YtgiheheakgigkaaAE
namespace Go.Proofs.Ytgiheheakgigkaa
open Go.RowKit
set_option linter.unusedVariables false
set_option linter.unusedSimpArgs false
theorem Sp.of (L : List UInt8) (n : Nat) (hl : L.length = n + 1) (h : ∀ i, i < n → L[i]? = some 32) (h97 : L[n]? = some 97) : Sp ⟨L.toArray⟩ n := by
  have get : ∀ i (hi : i < L.length), (xo ⟨L.toArray⟩).f i = L[i].toNat := fun i hi => by
    rw [xo_f (show i < (⟨L.toArray⟩ : ByteArray).size from by show i < L.toArray.size; simpa using hi)]
    rfl
  refine ⟨by show L.toArray.size = _; simpa using hl, fun i hi => ?_, ?_, ?_⟩
  · rw [get i (by omega)]
    have := h i hi
    rw [List.getElem?_eq_getElem (by omega)] at this
    simp only [Option.some.injEq] at this
    rw [this]; rfl
  · rw [get n (by omega)]
    rw [List.getElem?_eq_getElem (by omega)] at h97
    simp only [Option.some.injEq] at h97
    rw [h97]; rfl
  · apply ByteArray.ext
    rw [ByteArray.data_extract]
    apply Array.ext'
    simp only [List.extract_toArray]
    rw [List.getElem?_eq_getElem (by omega)] at h97
    simp only [Option.some.injEq] at h97
    rw [List.extract_eq_take_drop]
    rw [List.drop_eq_getElem_cons (by omega), h97]
    simp
end Go.Proofs.Ytgiheheakgigkaa
