/- live: the chapter's examples. -/
import Derived.Test.YtgiheheakgigkaaAB
import Derived.Test.YtgiheheakgigkaaW
namespace Go.Proofs.Ytgiheheakgigkaa
open Go.RowKit
set_option linter.unusedVariables false
set_option linter.unusedSimpArgs false
def s1 : ByteArray := ⟨#[40, 97, 100, 100, 32, 120, 58, 56, 32, 59, 32, 115, 117, 109, 10, 32, 49, 58, 56, 41]⟩
def s2 : ByteArray := ⟨#[40, 97, 41, 41]⟩
def s3 : ByteArray := ⟨#[97, 32, 98]⟩
def lf (a : ByteArray) : T := .mk a []
theorem q1 : parseR (xo s1) = (.mk ⟨#[]⟩ [lf ⟨#[97, 100, 100]⟩, lf ⟨#[120, 58, 56]⟩, lf ⟨#[49, 58, 56]⟩], 0, 0) := by kernel_rfl
theorem q2 : parseR (xo s2) = (zeroT, 3, 6) := by kernel_rfl
theorem q3 : parseR (xo s3) = (zeroT, 2, 6) := by kernel_rfl
theorem q4 : allR (xo s3) = .ok [lf ⟨#[97]⟩, lf ⟨#[98]⟩] 0 := by kernel_rfl
theorem q5 : prT (.mk ⟨#[]⟩ [lf ⟨#[97]⟩, zeroT]) = ⟨#[40, 97, 32, 40, 41, 41]⟩ := by kernel_rfl
end Go.Proofs.Ytgiheheakgigkaa
