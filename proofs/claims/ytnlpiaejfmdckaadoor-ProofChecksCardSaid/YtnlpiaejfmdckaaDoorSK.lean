/- The reference's Index: how many elements are less. -/
import Derived.Test.YtnlpiaejfmdckaaDoorR
namespace Go.Proofs.YtnlpiaejfmdckaaDoor
open Go.RowKit
set_option linter.unusedVariables false
set_option linter.unusedSimpArgs false
def lsN (x : Int) : List Int → Nat
  | [] => 0
  | z :: zs => (if z < x then 1 else 0) + lsN x zs
theorem lsN_cons (x z : Int) (zs : List Int) : lsN x (z :: zs) = (if z < x then 1 else 0) + lsN x zs := rfl
theorem lsN_le (x : Int) : ∀ (zs : List Int), lsN x zs ≤ zs.length
  | [] => Nat.le_refl _
  | z :: zs => by
    have := lsN_le x zs
    rw [lsN_cons, List.length_cons]
    split <;> omega
set_option maxRecDepth 100000 in
set_option maxHeartbeats 4000000 in
theorem index56 (zs : List Int) (x : Int) (hl : zs.length ≤ 100000) (w : World) (p : Option Addr) (c : Nat) (hp : RowI (mem 0 w) w p c zs) : Calls Tryd.prog 56 #[.slice p zs.length c, .int .i64 x] w fun e w' => e = .returned (.int .i64 (lsN x zs : Int)) ∧ w = w' := by
  have HP := Lib.hid hp
  have HL := Lib.hid hl
  have HU := Lib.hid (lsN_le x zs)
  clear hp hl
  generalize hr : lsN x zs = r at *
  have HR := Lib.hid hr
  clear hr
  go_enter Tryd.func56, Tryd.ntmps56
  go_wp2_with fail
  go_loopw [5, 6] (fun nv iv wr => ∃ k u : Nat, k ≤ zs.length ∧ u ≤ 100000 ∧ nv = .int .i64 (u : Int) ∧ iv = .int .i64 (k : Int) ∧ u + lsN x (zs.drop k) = r ∧ w = wr) (fun _ iv _ => zs.length - (intOf iv).toNat)
  case atStart => exact ⟨0, 0, Nat.zero_le _, Nat.zero_le _, rfl, rfl, by have := HR.out; simpa using this, rfl⟩
  case round =>
    obtain ⟨k, u, hk, hu, rfl, rfl, heq, rfl⟩ := hrel
    have EQ := Lib.hid heq
    have UU := Lib.hid hu
    clear heq
    by_cases e : k = zs.length
    · have hd : decide (k < zs.length) = false := by simp [e]
      have EQ2 := EQ.out
      rw [List.drop_of_length_le (by omega)] at EQ2
      have EQ3 : r = u := EQ2.symm
      subst EQ3
      subst e
      go_wp2_with fail
      go_ret
      exact ⟨rfl, rfl⟩
    · have hlt : k < zs.length := by omega
      have hd : decide (k < zs.length) = true := by simpa using hlt
      have hki : (k : Int) < (zs.length : Int) := by omega
      have ei : IntKind.i64.wrap ((k : Int) + 1) = (k : Int) + 1 := by have := HL.out; exact IntWalk.i64_in _ (by omega)
      have HLT := Lib.hid hlt
      obtain ⟨b, o, rfl, -, z0⟩ := HP.out.get hlt
      have EQ2 := EQ.out
      rw [List.drop_eq_getElem_cons hlt, lsN_cons] at EQ2
      have eu : IntKind.i64.wrap ((u : Int) + 1) = (u : Int) + 1 := by have := UU.out; exact IntWalk.i64_in _ (by omega)
      generalize zs[k] = z at *
      by_cases h5 : z < x
      · have EQ3 := Lib.hid (show (u + 1) + lsN x (zs.drop (k + 1)) = r from by have := EQ2; simp only [if_pos h5] at this; omega)
        have LU := Lib.hid (show u + 1 ≤ 100000 from by have h1 := EQ3.out; have h2 := HU.out; have h3 := HL.out; omega)
        clear EQ2
        go_wp2_with fail
        go_roundw
        case rel => exact ⟨k + 1, u + 1, by have := HLT.out; omega, LU.out, by go_num, by go_num, EQ3.out, by first | rfl | trivial⟩
        case measure => have := HLT.out; simp [intOf]; omega
      · have EQ3 := Lib.hid (show u + lsN x (zs.drop (k + 1)) = r from by have := EQ2; simp only [if_neg h5] at this; omega)
        clear EQ2
        go_wp2_with fail
        go_roundw
        case rel => exact ⟨k + 1, u, by have := HLT.out; omega, UU.out, rfl, by go_num, EQ3.out, by first | rfl | trivial⟩
        case measure => have := HLT.out; simp [intOf]; omega
end Go.Proofs.YtnlpiaejfmdckaaDoor
