/- Uses, both. -/
import Derived.Test.YtnlpiaejfmdckaaDoorSG
namespace Go.Proofs.YtnlpiaejfmdckaaDoor
open Go.RowKit
set_option linter.unusedVariables false
set_option linter.unusedSimpArgs false
def usN : List S → Nat
  | [] => 0
  | s :: ss => (if s.k = 5 then 1 else 0) + usN ss
theorem usN_cons (s : S) (ss : List S) : usN (s :: ss) = (if s.k = 5 then 1 else 0) + usN ss := rfl
theorem usN_le : ∀ (ss : List S), usN ss ≤ ss.length
  | [] => Nat.le_refl _
  | s :: ss => by
    have := usN_le ss
    rw [usN_cons, List.length_cons]
    split <;> omega
set_option maxRecDepth 100000 in
set_option maxHeartbeats 4000000 in
theorem uses17 (ss : List S) (hl : ss.length ≤ 100000) (w : World) (p : Option Addr) (c : Nat) (hp : RowS (mem 0 w) w p c ss) : Calls Tryd.prog 17 #[.slice p ss.length c] w fun e w' => e = .returned (.int .i64 (usN ss : Int)) ∧ BK w w' := by
  have HP := Lib.hid hp
  have HL := Lib.hid hl
  have HU := Lib.hid (usN_le ss)
  clear hp hl
  generalize hr : usN ss = r at *
  have HR := Lib.hid hr
  clear hr
  go_enter Tryd.func17, Tryd.ntmps17
  go_wp2_with fail
  go_loopw [3, 4] (fun nv iv wr => ∃ k u : Nat, k ≤ ss.length ∧ u ≤ 100000 ∧ nv = .int .i64 (u : Int) ∧ iv = .int .i64 (k : Int) ∧ u + usN (ss.drop k) = r ∧ BK w wr) (fun _ iv _ => ss.length - (intOf iv).toNat)
  case atStart => exact ⟨0, 0, Nat.zero_le _, Nat.zero_le _, rfl, rfl, by have := HR.out; simpa using this, BK.refl _⟩
  case round =>
    obtain ⟨k, u, hk, hu, rfl, rfl, heq, hb⟩ := hrel
    have EQ := Lib.hid heq
    have KB := Lib.hid hb
    have UU := Lib.hid hu
    clear heq hb
    by_cases e : k = ss.length
    · have hd : decide (k < ss.length) = false := by simp [e]
      have EQ2 := EQ.out
      rw [List.drop_of_length_le (by omega)] at EQ2
      have EQ3 : r = u := EQ2.symm
      subst EQ3
      subst e
      go_wp2_with fail
      go_ret
      exact ⟨rfl, KB.out⟩
    · have hlt : k < ss.length := by omega
      have hd : decide (k < ss.length) = true := by simpa using hlt
      have hki : (k : Int) < (ss.length : Int) := by omega
      have ei : IntKind.i64.wrap ((k : Int) + 1) = (k : Int) + 1 := by have := HL.out; exact IntWalk.i64_in _ (by omega)
      have HLT := Lib.hid hlt
      obtain ⟨b, o, q, rfl, -, hc, hps⟩ := (HP.out.bk KB.out (Nat.le_refl _)).get hlt
      have EQ2 := EQ.out
      rw [List.drop_eq_getElem_cons hlt, usN_cons] at EQ2
      obtain ⟨z0, -⟩ := hc.all
      have UL := usN_le (ss.drop (k + 1))
      rw [List.length_drop] at UL
      have eu : IntKind.i64.wrap ((u : Int) + 1) = (u : Int) + 1 := by have := UU.out; exact IntWalk.i64_in _ (by omega)
      generalize ss[k] = s at *
      obtain ⟨kd, rf, ru, sb, ta, tb⟩ := s
      clear hps hc UL
      by_cases h5 : kd = 5
      · subst h5
        have EQ3 := Lib.hid (show (u + 1) + usN (ss.drop (k + 1)) = r from by have := EQ2; simp only [if_true] at this; omega)
        have LU := Lib.hid (show u + 1 ≤ 100000 from by have h1 := EQ3.out; have h2 := HU.out; have h3 := HL.out; omega)
        clear EQ2
        go_wp2_with fail
        go_roundw
        case rel => exact ⟨k + 1, u + 1, by have := HLT.out; omega, LU.out, by go_num, by go_num, EQ3.out, KB.out⟩
        case measure => have := HLT.out; simp [intOf]; omega
      · have h5' : (kd == 5) = false := by simp [h5]
        have EQ3 := Lib.hid (show u + usN (ss.drop (k + 1)) = r from by have := EQ2; simp only [if_neg h5] at this; omega)
        clear EQ2
        go_wp2_with fail
        go_roundw
        case rel => exact ⟨k + 1, u, by have := HLT.out; omega, UU.out, rfl, by go_num, EQ3.out, KB.out⟩
        case measure => have := HLT.out; simp [intOf]; omega
end Go.Proofs.YtnlpiaejfmdckaaDoor
