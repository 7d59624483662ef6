/- Atoms: isAtomByte, atom. -/
import Derived.Test.YtgiheheakgigkaaB
namespace Go.Proofs.Ytgiheheakgigkaa
open Go.RowKit
set_option linter.unusedVariables false
set_option linter.unusedSimpArgs false
theorem ab_no {c : Nat} (h : c < 33 ∨ 126 < c ∨ c = 40 ∨ c = 41 ∨ c = 59) : ab c = false := by
  unfold ab; rw [if_neg (by omega)]
theorem ab_yes {c : Nat} (h : ab c = true) : 33 ≤ c ∧ c ≤ 126 ∧ c ≠ 40 ∧ c ≠ 41 ∧ c ≠ 59 := by
  unfold ab at h
  split at h
  · assumption
  · cases h
theorem ab_not {c : Nat} (h : ab c = false) : c < 33 ∨ 126 < c ∨ c = 40 ∨ c = 41 ∨ c = 59 := by
  unfold ab at h
  split at h
  · cases h
  · omega
set_option maxHeartbeats 1000000 in
theorem isab48 (c : Nat) (w : World) : Calls Try.prog 48 #[.int .u8 (c : Int)] w fun e w' => e = .returned (.bool (ab c)) ∧ w = w' := by
  cases h : ab c with
  | true =>
    obtain ⟨a1, a2, a3, a4, a5⟩ := ab_yes h
    have q1 : (33 : Int) ≤ (c : Int) := by omega
    have q2 : (c : Int) ≤ 126 := by omega
    have q3 : ((c : Int) != 40) = true := nn_cast a3
    have q4 : ((c : Int) != 41) = true := nn_cast a4
    have q5 : ((c : Int) != 59) = true := nn_cast a5
    clear a1 a2 a3 a4 a5 h
    go_enter Try.func48, Try.ntmps48
    go_wp2_with fail
    go_ret
    exact ⟨rfl, rfl⟩
  | false =>
    by_cases h1 : c < 33
    · have q1 : ¬ (33 : Int) ≤ (c : Int) := by omega
      have q1' : (c : Int) < 33 := by omega
      clear h h1
      go_enter Try.func48, Try.ntmps48
      go_wp2_with fail
      go_ret
      exact ⟨rfl, rfl⟩
    · have q1 : (33 : Int) ≤ (c : Int) := by omega
      by_cases h2 : 126 < c
      · have q2 : ¬ (c : Int) ≤ 126 := by omega
        have q2' : (126 : Int) < (c : Int) := by omega
        clear h h1 h2
        go_enter Try.func48, Try.ntmps48
        go_wp2_with fail
        go_ret
        exact ⟨rfl, rfl⟩
      · have q2 : (c : Int) ≤ 126 := by omega
        have h3 : c = 40 ∨ c = 41 ∨ c = 59 := by have := ab_not h; omega
        clear h h1 h2 q1 q2
        rcases h3 with rfl | rfl | rfl
        · go_enter Try.func48, Try.ntmps48
          go_wp2_with fail
          go_ret
          exact ⟨rfl, rfl⟩
        · go_enter Try.func48, Try.ntmps48
          go_wp2_with fail
          go_ret
          exact ⟨rfl, rfl⟩
        · go_enter Try.func48, Try.ntmps48
          go_wp2_with fail
          go_ret
          exact ⟨rfl, rfl⟩
set_option maxHeartbeats 1000000 in
theorem byte46 (c : Nat) (w : World) : Calls Try.prog 46 #[.int .u8 (c : Int)] w fun e w' => e = .returned (.bool (ab c)) ∧ w = w' := by
  cases h : ab c with
  | true =>
    obtain ⟨a1, a2, a3, a4, a5⟩ := ab_yes h
    have q1 : (33 : Int) ≤ (c : Int) := by omega
    have q2 : (c : Int) ≤ 126 := by omega
    have q3 : ((c : Int) != 40) = true := nn_cast a3
    have q4 : ((c : Int) != 41) = true := nn_cast a4
    have q5 : ((c : Int) != 59) = true := nn_cast a5
    clear a1 a2 a3 a4 a5 h
    go_enter Try.func46, Try.ntmps46
    go_wp2_with fail
    go_ret
    exact ⟨rfl, rfl⟩
  | false =>
    by_cases h1 : c < 33
    · have q1 : ¬ (33 : Int) ≤ (c : Int) := by omega
      have q1' : (c : Int) < 33 := by omega
      clear h h1
      go_enter Try.func46, Try.ntmps46
      go_wp2_with fail
      go_ret
      exact ⟨rfl, rfl⟩
    · have q1 : (33 : Int) ≤ (c : Int) := by omega
      by_cases h2 : 126 < c
      · have q2 : ¬ (c : Int) ≤ 126 := by omega
        have q2' : (126 : Int) < (c : Int) := by omega
        clear h h1 h2
        go_enter Try.func46, Try.ntmps46
        go_wp2_with fail
        go_ret
        exact ⟨rfl, rfl⟩
      · have q2 : (c : Int) ≤ 126 := by omega
        have h3 : c = 40 ∨ c = 41 ∨ c = 59 := by have := ab_not h; omega
        clear h h1 h2 q1 q2
        rcases h3 with rfl | rfl | rfl
        · go_enter Try.func46, Try.ntmps46
          go_wp2_with fail
          go_ret
          exact ⟨rfl, rfl⟩
        · go_enter Try.func46, Try.ntmps46
          go_wp2_with fail
          go_ret
          exact ⟨rfl, rfl⟩
        · go_enter Try.func46, Try.ntmps46
          go_wp2_with fail
          go_ret
          exact ⟨rfl, rfl⟩
/-- what atom leaves -/
def ATP (w : World) (pb : Nat) (s : ByteArray) (i : Nat) (e : Ending) (w' : World) : Prop := e = .returned (.string (s.extract i (ae (xo s) i))) ∧ PB w' pb s (ae (xo s) i) ∧ Step w w' (oneF pb) (oneF pb)
set_option maxRecDepth 100000 in
set_option maxHeartbeats 2000000 in
theorem atom49 (w : World) (pb : Nat) (s : ByteArray) (i : Nat) (h : PB w pb s i) (hs : s.size ≤ 100000) (hi : i ≤ s.size) : Calls Try.prog 49 #[.pointer (some ⟨pb, 0, none⟩)] w (ATP w pb s i) := by
  have HP := Lib.hid h
  have c1' := h.c1
  clear h
  unfold ATP
  generalize hj : ae (xo s) i = j
  have HJ := Lib.hid hj
  have HIJ := Lib.hid (show i ≤ j ∧ j ≤ s.size from by rw [← hj]; exact ⟨ae_ge _ _, ae_le (xo s) hi⟩)
  clear hj
  go_enter Try.func49, Try.ntmps49
  go_wp2_with fail
  clear c1'
  go_loopw [] (fun wr => ∃ k, k ≤ s.size ∧ i ≤ k ∧ ae (xo s) k = j ∧ PB wr pb s k ∧ Step w wr (oneF pb) (oneF pb)) (fun wr => s.size - posOf pb wr)
  case atStart => exact ⟨i, hi, Nat.le_refl _, HJ.out, HP.out, Step.refl _ _⟩
  case round =>
    obtain ⟨k, hk, hik, hae, hp, hst⟩ := hrel
    have AE := Lib.hid hae
    have PP := Lib.hid hp
    have ST := Lib.hid hst
    have c0 := hp.c0
    have c1 := hp.c1
    have LN := Lib.hid (posOf_eq hp)
    clear hae hp hst
    by_cases e : k = s.size
    · have hd : decide (k < s.size) = false := by simp [e]
      have E := AE.out
      rw [ae_end (by rw [xo_n, e]; exact Nat.le_refl _)] at E
      subst E
      clear e
      have hkk : (k : Int) ≤ (s.size : Int) := by omega
      have hik2 : (i : Int) ≤ (k : Int) := by omega
      go_wp2_with fail
      go_quiet (fail)
      go_wp2_with fail
      go_quiet (fail)
      go_wp2_with fail
      go_ret
      exact ⟨rfl, (PP.out.drewN _).drewN _, ST.out.trans ((step_drewN _).trans (step_drewN _))⟩
    · have hks : k < s.size := by omega
      have hd : decide (k < s.size) = true := by simpa using hks
      have hx := idx9 hks
      have SS := Lib.hid (ae_step (x := xo s) (i := k) hks)
      have ei : IntKind.i64.wrap ((k : Int) + 1) = (k : Int) + 1 := IntWalk.i64_in _ (by omega)
      have fr1 := PP.out.fr 1
      have PN := Lib.hid (fun q1 => show PB ((wr.drewN q1).setCell ⟨pb, 1, none⟩ (.int .i64 ((k : Int) + 1))) pb s (k + 1) from (PP.out.drewN q1).set (k + 1))
      have HKS := Lib.hid hks
      have I48 := Lib.hid (fun c w => isab48 c w)
      clear hks e
      generalize (xo s).f k = c at *
      cases hab : ab c with
      | false =>
        have E := SS.out
        rw [AE.out, hab] at E
        simp only [Bool.false_eq_true, if_false] at E
        subst E
        have A48 := Lib.hid (fun w => I48.out c w)
        rw [hab] at A48
        have hkk : (j : Int) ≤ (s.size : Int) := by have := HKS.out; omega
        have hik2 : (i : Int) ≤ (j : Int) := by omega
        clear hab
        go_wp2_with fail
        go_quiet (go_must (go_at_call 48; exact Calls.quiet_of_same ((A48.out _).mono fun e w' h => ⟨h.1, h.2.symm⟩)))
        go_wp2_with fail
        go_quiet (fail)
        go_wp2_with fail
        go_ret
        exact ⟨rfl, (PP.out.drewN _).drewN _, ST.out.trans ((step_drewN _).trans (step_drewN _))⟩
      | true =>
        have E2 := Lib.hid (show ae (xo s) (k + 1) = j from by have := SS.out; rw [AE.out, hab, if_pos rfl] at this; exact this.symm)
        have A48 := Lib.hid (fun w => I48.out c w)
        rw [hab] at A48
        clear hab
        go_wp2_with fail
        go_quiet (go_must (go_at_call 48; exact Calls.quiet_of_same ((A48.out _).mono fun e w' h => ⟨h.1, h.2.symm⟩)))
        go_wp2_with fail
        go_roundw
        case rel => exact ⟨k + 1, by have := HKS.out; omega, by omega, E2.out, PN.out _, ST.out.trans ((step_drewN _).trans (step_set 1 _))⟩
        case measure => rw [posOf_eq (PN.out _), LN.out]; have := HKS.out; omega
end Go.Proofs.Ytgiheheakgigkaa
