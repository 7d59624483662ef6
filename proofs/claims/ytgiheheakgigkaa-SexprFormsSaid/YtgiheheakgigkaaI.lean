/- The reference: blank, skip, atom. -/
import Derived.Test.YtgiheheakgigkaaE
namespace Go.Proofs.Ytgiheheakgigkaa
open Go.RowKit
set_option linter.unusedVariables false
set_option linter.unusedSimpArgs false
def bk1 (c : Nat) : Bool := if c = 32 ∨ c = 9 ∨ c = 10 ∨ c = 13 then true else false
set_option maxHeartbeats 1000000 in
theorem blank45 (c : Nat) (w : World) : Calls Try.prog 45 #[.int .u8 (c : Int)] w fun e w' => e = .returned (.bool (bk1 c)) ∧ w = w' := by
  by_cases h : c = 32 ∨ c = 9 ∨ c = 10 ∨ c = 13
  · have hb : bk1 c = true := if_pos h
    rw [hb]
    clear hb
    rcases h with rfl | rfl | rfl | rfl
    · go_enter Try.func45, Try.ntmps45
      go_wp2_with fail
      go_ret
      exact ⟨rfl, rfl⟩
    · go_enter Try.func45, Try.ntmps45
      go_wp2_with fail
      go_ret
      exact ⟨rfl, rfl⟩
    · go_enter Try.func45, Try.ntmps45
      go_wp2_with fail
      go_ret
      exact ⟨rfl, rfl⟩
    · go_enter Try.func45, Try.ntmps45
      go_wp2_with fail
      go_ret
      exact ⟨rfl, rfl⟩
  · have hb : bk1 c = false := if_neg h
    rw [hb]
    clear hb
    have q1 : ((c : Int) == 32) = false := ne_cast (fun e => h (.inl e))
    have q2 : ((c : Int) == 9) = false := ne_cast (fun e => h (.inr (.inl e)))
    have q3 : ((c : Int) == 10) = false := ne_cast (fun e => h (.inr (.inr (.inl e))))
    have q4 : ((c : Int) == 13) = false := ne_cast (fun e => h (.inr (.inr (.inr e))))
    clear h
    go_enter Try.func45, Try.ntmps45
    go_wp2_with fail
    go_ret
    exact ⟨rfl, rfl⟩
/-- what is skipped, as the reference has it -/
theorem sk_cm {x : X} {i : Nat} (h : i < x.n) (h10 : x.f i ≠ 10) : sk x true i = sk x true (i + 1) := by
  rw [sk_step h, if_neg h10]
  split
  · rfl
  · rw [if_neg (by simp)]
theorem sk_nl {x : X} {i : Nat} (h : i < x.n) (h10 : x.f i = 10) (cm : Bool) : sk x cm i = sk x false (i + 1) := by
  rw [sk_step h, if_pos h10]
theorem sk_bl {x : X} {i : Nat} (h : i < x.n) (hb : bk1 (x.f i) = true) : sk x false i = sk x false (i + 1) := by
  rw [sk_step h]
  have hb' : x.f i = 32 ∨ x.f i = 9 ∨ x.f i = 10 ∨ x.f i = 13 := by
    unfold bk1 at hb
    split at hb
    · assumption
    · cases hb
  by_cases h10 : x.f i = 10
  · rw [if_pos h10]
  · rw [if_neg h10, if_neg (by omega), if_neg]
    intro q
    have := q.2
    unfold bl at this
    rw [if_pos (by omega)] at this
    cases this
theorem sk_semi {x : X} {i : Nat} (h : i < x.n) (h59 : x.f i = 59) : sk x false i = sk x true i := by
  rw [sk_step h, sk_step h, if_neg (by omega), if_pos h59, if_neg (by omega), if_pos h59]
theorem sk_here {x : X} {i : Nat} (h : i < x.n) (hb : bk1 (x.f i) = false) (h59 : x.f i ≠ 59) : sk x false i = i := by
  have hb' : ¬ (x.f i = 32 ∨ x.f i = 9 ∨ x.f i = 10 ∨ x.f i = 13) := by
    intro q
    unfold bk1 at hb
    rw [if_pos q] at hb
    cases hb
  rw [sk_step h, if_neg (by omega), if_neg h59, if_pos]
  refine ⟨rfl, ?_⟩
  unfold bl
  rw [if_neg (by omega)]
set_option maxRecDepth 100000 in
set_option maxHeartbeats 2000000 in
theorem skip33 (w : World) (s : ByteArray) (hs : s.size ≤ 100000) (i : Nat) (hi : i ≤ s.size) : Calls Try.prog 33 #[.string s, .int .i64 (i : Int)] w fun e w' => e = .returned (.int .i64 ((sk (xo s) false i : Nat) : Int)) ∧ w = w' := by
  generalize hj : sk (xo s) false i = j
  have HJ := Lib.hid hj
  clear hj
  go_enter Try.func33, Try.ntmps33
  go_wp2_with fail
  go_loop [1] (fun a => ∃ k : Nat, a = .int .i64 (k : Int) ∧ k ≤ s.size ∧ sk (xo s) false k = j) (fun a => s.size - (intOf a).toNat)
  case atStart => exact ⟨i, rfl, hi, HJ.out⟩
  case round =>
    obtain ⟨k, rfl, hk, hsk⟩ := hrel
    have SK := Lib.hid hsk
    clear hsk
    by_cases e : k = s.size
    · have hd : decide (k < s.size) = false := by simp [e]
      have E := SK.out
      rw [sk_end (by rw [xo_n, e]; exact Nat.le_refl _)] at E
      subst E
      clear e
      go_wp2_with fail
      go_ret
      exact ⟨rfl, rfl⟩
    · have hks : k < s.size := by omega
      have hd : decide (k < s.size) = true := by simpa using hks
      have hx := idx9 hks
      have ei : IntKind.i64.wrap ((k : Int) + 1) = (k : Int) + 1 := IntWalk.i64_in _ (by omega)
      have HKS := Lib.hid hks
      have B45 := Lib.hid (fun c w => blank45 c w)
      have L1 := Lib.hid (fun h => sk_bl (x := xo s) (i := k) hks h)
      have L2 := Lib.hid (fun h => sk_semi (x := xo s) (i := k) hks h)
      have L3 := Lib.hid (fun h g => sk_here (x := xo s) (i := k) hks h g)
      clear e hks
      generalize hc : (xo s).f k = c at *
      have HC := Lib.hid hc
      clear hc
      have A45 := Lib.hid (B45.out c w)
      cases hb : bk1 c with
      | true =>
        have h59 : c ≠ 59 := by intro q; subst q; revert hb; decide
        have q59 : ((c : Int) == 59) = false := ne_cast h59
        have E := Lib.hid ((L1.out hb).symm.trans SK.out)
        rw [hb] at A45
        clear hb h59
        go_wp2_with fail
        refine A45.out.mono ?_
        rintro e w' ⟨rfl, rfl⟩
        go_wp2_with fail
        go_round
        case rel => exact ⟨k + 1, by go_num, by have := HKS.out; omega, E.out⟩
        case measure => have := HKS.out; simp [intOf]; omega
      | false =>
        rw [hb] at A45
        by_cases h59 : c = 59
        · subst h59
          have E := Lib.hid ((L2.out rfl).symm.trans SK.out)
          clear hb
          go_wp2_with fail
          refine A45.out.mono ?_
          rintro e w' ⟨rfl, rfl⟩
          go_wp2_with fail
          go_loop [1] (fun a => ∃ q : Nat, a = .int .i64 (q : Int) ∧ k ≤ q ∧ q ≤ s.size ∧ sk (xo s) true q = j) (fun a => s.size - (intOf a).toNat)
          case atStart => exact ⟨k, rfl, Nat.le_refl _, hk, E.out⟩
          case round =>
            obtain ⟨q, rfl, hkq, hq, hsq⟩ := hrel
            have SQ := Lib.hid hsq
            clear hsq
            by_cases e : q = s.size
            · have hdq : decide (q < s.size) = false := by simp [e]
              have E2 := Lib.hid (show sk (xo s) false q = j from by
                have := SQ.out
                rw [sk_end (by rw [xo_n, e]; exact Nat.le_refl _)] at this ⊢
                exact this)
              have GT := Lib.hid (show k < q from by have := HKS.out; omega)
              clear e
              go_wp2_with fail
              go_round
              case rel => exact ⟨q, rfl, hq, E2.out⟩
              case measure => have := GT.out; have := HKS.out; simp [intOf]; omega
            · have hqs : q < s.size := by omega
              have hdq : decide (q < s.size) = true := by simpa using hqs
              have hxq := idx9 hqs
              have eq1 : IntKind.i64.wrap ((q : Int) + 1) = (q : Int) + 1 := IntWalk.i64_in _ (by omega)
              have HQS := Lib.hid hqs
              have M1 := Lib.hid (fun h => sk_cm (x := xo s) (i := q) hqs h)
              have M2 := Lib.hid (fun h cm => sk_nl (x := xo s) (i := q) hqs h cm)
              clear e hqs
              by_cases h10 : (xo s).f q = 10
              · have E2 := Lib.hid (show sk (xo s) false q = j from by rw [M2.out h10 false, ← M2.out h10 true]; exact SQ.out)
                have GT := Lib.hid (show k < q from by
                  rcases Nat.lt_or_eq_of_le hkq with h | h
                  · exact h
                  · subst h; rw [HC.out] at h10; omega)
                rw [h10] at hxq
                clear h10
                go_wp2_with fail
                go_round
                case rel => exact ⟨q, rfl, hq, E2.out⟩
                case measure => have := GT.out; have := HKS.out; simp [intOf]; omega
              · have E2 := Lib.hid (show sk (xo s) true (q + 1) = j from by rw [← M1.out h10]; exact SQ.out)
                generalize (xo s).f q = cq at *
                have n10 : ((cq : Int) != 10) = true := nn_cast h10
                clear h10
                go_wp2_with fail
                go_round
                case rel => exact ⟨q + 1, by go_num, by omega, by have := HQS.out; omega, E2.out⟩
                case measure => have := HQS.out; simp [intOf]; omega
        · have q59 : ((c : Int) == 59) = false := ne_cast h59
          have E := (L3.out hb h59).symm.trans SK.out
          subst E
          clear hb h59
          go_wp2_with fail
          refine A45.out.mono ?_
          rintro e w' ⟨rfl, rfl⟩
          go_wp2_with fail
          go_ret
          exact ⟨rfl, rfl⟩
set_option maxRecDepth 100000 in
set_option maxHeartbeats 2000000 in
theorem atom47 (w : World) (s : ByteArray) (hs : s.size ≤ 100000) (i : Nat) (hi : i ≤ s.size) : Calls Try.prog 47 #[.string s, .int .i64 (i : Int)] w fun e w' => e = .returned (.int .i64 ((ae (xo s) i : Nat) : Int)) ∧ w = w' := by
  generalize hj : ae (xo s) i = j
  have HJ := Lib.hid hj
  clear hj
  go_enter Try.func47, Try.ntmps47
  go_wp2_with fail
  go_loop [1] (fun a => ∃ k : Nat, a = .int .i64 (k : Int) ∧ k ≤ s.size ∧ ae (xo s) k = j) (fun a => s.size - (intOf a).toNat)
  case atStart => exact ⟨i, rfl, hi, HJ.out⟩
  case round =>
    obtain ⟨k, rfl, hk, hae⟩ := hrel
    have AE := Lib.hid hae
    clear hae
    by_cases e : k = s.size
    · have hd : decide (k < s.size) = false := by simp [e]
      have E := AE.out
      rw [ae_end (by rw [xo_n, e]; exact Nat.le_refl _)] at E
      subst E
      clear e
      go_wp2_with fail
      go_ret
      exact ⟨rfl, rfl⟩
    · have hks : k < s.size := by omega
      have hd : decide (k < s.size) = true := by simpa using hks
      have hx := idx9 hks
      have ei : IntKind.i64.wrap ((k : Int) + 1) = (k : Int) + 1 := IntWalk.i64_in _ (by omega)
      have HKS := Lib.hid hks
      have SS := Lib.hid (ae_step (x := xo s) (i := k) hks)
      have B46 := Lib.hid (fun c w => byte46 c w)
      clear e hks
      generalize (xo s).f k = c at *
      have A46 := Lib.hid (B46.out c w)
      cases hab : ab c with
      | false =>
        rw [hab] at A46
        have E := SS.out
        rw [AE.out, hab] at E
        simp only [Bool.false_eq_true, if_false] at E
        subst E
        clear hab
        go_wp2_with fail
        refine A46.out.mono ?_
        rintro e w' ⟨rfl, rfl⟩
        go_wp2_with fail
        go_ret
        exact ⟨rfl, rfl⟩
      | true =>
        rw [hab] at A46
        have E2 := Lib.hid (show ae (xo s) (k + 1) = j from by have := SS.out; rw [AE.out, hab, if_pos rfl] at this; exact this.symm)
        clear hab
        go_wp2_with fail
        refine A46.out.mono ?_
        rintro e w' ⟨rfl, rfl⟩
        go_wp2_with fail
        go_round
        case rel => exact ⟨k + 1, by go_num, by have := HKS.out; omega, E2.out⟩
        case measure => have := HKS.out; simp [intOf]; omega
end Go.Proofs.Ytgiheheakgigkaa
