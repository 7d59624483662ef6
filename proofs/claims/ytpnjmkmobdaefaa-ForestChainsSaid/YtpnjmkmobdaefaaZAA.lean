/- The law of the chains: the walk. -/
import Derived.Test.YtpnjmkmobdaefaaZA
namespace Go.Proofs.Ytpnjmkmobdaefaa
open Go.RowKit Go.Maps
set_option linter.unusedVariables false
set_option linter.unusedSimpArgs false
def atV (P : List L3) (a : Int) : Nat → Int
  | 0 => a
  | j + 1 => match P[j]? with | some m => m.b | none => 0
theorem atV_succ {P : List L3} {a : Int} {j : Nat} {m : L3} (h : P[j]? = some m) : atV P a (j + 1) = m.b := by
  show (match P[j]? with | some m => m.b | none => 0) = m.b
  rw [h]
theorem CH.at {M : List L3} {a b : Int} {P : List L3} (h : CH M a b P) {k : Nat} {l : L3} (hl : P[k]? = some l) : l.a = atV P a k := by
  cases k with
  | zero => exact h.from' l hl
  | succ j =>
    have hlt := (List.getElem?_eq_some_iff.1 hl).1
    have hj : P[j]? = some (P[j]'(by omega)) := List.getElem?_eq_getElem (by omega)
    rw [atV_succ hj]
    exact h.next j _ l hj hl
theorem CH.end' {M : List L3} {a b : Int} {P : List L3} (h : CH M a b P) : atV P a P.length = b := by
  cases e : P.length with
  | zero => exact h.nil (List.eq_nil_of_length_eq_zero e)
  | succ j =>
    have hj : P[j]? = some (P[j]'(by omega)) := List.getElem?_eq_getElem (by omega)
    rw [atV_succ hj]
    exact h.last _ ((show P[P.length - 1]? = P[j]? from congrArg (fun i => P[i]?) (by omega)).trans hj)
set_option maxHeartbeats 1000000 in
theorem chains_long (p : Option Addr) (n c : Nat) (a b : Int) (w : World) (h : 60 < n) : Calls Try.prog 5 #[.slice p n c, .int .i64 a, .int .i64 b] w fun e w' => e = .returned (.bool true) ∧ BK w w' := by
  have hi : (60 : Int) < (n : Int) := by omega
  have HL := Lib.hid (live12 w)
  go_enter Try.func5, Try.ntmps5
  go_wp2_with fail
  refine HL.out.mono ?_
  rintro e w1 ⟨rfl, hb⟩
  have HB := Lib.hid hb
  clear hb
  go_wp2_with fail
  go_ret
  exact ⟨rfl, HB.out⟩
set_option maxRecDepth 100000 in
set_option maxHeartbeats 4000000 in
theorem chains_law (p : Option Addr) (c : Nat) (a b : Int) (ac : List A4) (w : World) (ha : RA w p ac) (hl : ac.length ≤ 60) (oa : okI a) (ob : okI b) : Calls Try.prog 5 #[.slice p ac.length c, .int .i64 a, .int .i64 b] w fun e w' => e = .returned (.bool true) ∧ BK w w' := by
  have hi : ¬ (60 : Int) < (ac.length : Int) := by omega
  have HP := Lib.hid (play20 w p c ac ha hl)
  have hML : (playM [] ac).length ≤ 60 := by have := playM_len ac []; simp at this; omega
  clear ha hl
  generalize playM [] ac = M at HP hML
  generalize ac.length = n at *
  have OA := Lib.hid oa
  have OB := Lib.hid ob
  clear oa ob
  go_enter Try.func5, Try.ntmps5
  go_wp2_with fail
  refine HP.out.mono ?_
  rintro e w1 ⟨o, rfl, hF, hb1⟩
  have HF := Lib.hid hF
  have B1 := Lib.hid hb1
  have C1 := Lib.hid (path21 w1 _ o M _ hF a b OA.out OB.out (by omega))
  clear hF hb1 HP
  go_wp2_with fail
  refine C1.out.mono ?_
  rintro e w2 ⟨v, rfl, ho, hb2⟩
  have B2 := Lib.hid (bk_tr B1.out hb2)
  have HF2 := Lib.hid (HF.out.bk hb2)
  have C2 := Lib.hid (same23 w2 _ o M _ HF2.out a b OA.out OB.out)
  have R2 := Lib.hid (show ∃ p c, v = .slice p (pathL M a b).length c ∧ RL w2 p c (pathL M a b) from by obtain ⟨p, c, e⟩ := own_shape ho; exact ⟨p, c, e, RL.own (n := (pathL M a b).length) (by rw [← e]; exact ho)⟩)
  obtain ⟨pv, cv, rfl, rl2⟩ := R2.out
  have RP := Lib.hid rl2
  have hpl := pathL_len M a b
  have CHH := Lib.hid (fun h => path_chain (M := M) (a := a) (b := b) HF.out.wf h)
  have hnil : sameB M a b = false → (pathL M a b).length = 0 := fun h => by
    unfold sameB at h
    unfold pathL
    cases hp : pathO M a b with
    | none => rfl
    | some q => rw [hp] at h; cases h
  have HNIL := Lib.hid hnil
  clear ho hb2 C1 R2 rl2 hnil
  generalize pathL M a b = P at *
  generalize sameB M a b = s at *
  generalize hm : P.length = m at *
  have HM := Lib.hid hm
  clear hm
  go_wp2_with fail
  refine C2.out.mono ?_
  rintro e w' ⟨rfl, rfl⟩
  clear C2
  cases s with
  | false =>
    have C6 := Lib.hid (live12 w2)
    obtain rfl : m = 0 := HNIL.out rfl
    go_wp2_with fail
    refine C6.out.mono ?_
    rintro e w6 ⟨rfl, hb6⟩
    have B6 := Lib.hid (bk_tr B2.out hb6)
    clear hb6
    go_wp2_with fail
    go_ret
    exact ⟨rfl, B6.out⟩
  | true =>
    have HC := Lib.hid (CHH.out rfl)
    have C3 := Lib.hid (links19 w2 _ o M _ HF2.out.fb (by omega))
    go_wp2_with fail
    refine C3.out.mono ?_
    rintro e w3 ⟨v3, rfl, ho3, hb3⟩
    have B3 := Lib.hid (bk_tr B2.out hb3)
    obtain ⟨p3, c3', e3, r3⟩ : ∃ p c, v3 = .slice p M.length c ∧ RL w3 p c M := by
      obtain ⟨p, c, e⟩ := own_shape ho3
      exact ⟨p, c, e, RL.own (n := M.length) (by rw [← e]; exact ho3)⟩
    subst e3
    have RM := Lib.hid r3
    have RP3 := Lib.hid (RP.out.keep hb3)
    clear ho3 hb3 r3 C3 CHH HNIL
    go_wp2_with fail
    go_loopw [10, 12] (fun x i wr => ∃ k : Nat, i = .int .i64 k ∧ k ≤ m ∧ x = .int .i64 (atV P a k) ∧ BK w3 wr) (fun _ i _ => m - (intOf i).toNat)
    case atStart => exact ⟨0, rfl, by omega, rfl, BK.refl _⟩
    case round =>
      obtain ⟨k, rfl, hk, rfl, hb⟩ := hrel
      have HB := Lib.hid hb
      clear hb
      by_cases e : k = m
      · subst e
        have C6 := Lib.hid (live12 wr)
        have E := HC.out.end'
        rw [HM.out] at E
        rw [E]
        clear E
        go_wp2_with fail
        refine C6.out.mono ?_
        rintro e w6 ⟨rfl, hb6⟩
        have B6 := Lib.hid (bk_tr (bk_tr B3.out HB.out) hb6)
        clear hb6
        go_wp2_with fail
        go_ret
        exact ⟨rfl, B6.out⟩
      · have hlt : (k : Int) < (m : Int) := by omega
        have hkP : k < P.length := by rw [HM.out]; omega
        have hlk : P[k]? = some P[k] := List.getElem?_eq_getElem hkP
        obtain ⟨bq, oq, rfl, hA⟩ := (RP3.out.keep HB.out).get k hkP
        have HA := Lib.hid (fun w' (h : BK wr w') => hA.keep h)
        have eat := HC.out.at hlk
        have hne := HC.out.ne k _ hlk
        have hmem := HC.out.mem k _ hlk
        have FR := Lib.hid (fun j m hm hj => HC.out.fresh k _ j m hlk hm hj)
        have AT := Lib.hid (show atV P a (k + 1) = P[k].b from atV_succ hlk)
        rw [← eat]
        clear eat hlk
        generalize P[k] = l at *
        clear hkP
        have H24 := Lib.hid (has24 wr M p3 c3' (RM.out.keep HB.out) l hmem (by omega))
        obtain ⟨la, lb, ly⟩ := l
        obtain ⟨A0, A1, A2⟩ := hA
        unfold lv3 at H24
        dsimp only at A0 A1 A2 H24 hne
        have hne2 : (lb == a) = false := by simpa using hne
        clear hmem hne
        obtain ⟨wa, hwa⟩ : ∃ x, x = wr := ⟨_, rfl⟩
        subst hwa
        go_wp2_with fail
        refine H24.out.mono ?_
        rintro e w5 ⟨rfl, hb5⟩
        have B5 := Lib.hid hb5
        clear hb5 H24 A0 A1 A2
        go_wp2_with fail
        go_loopw [13] (fun y wr => ∃ j : Nat, y = .int .i64 j ∧ j ≤ k ∧ BK wa wr) (fun y _ => k - (intOf y).toNat)
        case atStart => exact ⟨0, rfl, by omega, B5.out⟩
        case round =>
          obtain ⟨j, rfl, hj, hb⟩ := hrel
          have HBJ := Lib.hid hb
          obtain ⟨A0, A1, A2⟩ := HA.out wr hb
          dsimp only at A0 A1 A2
          clear hb
          by_cases ej : j = k
          · subst ej
            go_wp2_with fail
            go_roundw
            case rel => exact ⟨j + 1, by go_num, by omega, by rw [AT.out], bk_tr HB.out HBJ.out⟩
            case measure => simp [intOf]; omega
          · have hltj : (j : Int) < (k : Int) := by omega
            have hltm : (j : Int) < (m : Int) := by omega
            have hjP : j < P.length := by rw [HM.out]; omega
            obtain ⟨bq', oq', eq', hD⟩ := (RP3.out.keep (bk_tr HB.out HBJ.out)).get j hjP
            cases eq'
            have hfr := FR.out j _ (List.getElem?_eq_getElem hjP) (by omega)
            obtain ⟨D0, D1, D2⟩ := hD
            generalize P[j] = l' at *
            obtain ⟨ka, kb, ky⟩ := l'
            dsimp only at D0 D1 D2 hfr
            have hfr2 : (kb == lb) = false := by simpa using hfr
            clear hjP hfr
            go_wp2_with fail
            go_quiet (fail)
            go_wp2_with fail
            go_roundw
            case rel => exact ⟨j + 1, by go_num, by omega, bk_drewN HBJ.out _⟩
            case measure => simp [intOf]; omega
end Go.Proofs.Ytpnjmkmobdaefaa
