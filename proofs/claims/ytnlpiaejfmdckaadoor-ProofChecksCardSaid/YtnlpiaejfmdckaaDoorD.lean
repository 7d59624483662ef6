/- Check, valid; ref03.Same. -/
import Derived.Test.YtnlpiaejfmdckaaDoorC
namespace Go.Proofs.YtnlpiaejfmdckaaDoor
open Go.RowKit
set_option linter.unusedVariables false
set_option linter.unusedSimpArgs false
def fb : Nat → List S → Nat × Nat
  | _, [] => (0, 0)
  | i, s :: ss => if wellB s i = true then fb (i + 1) ss else (i, 14)
theorem fb_cons (i : Nat) (s : S) (ss : List S) : fb i (s :: ss) = if wellB s i = true then fb (i + 1) ss else (i, 14) := rfl
def chk (ss : List S) : Nat × Nat := if 65536 < ss.length then (0, 7) else if ss.length = 0 then (0, 8) else fb 0 ss
def okS (s : S) : Prop := s.rf.length ≤ 9223372036854775807
set_option maxRecDepth 100000 in
set_option maxHeartbeats 4000000 in
theorem check14 (ss : List S) (hok : ∀ s ∈ ss, okS s) (w : World) (p : Option Addr) (c : Nat) (ht : Tb w) (hp : RowS (mem 0 w) w p c ss) : Calls Tryd.prog 14 #[.slice p ss.length c] w fun e w' => e = .returned (.tuple #[.int .i64 ((chk ss).1 : Int), .int .i64 ((chk ss).2 : Int)]) ∧ BK w w' := by
  have CK := Lib.hid (show chk ss = if 65536 < ss.length then (0, 7) else if ss.length = 0 then (0, 8) else fb 0 ss from rfl)
  by_cases h1 : 65536 < ss.length
  · have CK2 := CK.out
    rw [if_pos h1] at CK2
    rw [CK2]
    have h1' : (65536 : Int) < (ss.length : Int) := by omega
    clear hp ht CK CK2 h1 hok
    generalize ss.length = n at *
    go_enter Tryd.func14, Tryd.ntmps14
    go_wp2_with fail
    go_ret2
    exact ⟨rfl, BK.refl _⟩
  · by_cases h2 : ss.length = 0
    · have CK2 := CK.out
      rw [if_neg h1, if_pos h2] at CK2
      rw [CK2, h2]
      clear hp ht CK CK2 h1 hok h2
      go_enter Tryd.func14, Tryd.ntmps14
      go_wp2_with fail
      go_ret2
      exact ⟨rfl, BK.refl _⟩
    · have CK2 := CK.out
      rw [if_neg h1, if_neg h2] at CK2
      rw [CK2]
      have h1' : ¬ (65536 : Int) < (ss.length : Int) := by omega
      have h2' : ((ss.length : Int) == 0) = false := ne_cast (d := 0) h2
      have HP := Lib.hid hp
      have HT := Lib.hid ht
      have OK := Lib.hid hok
      have HL := Lib.hid (show ss.length ≤ 65536 from by omega)
      clear hp ht CK CK2 h1 hok h2
      generalize hr : fb 0 ss = r
      have HR := Lib.hid hr
      clear hr
      go_enter Tryd.func14, Tryd.ntmps14
      go_wp2_with fail
      clear h1' h2'
      go_loopw [16] (fun iv wr => ∃ k : Nat, k ≤ ss.length ∧ iv = .int .i64 (k : Int) ∧ fb k (ss.drop k) = r ∧ BK w wr) (fun iv _ => ss.length - (intOf iv).toNat)
      case atStart => exact ⟨0, Nat.zero_le _, rfl, HR.out, BK.refl _⟩
      case round =>
        obtain ⟨k, hk, rfl, heq, hb⟩ := hrel
        have EQ := Lib.hid heq
        have KB := Lib.hid hb
        clear heq hb
        by_cases e : k = ss.length
        · have hd : decide (k < ss.length) = false := by simp [e]
          have EQ2 := EQ.out
          rw [List.drop_of_length_le (by omega)] at EQ2
          have EQ3 : r = (0, 0) := EQ2.symm
          subst EQ3
          subst e
          go_wp2_with fail
          go_ret2
          exact ⟨rfl, KB.out⟩
        · have hlt : k < ss.length := by omega
          have hd : decide (k < ss.length) = true := by simpa using hlt
          obtain ⟨b, o, q, rfl, -, hc, hps⟩ := (HP.out.bk KB.out (Nat.le_refl _)).get hlt
          have EQ2 := EQ.out
          rw [List.drop_eq_getElem_cons hlt, fb_cons] at EQ2
          have KX := Lib.hid (bk_alloc (BK.refl wr) (.cells (cS ss[k] q) 44))
          have CC := Lib.hid (form34 ss[k] q k (wr.alloc (.cells (cS ss[k] q) 44)) ((HT.out.bk KB.out).bk KX.out) (OK.out _ (List.getElem_mem hlt)) (hps.rf.bk KX.out (Nat.le_refl _)))
          obtain ⟨z0, z1, z2, z3, z4, z5, z6, z7, z8, z9, z10, z11, z12, z13⟩ := hc.all
          have EQ3 := Lib.hid EQ2
          have ei : IntKind.i64.wrap ((k : Int) + 1) = (k : Int) + 1 := by have := HL.out; exact IntWalk.i64_in _ (by omega)
          have hki : (k : Int) < (ss.length : Int) := by omega
          have HLT := Lib.hid hlt
          clear hps hc e EQ2
          rw [cS_eq] at KX CC
          generalize wellB ss[k] k = bb at *
          generalize ss[k] = s at *
          cases bb with
          | true =>
            have EQ4 := Lib.hid (show fb (k + 1) (ss.drop (k + 1)) = r from by have := EQ3.out; rwa [if_pos rfl] at this)
            go_wp2_with fail
            refine CC.out.mono ?_
            rintro e w2 ⟨rfl, hb2⟩
            have K2 := Lib.hid (bk_tr KB.out (bk_tr KX.out hb2))
            clear hb2
            go_wp2_with fail
            go_roundw
            case rel => exact ⟨k + 1, by have := HLT.out; omega, by go_num, EQ4.out, K2.out⟩
            case measure => have := HLT.out; simp [intOf]; omega
          | false =>
            have EQ4 : r = (k, 14) := by have := EQ3.out; rw [if_neg (by decide)] at this; exact this.symm
            subst EQ4
            go_wp2_with fail
            refine CC.out.mono ?_
            rintro e w2 ⟨rfl, hb2⟩
            have K2 := Lib.hid (bk_tr KB.out (bk_tr KX.out hb2))
            clear hb2
            go_wp2_with fail
            go_ret2
            exact ⟨rfl, K2.out⟩
def vld (ss : List S) : Bool := if (chk ss).2 = 0 then true else false
set_option maxRecDepth 100000 in
set_option maxHeartbeats 4000000 in
theorem valid39 (ss : List S) (hok : ∀ s ∈ ss, okS s) (w : World) (p : Option Addr) (c : Nat) (ht : Tb w) (hp : RowS (mem 0 w) w p c ss) : Calls Tryd.prog 39 #[.slice p ss.length c] w fun e w' => e = .returned (.bool (vld ss)) ∧ BK w w' := by
  have CC := Lib.hid (check14 ss hok w p c ht hp)
  have VL := Lib.hid (show vld ss = if (chk ss).2 = 0 then true else false from rfl)
  clear hok ht hp
  generalize (chk ss).1 = i at *
  generalize (chk ss).2 = j at *
  generalize vld ss = b at *
  go_enter Tryd.func39, Tryd.ntmps39
  go_wp2_with fail
  refine CC.out.mono ?_
  rintro e w2 ⟨rfl, hb2⟩
  have K2 := Lib.hid hb2
  clear hb2
  have VL2 := VL.out
  by_cases hj : j = 0
  · rw [if_pos hj] at VL2
    subst hj VL2
    go_wp2_with fail
    go_ret
    exact ⟨rfl, K2.out⟩
  · rw [if_neg hj] at VL2
    subst VL2
    have hjj : ((j : Int) == 0) = false := by simp; omega
    clear hj
    go_wp2_with fail
    go_ret
    exact ⟨rfl, K2.out⟩
/-- equal lists of numbers -/
def eqI : List Int → List Int → Bool
  | [], [] => true
  | [], _ :: _ => false
  | _ :: _, [] => false
  | a :: xs, b :: ys => if a = b then eqI xs ys else false
theorem eqI_cons (a b : Int) (xs ys : List Int) : eqI (a :: xs) (b :: ys) = if a = b then eqI xs ys else false := rfl
theorem eqI_iff : ∀ {xs ys : List Int}, eqI xs ys = true ↔ xs = ys
  | [], [] => by simp [eqI]
  | [], _ :: _ => by simp [eqI]
  | _ :: _, [] => by simp [eqI]
  | a :: xs, b :: ys => by
    rw [eqI_cons]
    split
    · rename_i h; rw [eqI_iff, h]; simp
    · rename_i h; simp [h]
theorem eqI_self (xs : List Int) : eqI xs xs = true := eqI_iff.2 rfl
theorem eqI_ne {xs ys : List Int} (h : xs.length ≠ ys.length) : eqI xs ys = false := by
  cases hb : eqI xs ys with
  | false => rfl
  | true => exact absurd (congrArg List.length (eqI_iff.1 hb)) h
set_option maxRecDepth 100000 in
set_option maxHeartbeats 4000000 in
theorem same18 (xs ys : List Int) (hl : xs.length ≤ 9223372036854775807) (w : World) (p q : Option Addr) (c d : Nat) (hp : RowI (mem 0 w) w p c xs) (hq : RowI (mem 0 w) w q d ys) : Calls Tryd.prog 18 #[.slice p xs.length c, .slice q ys.length d] w fun e w' => e = .returned (.bool (eqI xs ys)) ∧ BK w w' := by
  by_cases hn : xs.length = ys.length
  · have HN := Lib.hid hn
    rw [← hn]
    have HP := Lib.hid hp
    have HQ := Lib.hid hq
    have HL := Lib.hid hl
    clear hp hq hl hn
    generalize hr : eqI xs ys = r
    have HR := Lib.hid hr
    clear hr
    go_enter Tryd.func18, Tryd.ntmps18
    go_wp2_with fail
    go_loopw [5] (fun iv wr => ∃ k : Nat, k ≤ xs.length ∧ iv = .int .i64 (k : Int) ∧ eqI (xs.drop k) (ys.drop k) = r ∧ BK w wr) (fun iv _ => xs.length - (intOf iv).toNat)
    case atStart => exact ⟨0, Nat.zero_le _, rfl, HR.out, BK.refl _⟩
    case round =>
      obtain ⟨k, hk, rfl, heq, hb⟩ := hrel
      have KB := Lib.hid hb
      have EQ := Lib.hid heq
      clear hb heq
      by_cases e : k = xs.length
      · have hd : decide (k < xs.length) = false := by simp [e]
        have EQ2 := EQ.out
        rw [List.drop_of_length_le (by omega), List.drop_of_length_le (by rw [← HN.out]; omega)] at EQ2
        have EQ3 : r = true := EQ2.symm
        subst EQ3
        subst e
        go_wp2_with fail
        go_ret
        exact ⟨rfl, KB.out⟩
      · have hlt : k < xs.length := by omega
        have hlu : k < ys.length := by rw [← HN.out]; exact hlt
        have hd : decide (k < xs.length) = true := by simpa using hlt
        obtain ⟨b3, o3, rfl, -, y0⟩ := (HP.out.bk KB.out (Nat.le_refl _)).get hlt
        obtain ⟨b4, o4, rfl, -, z0⟩ := (HQ.out.bk KB.out (Nat.le_refl _)).get hlu
        have EQ2 := EQ.out
        rw [List.drop_eq_getElem_cons hlt, List.drop_eq_getElem_cons hlu, eqI_cons] at EQ2
        have EQ3 := Lib.hid EQ2
        have ei : IntKind.i64.wrap ((k : Int) + 1) = (k : Int) + 1 := by have := HL.out; exact IntWalk.i64_in _ (by omega)
        have hki : (k : Int) < (xs.length : Int) := by omega
        have HLT := Lib.hid hlt
        clear e EQ2
        generalize xs[k] = a at *
        generalize ys[k] = b at *
        by_cases hab : a = b
        · have EQ4 := Lib.hid (show eqI (xs.drop (k + 1)) (ys.drop (k + 1)) = r from by have := EQ3.out; rwa [if_pos hab] at this)
          subst hab
          go_wp2_with fail
          go_quiet (fail)
          go_wp2_with fail
          go_roundw
          case rel => exact ⟨k + 1, by have := HLT.out; omega, by go_num, EQ4.out, bk_drewN KB.out _⟩
          case measure => have := HLT.out; simp [intOf]; omega
        · have EQ4 : r = false := by have := EQ3.out; rw [if_neg hab] at this; exact this.symm
          subst EQ4
          have hne : (a != b) = true := by simpa using hab
          clear hab
          go_wp2_with fail
          go_quiet (fail)
          go_wp2_with fail
          go_ret
          exact ⟨rfl, bk_drewN KB.out _⟩
  · rw [eqI_ne hn]
    have hne : ((xs.length : Int) != (ys.length : Int)) = true := nn_cast hn
    clear hp hq hl
    generalize xs.length = n at *
    generalize ys.length = m at *
    go_enter Tryd.func18, Tryd.ntmps18
    go_wp2_with fail
    go_ret
    exact ⟨rfl, BK.refl _⟩
end Go.Proofs.YtnlpiaejfmdckaaDoor
