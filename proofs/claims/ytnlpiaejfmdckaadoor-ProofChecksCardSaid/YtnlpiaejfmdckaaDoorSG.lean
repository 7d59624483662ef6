/- The reference's Check; Uses. -/
import Derived.Test.YtnlpiaejfmdckaaDoorSC
namespace Go.Proofs.YtnlpiaejfmdckaaDoor
open Go.RowKit
set_option linter.unusedVariables false
set_option linter.unusedSimpArgs false
theorem le_mo (k : Int) : (leastK k < 0 → mostK k < 0 ∧ ¬ (k = 4 ∨ k = 8)) ∧ ((k = 4 ∨ k = 8) → leastK k = 0 ∧ mostK k = 3) := by
  rcases kinds_or k with rfl | rfl | rfl | rfl | rfl | rfl | rfl | rfl | rfl | rfl | rfl | rfl | ⟨hk, ho⟩
  · exact ⟨fun h => absurd h (by decide), fun h => by omega⟩
  · exact ⟨fun h => absurd h (by decide), fun h => by omega⟩
  · exact ⟨fun h => absurd h (by decide), fun h => by omega⟩
  · exact ⟨fun h => absurd h (by decide), fun h => by decide⟩
  · exact ⟨fun h => absurd h (by decide), fun h => by omega⟩
  · exact ⟨fun h => absurd h (by decide), fun h => by omega⟩
  · exact ⟨fun h => absurd h (by decide), fun h => by omega⟩
  · exact ⟨fun h => absurd h (by decide), fun h => by decide⟩
  · exact ⟨fun h => absurd h (by decide), fun h => by omega⟩
  · exact ⟨fun h => absurd h (by decide), fun h => by omega⟩
  · exact ⟨fun h => absurd h (by decide), fun h => by omega⟩
  · exact ⟨fun h => absurd h (by decide), fun h => by omega⟩
  · exact ⟨fun _ => ⟨by unfold mostK; rw [if_neg (by rw [hk]; decide)]; decide, by omega⟩, fun h => by omega⟩
theorem well_ref (s : S) (i : Nat) : wellB s i = if leastK s.k < 0 then false else if (s.rf.length : Int) < leastK s.k then false else if mostK s.k < (s.rf.length : Int) then false else if (s.k = 4 ∨ s.k = 8) ∧ s.rf.length ≠ s.a.ts.length then false else allB (i : Int) s.rf := by
  obtain ⟨h1, h2⟩ := le_mo s.k
  unfold wellB okN
  generalize allB (i : Int) s.rf = al
  generalize leastK s.k = le at *
  generalize mostK s.k = mo at *
  generalize s.rf.length = n at *
  generalize s.a.ts.length = m at *
  generalize s.k = k at *
  by_cases hk : k = 4 ∨ k = 8
  · obtain ⟨h3, h4⟩ := h2 hk
    subst h3 h4
    simp only [if_pos hk]
    by_cases h6 : n = m
    · by_cases h7 : n ≤ 3
      · have e1 : (n = m ∧ n ≤ 3) := ⟨h6, h7⟩
        have e2 : ¬ (n : Int) < 0 := by omega
        have e3 : ¬ (3 : Int) < (n : Int) := by omega
        have e4 : ¬ ((k = 4 ∨ k = 8) ∧ n ≠ m) := fun h => h.2 h6
        rw [if_pos e1, if_neg (by omega : ¬ (0 : Int) < 0), if_neg e2, if_neg e3, if_neg e4, if_pos rfl]
      · have e1 : ¬ (n = m ∧ n ≤ 3) := fun h => h7 h.2
        have e2 : ¬ (n : Int) < 0 := by omega
        have e3 : (3 : Int) < (n : Int) := by omega
        rw [if_neg e1, if_neg (by omega : ¬ (0 : Int) < 0), if_neg e2, if_pos e3, if_neg (by decide)]
    · have e1 : ¬ (n = m ∧ n ≤ 3) := fun h => h6 h.1
      have e2 : ¬ (n : Int) < 0 := by omega
      have e4 : ((k = 4 ∨ k = 8) ∧ n ≠ m) := ⟨hk, h6⟩
      rw [if_neg e1, if_neg (by omega : ¬ (0 : Int) < 0), if_neg e2, if_pos e4, if_neg (by decide)]
      split <;> rfl
  · have e4 : ¬ ((k = 4 ∨ k = 8) ∧ n ≠ m) := fun h => hk h.1
    simp only [if_neg hk, if_neg e4]
    by_cases h3 : le < 0
    · have h5 := (h1 h3).1
      have e1 : ¬ (le ≤ (n : Int) ∧ (n : Int) ≤ mo) := by omega
      rw [if_neg e1, if_pos h3, if_neg (by decide)]
    · by_cases h4 : (n : Int) < le
      · have e1 : ¬ (le ≤ (n : Int) ∧ (n : Int) ≤ mo) := by omega
        rw [if_neg e1, if_neg h3, if_pos h4, if_neg (by decide)]
      · by_cases h5 : mo < (n : Int)
        · have e1 : ¬ (le ≤ (n : Int) ∧ (n : Int) ≤ mo) := by omega
          rw [if_neg e1, if_neg h3, if_neg h4, if_pos h5, if_neg (by decide)]
        · have e1 : (le ≤ (n : Int) ∧ (n : Int) ≤ mo) := by omega
          rw [if_pos e1, if_neg h3, if_neg h4, if_neg h5, if_pos rfl]
theorem well_no (s : S) (i : Nat) (h : leastK s.k < 0 ∨ (s.rf.length : Int) < leastK s.k ∨ mostK s.k < (s.rf.length : Int) ∨ ((s.k = 4 ∨ s.k = 8) ∧ s.rf.length ≠ s.a.ts.length)) : wellB s i = false := by
  rw [well_ref]
  by_cases h1 : leastK s.k < 0
  · rw [if_pos h1]
  · rw [if_neg h1]
    by_cases h2 : (s.rf.length : Int) < leastK s.k
    · rw [if_pos h2]
    · rw [if_neg h2]
      by_cases h3 : mostK s.k < (s.rf.length : Int)
      · rw [if_pos h3]
      · rw [if_neg h3]
        rcases h with h | h | h | h
        · exact absurd h h1
        · exact absurd h h2
        · exact absurd h h3
        · rw [if_pos h]
theorem well_yes (s : S) (i : Nat) (h1 : ¬ leastK s.k < 0) (h2 : ¬ (s.rf.length : Int) < leastK s.k) (h3 : ¬ mostK s.k < (s.rf.length : Int)) (h4 : ¬ ((s.k = 4 ∨ s.k = 8) ∧ s.rf.length ≠ s.a.ts.length)) : wellB s i = allB (i : Int) s.rf := by
  rw [well_ref, if_neg h1, if_neg h2, if_neg h3, if_neg h4]
set_option maxRecDepth 100000 in
set_option maxHeartbeats 4000000 in
theorem well35 (s : S) (q : Pt) (i : Nat) (w : World) (hl : s.rf.length ≤ 100000) (hp : RowI (mem 0 w) w q.p1 q.c1 s.rf) : Calls Tryd.prog 35 #[.agg (cS s q), .int .i64 (i : Int)] w fun e w' => e = .returned (.bool (wellB s i)) ∧ BK w w' := by
  have h1 := bk_alloc (BK.refl w) (.cells (cS s q) 44)
  have KA := Lib.hid h1
  have HP := Lib.hid (hp.bk h1 (Nat.le_refl _))
  have C9 := Lib.hid (fun w => rrefs9 s.k w)
  have HL := Lib.hid hl
  obtain ⟨x0, x1, -, -, -, -, -, -, x8, -⟩ := (Cs.new w (cS s q) 44).all
  simp only [Nat.zero_add] at x0 x1 x8
  have WN := Lib.hid (well_no s i)
  have WY := Lib.hid (well_yes s i)
  clear h1 hp hl
  rw [cS_eq] at *
  obtain ⟨kd, rf, ru, sb, ⟨opa, wda, vla, nma, tsa⟩, ⟨opb, wdb, vlb, nmb, tsb⟩⟩ := s
  obtain ⟨p1, c1, p2, c2, p3, c3, p4, c4⟩ := q
  simp only [T.ts, T.op, T.wd, T.vl, T.nm] at *
  generalize wellB _ i = r at *
  generalize leastK kd = le at *
  generalize mostK kd = mo at *
  go_enter Tryd.func35, Tryd.ntmps35
  go_wp2_with fail
  refine (C9.out _).mono ?_
  rintro e w2 ⟨rfl, rfl⟩
  by_cases h3 : le < 0
  · have WR2 : r = false := WN.out (.inl h3)
    subst WR2
    go_wp2_with fail
    go_ret
    exact ⟨rfl, KA.out⟩
  · by_cases h4 : (rf.length : Int) < le
    · have WR2 : r = false := WN.out (.inr (.inl h4))
      subst WR2
      go_wp2_with fail
      go_ret
      exact ⟨rfl, KA.out⟩
    · by_cases h5 : mo < (rf.length : Int)
      · have WR2 : r = false := WN.out (.inr (.inr (.inl h5)))
        subst WR2
        go_wp2_with fail
        go_ret
        exact ⟨rfl, KA.out⟩
      · have X1 := Lib.hid (fun wc (hb : BK (w.alloc (.cells #[.int .i64 kd, .slice p1 rf.length c1, .int .i64 ru, .slice p2 sb.length c2, .int .i64 opa, .int .i64 wda, .int .u64 vla, .string nma, .slice p3 tsa.length c3, .int .i64 opb, .int .i64 wdb, .int .u64 vlb, .string nmb, .slice p4 tsb.length c4] 44)) wc) => cellBk x1 hb)
        generalize w.alloc (.cells #[.int .i64 kd, .slice p1 rf.length c1, .int .i64 ru, .slice p2 sb.length c2, .int .i64 opa, .int .i64 wda, .int .u64 vla, .string nma, .slice p3 tsa.length c3, .int .i64 opb, .int .i64 wdb, .int .u64 vlb, .string nmb, .slice p4 tsb.length c4] 44) = W0 at *
        by_cases h6 : kd = 4 ∨ kd = 8
        · by_cases h7 : rf.length = tsa.length
          · have WR4 := Lib.hid (show r = allB (i : Int) rf from WY.out (by omega) (by omega) (by omega) (fun h => h.2 h7))
            have h7' : ((rf.length : Int) != (tsa.length : Int)) = false := by simp [h7]
            have h7'' : (rf.length : Int) = (tsa.length : Int) := by omega
            rcases h6 with rfl | rfl
            · go_wp2_with fail
              go_loopw [7] (fun iv wr => ∃ k : Nat, k ≤ rf.length ∧ iv = .int .i64 (k : Int) ∧ allB (i : Int) (rf.drop k) = r ∧ BK W0 wr) (fun iv _ => rf.length - (intOf iv).toNat)
              case atStart => exact ⟨0, Nat.zero_le _, rfl, WR4.out.symm, BK.refl _⟩
              case round =>
                obtain ⟨k, hk, rfl, heq, hb⟩ := hrel
                have EQ := Lib.hid heq
                have KB := Lib.hid hb
                have x1 := X1.out _ hb
                clear heq hb
                by_cases e : k = rf.length
                · have hd : decide (k < rf.length) = false := by simp [e]
                  have EQ2 := EQ.out
                  rw [List.drop_of_length_le (by omega)] at EQ2
                  have EQ3 : r = true := EQ2.symm
                  subst EQ3
                  subst e
                  go_wp2_with fail
                  go_ret
                  exact ⟨rfl, bk_tr KA.out KB.out⟩
                · have hlt : k < rf.length := by omega
                  have hd : decide (k < rf.length) = true := by simpa using hlt
                  have hki : (k : Int) < (rf.length : Int) := by omega
                  have ei : IntKind.i64.wrap ((k : Int) + 1) = (k : Int) + 1 := by have := HL.out; exact IntWalk.i64_in _ (by omega)
                  obtain ⟨b, o, rfl, -, z⟩ := (HP.out.bk KB.out (Nat.le_refl _)).get hlt
                  have EQ2 := EQ.out
                  rw [List.drop_eq_getElem_cons hlt, allB_cons] at EQ2
                  have HLT := Lib.hid hlt
                  generalize rf[k] = g at *
                  by_cases g0 : g < 0
                  · rw [if_neg (show ¬ (0 ≤ g ∧ g < (i : Int)) from by omega)] at EQ2
                    subst EQ2
                    go_wp2_with fail
                    go_ret
                    exact ⟨rfl, bk_tr KA.out KB.out⟩
                  · by_cases g1 : g < (i : Int)
                    · rw [if_pos (show (0 ≤ g ∧ g < (i : Int)) from by omega)] at EQ2
                      have EQ3 := Lib.hid EQ2
                      clear EQ2 EQ
                      go_wp2_with fail
                      go_roundw
                      case rel => exact ⟨k + 1, by have := HLT.out; omega, by go_num, EQ3.out, KB.out⟩
                      case measure => have := HLT.out; simp [intOf]; omega
                    · rw [if_neg (show ¬ (0 ≤ g ∧ g < (i : Int)) from by omega)] at EQ2
                      subst EQ2
                      go_wp2_with fail
                      go_ret
                      exact ⟨rfl, bk_tr KA.out KB.out⟩
            · go_wp2_with fail
              go_loopw [7] (fun iv wr => ∃ k : Nat, k ≤ rf.length ∧ iv = .int .i64 (k : Int) ∧ allB (i : Int) (rf.drop k) = r ∧ BK W0 wr) (fun iv _ => rf.length - (intOf iv).toNat)
              case atStart => exact ⟨0, Nat.zero_le _, rfl, WR4.out.symm, BK.refl _⟩
              case round =>
                obtain ⟨k, hk, rfl, heq, hb⟩ := hrel
                have EQ := Lib.hid heq
                have KB := Lib.hid hb
                have x1 := X1.out _ hb
                clear heq hb
                by_cases e : k = rf.length
                · have hd : decide (k < rf.length) = false := by simp [e]
                  have EQ2 := EQ.out
                  rw [List.drop_of_length_le (by omega)] at EQ2
                  have EQ3 : r = true := EQ2.symm
                  subst EQ3
                  subst e
                  go_wp2_with fail
                  go_ret
                  exact ⟨rfl, bk_tr KA.out KB.out⟩
                · have hlt : k < rf.length := by omega
                  have hd : decide (k < rf.length) = true := by simpa using hlt
                  have hki : (k : Int) < (rf.length : Int) := by omega
                  have ei : IntKind.i64.wrap ((k : Int) + 1) = (k : Int) + 1 := by have := HL.out; exact IntWalk.i64_in _ (by omega)
                  obtain ⟨b, o, rfl, -, z⟩ := (HP.out.bk KB.out (Nat.le_refl _)).get hlt
                  have EQ2 := EQ.out
                  rw [List.drop_eq_getElem_cons hlt, allB_cons] at EQ2
                  have HLT := Lib.hid hlt
                  generalize rf[k] = g at *
                  by_cases g0 : g < 0
                  · rw [if_neg (show ¬ (0 ≤ g ∧ g < (i : Int)) from by omega)] at EQ2
                    subst EQ2
                    go_wp2_with fail
                    go_ret
                    exact ⟨rfl, bk_tr KA.out KB.out⟩
                  · by_cases g1 : g < (i : Int)
                    · rw [if_pos (show (0 ≤ g ∧ g < (i : Int)) from by omega)] at EQ2
                      have EQ3 := Lib.hid EQ2
                      clear EQ2 EQ
                      go_wp2_with fail
                      go_roundw
                      case rel => exact ⟨k + 1, by have := HLT.out; omega, by go_num, EQ3.out, KB.out⟩
                      case measure => have := HLT.out; simp [intOf]; omega
                    · rw [if_neg (show ¬ (0 ≤ g ∧ g < (i : Int)) from by omega)] at EQ2
                      subst EQ2
                      go_wp2_with fail
                      go_ret
                      exact ⟨rfl, bk_tr KA.out KB.out⟩
          · have WR4 : r = false := WN.out (.inr (.inr (.inr ⟨h6, h7⟩)))
            subst WR4
            have h7' : ((rf.length : Int) != (tsa.length : Int)) = true := nn_cast h7
            have h7'' : ¬ (rf.length : Int) = (tsa.length : Int) := by omega
            rcases h6 with rfl | rfl
            · go_wp2_with fail
              go_ret
              exact ⟨rfl, KA.out⟩
            · go_wp2_with fail
              go_ret
              exact ⟨rfl, KA.out⟩
        · have WR4 := Lib.hid (show r = allB (i : Int) rf from WY.out (by omega) (by omega) (by omega) (fun h => h6 h.1))
          have k4 : (kd == 4) = false := by simp; omega
          have k8 : (kd == 8) = false := by simp; omega
          have k4' : ¬ kd = 4 := by omega
          have k8' : ¬ kd = 8 := by omega
          clear h6
          go_wp2_with fail
          go_loopw [7] (fun iv wr => ∃ k : Nat, k ≤ rf.length ∧ iv = .int .i64 (k : Int) ∧ allB (i : Int) (rf.drop k) = r ∧ BK W0 wr) (fun iv _ => rf.length - (intOf iv).toNat)
          case atStart => exact ⟨0, Nat.zero_le _, rfl, WR4.out.symm, BK.refl _⟩
          case round =>
            obtain ⟨k, hk, rfl, heq, hb⟩ := hrel
            have EQ := Lib.hid heq
            have KB := Lib.hid hb
            have x1 := X1.out _ hb
            clear heq hb
            by_cases e : k = rf.length
            · have hd : decide (k < rf.length) = false := by simp [e]
              have EQ2 := EQ.out
              rw [List.drop_of_length_le (by omega)] at EQ2
              have EQ3 : r = true := EQ2.symm
              subst EQ3
              subst e
              go_wp2_with fail
              go_ret
              exact ⟨rfl, bk_tr KA.out KB.out⟩
            · have hlt : k < rf.length := by omega
              have hd : decide (k < rf.length) = true := by simpa using hlt
              have hki : (k : Int) < (rf.length : Int) := by omega
              have ei : IntKind.i64.wrap ((k : Int) + 1) = (k : Int) + 1 := by have := HL.out; exact IntWalk.i64_in _ (by omega)
              obtain ⟨b, o, rfl, -, z⟩ := (HP.out.bk KB.out (Nat.le_refl _)).get hlt
              have EQ2 := EQ.out
              rw [List.drop_eq_getElem_cons hlt, allB_cons] at EQ2
              have HLT := Lib.hid hlt
              generalize rf[k] = g at *
              by_cases g0 : g < 0
              · rw [if_neg (show ¬ (0 ≤ g ∧ g < (i : Int)) from by omega)] at EQ2
                subst EQ2
                go_wp2_with fail
                go_ret
                exact ⟨rfl, bk_tr KA.out KB.out⟩
              · by_cases g1 : g < (i : Int)
                · rw [if_pos (show (0 ≤ g ∧ g < (i : Int)) from by omega)] at EQ2
                  have EQ3 := Lib.hid EQ2
                  clear EQ2 EQ
                  go_wp2_with fail
                  go_roundw
                  case rel => exact ⟨k + 1, by have := HLT.out; omega, by go_num, EQ3.out, KB.out⟩
                  case measure => have := HLT.out; simp [intOf]; omega
                · rw [if_neg (show ¬ (0 ≤ g ∧ g < (i : Int)) from by omega)] at EQ2
                  subst EQ2
                  go_wp2_with fail
                  go_ret
                  exact ⟨rfl, bk_tr KA.out KB.out⟩
set_option maxRecDepth 100000 in
set_option maxHeartbeats 4000000 in
theorem check15 (ss : List S) (hl : ss.length ≤ 100000) (hok : ∀ s ∈ ss, s.rf.length ≤ 100000) (w : World) (p : Option Addr) (c : Nat) (hp : RowS (mem 0 w) w p c ss) : Calls Tryd.prog 15 #[.slice p ss.length c] w fun e w' => e = .returned (.tuple #[.int .i64 ((chk ss).1 : Int), .int .i64 ((chk ss).2 : Int)]) ∧ BK w w' := by
  have CK := Lib.hid (show chk ss = if 65536 < ss.length then (0, 7) else if ss.length = 0 then (0, 8) else fb 0 ss from rfl)
  by_cases h1 : 65536 < ss.length
  · have CK2 := CK.out
    rw [if_pos h1] at CK2
    rw [CK2]
    have h1' : (65536 : Int) < (ss.length : Int) := by omega
    clear hp CK CK2 h1 hok hl
    generalize ss.length = n at *
    go_enter Tryd.func15, Tryd.ntmps15
    go_wp2_with fail
    go_ret2
    exact ⟨rfl, BK.refl _⟩
  · by_cases h2 : ss.length = 0
    · have CK2 := CK.out
      rw [if_neg h1, if_pos h2] at CK2
      rw [CK2, h2]
      clear hp CK CK2 h1 hok h2 hl
      go_enter Tryd.func15, Tryd.ntmps15
      go_wp2_with fail
      go_ret2
      exact ⟨rfl, BK.refl _⟩
    · have CK2 := CK.out
      rw [if_neg h1, if_neg h2] at CK2
      rw [CK2]
      have h1' : ¬ (65536 : Int) < (ss.length : Int) := by omega
      have h2' : ((ss.length : Int) == 0) = false := ne_cast (d := 0) h2
      have HP := Lib.hid hp
      have OK := Lib.hid hok
      have HL := Lib.hid (show ss.length ≤ 65536 from by omega)
      clear hp CK CK2 h1 hok h2 hl
      generalize hr : fb 0 ss = r
      have HR := Lib.hid hr
      clear hr
      go_enter Tryd.func15, Tryd.ntmps15
      go_wp2_with fail
      clear h1' h2'
      go_loopw [4] (fun iv wr => ∃ k : Nat, k ≤ ss.length ∧ iv = .int .i64 (k : Int) ∧ fb k (ss.drop k) = r ∧ BK w wr) (fun iv _ => ss.length - (intOf iv).toNat)
      case atStart => exact ⟨0, Nat.zero_le _, rfl, HR.out, BK.refl _⟩
      case round =>
        obtain ⟨k, hk, rfl, heq, hb⟩ := hrel
        have EQ := Lib.hid heq
        have KB := Lib.hid hb
        clear heq hb
        by_cases e : k = ss.length
        · have hd : decide (k < ss.length) = false := by simp [e]
          have EQ2 := EQ.out
          rw [List.drop_of_length_le (by omega)] at EQ2
          have EQ3 : r = (0, 0) := EQ2.symm
          subst EQ3
          subst e
          go_wp2_with fail
          go_ret2
          exact ⟨rfl, KB.out⟩
        · have hlt : k < ss.length := by omega
          have hd : decide (k < ss.length) = true := by simpa using hlt
          obtain ⟨b, o, q, rfl, -, hc, hps⟩ := (HP.out.bk KB.out (Nat.le_refl _)).get hlt
          have EQ2 := EQ.out
          rw [List.drop_eq_getElem_cons hlt, fb_cons] at EQ2
          have CC := Lib.hid (well35 ss[k] q k wr (OK.out _ (List.getElem_mem hlt)) hps.rf)
          obtain ⟨z0, z1, z2, z3, z4, z5, z6, z7, z8, z9, z10, z11, z12, z13⟩ := hc.all
          have EQ3 := Lib.hid EQ2
          have ei : IntKind.i64.wrap ((k : Int) + 1) = (k : Int) + 1 := by have := HL.out; exact IntWalk.i64_in _ (by omega)
          have hki : (k : Int) < (ss.length : Int) := by omega
          have HLT := Lib.hid hlt
          clear hps hc e EQ2
          rw [cS_eq] at CC
          generalize wellB ss[k] k = bb at *
          generalize ss[k] = s at *
          cases bb with
          | true =>
            have EQ4 := Lib.hid (show fb (k + 1) (ss.drop (k + 1)) = r from by have := EQ3.out; rwa [if_pos rfl] at this)
            go_wp2_with fail
            refine CC.out.mono ?_
            rintro e w2 ⟨rfl, hb2⟩
            have K2 := Lib.hid (bk_tr KB.out hb2)
            clear hb2
            go_wp2_with fail
            go_roundw
            case rel => exact ⟨k + 1, by have := HLT.out; omega, by go_num, EQ4.out, K2.out⟩
            case measure => have := HLT.out; simp [intOf]; omega
          | false =>
            have EQ4 : r = (k, 14) := by have := EQ3.out; rw [if_neg (by decide)] at this; exact this.symm
            subst EQ4
            go_wp2_with fail
            refine CC.out.mono ?_
            rintro e w2 ⟨rfl, hb2⟩
            have K2 := Lib.hid (bk_tr KB.out hb2)
            clear hb2
            go_wp2_with fail
            go_ret2
            exact ⟨rfl, K2.out⟩
end Go.Proofs.YtnlpiaejfmdckaaDoor
