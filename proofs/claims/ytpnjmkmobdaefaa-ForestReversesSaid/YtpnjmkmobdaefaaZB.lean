/- The law of the reversed path. -/
import Derived.Test.YtpnjmkmobdaefaaY
namespace Go.Proofs.Ytpnjmkmobdaefaa
open Go.RowKit Go.Maps
set_option linter.unusedVariables false
set_option linter.unusedSimpArgs false
theorem path_back {M : List L3} (hw : WFR M.reverse) (a b : Int) : sameB M b a = sameB M a b ∧ pathL M b a = (pathL M a b).reverse.map turnL := by
  by_cases h : 0 ≤ a ∧ 0 ≤ b
  · have h' : 0 ≤ b ∧ 0 ≤ a := ⟨h.2, h.1⟩
    have e1 : pathO M a b = PR M.reverse a b := if_pos h
    have e2 : pathO M b a = PR M.reverse b a := if_pos h'
    unfold sameB pathL
    rw [e1, e2]
    cases hp : PR M.reverse a b with
    | some p => rw [pr_back hw hp]; exact ⟨rfl, rfl⟩
    | none =>
      cases hq : PR M.reverse b a with
      | none => exact ⟨rfl, rfl⟩
      | some q => rw [pr_back hw hq] at hp; cases hp
  · have h' : ¬ (0 ≤ b ∧ 0 ≤ a) := fun q => h ⟨q.2, q.1⟩
    have e1 : pathO M a b = none := if_neg h
    have e2 : pathO M b a = none := if_neg h'
    unfold sameB pathL
    rw [e1, e2]
    exact ⟨rfl, rfl⟩
set_option maxHeartbeats 1000000 in
theorem reverses_long (p : Option Addr) (n c : Nat) (a b : Int) (w : World) (h : 60 < n) : Calls Try.prog 6 #[.slice p n c, .int .i64 a, .int .i64 b] w fun e w' => e = .returned (.bool true) ∧ BK w w' := by
  have hi : (60 : Int) < (n : Int) := by omega
  have HL := Lib.hid (live12 w)
  go_enter Try.func6, Try.ntmps6
  go_wp2_with fail
  refine HL.out.mono ?_
  rintro e w1 ⟨rfl, hb⟩
  have HB := Lib.hid hb
  clear hb
  go_wp2_with fail
  go_ret
  exact ⟨rfl, HB.out⟩
set_option maxRecDepth 100000 in
set_option maxHeartbeats 2000000 in
theorem reverses_law (p : Option Addr) (c : Nat) (a b : Int) (ac : List A4) (w : World) (ha : RA w p ac) (hl : ac.length ≤ 60) (oa : okI a) (ob : okI b) : Calls Try.prog 6 #[.slice p ac.length c, .int .i64 a, .int .i64 b] w fun e w' => e = .returned (.bool true) ∧ BK w w' := by
  have hi : ¬ (60 : Int) < (ac.length : Int) := by omega
  have HP := Lib.hid (play20 w p c ac ha hl)
  have hML : (playM [] ac).length ≤ 60 := by have := playM_len ac []; simp at this; omega
  clear ha hl
  generalize playM [] ac = M at HP hML
  generalize ac.length = n at *
  have OA := Lib.hid oa
  have OB := Lib.hid ob
  clear oa ob
  go_enter Try.func6, Try.ntmps6
  go_wp2_with fail
  refine HP.out.mono ?_
  rintro e w1 ⟨o, rfl, hF, hb1⟩
  have HF := Lib.hid hF
  have B1 := Lib.hid hb1
  have C1 := Lib.hid (path21 w1 _ o M _ hF a b OA.out OB.out (by omega))
  clear hF hb1 HP
  go_wp2_with fail
  refine C1.out.mono ?_
  rintro e w2 ⟨v, rfl, ho, hb2⟩
  have HO := Lib.hid ho
  have B2 := Lib.hid (bk_tr B1.out hb2)
  have C2 := Lib.hid (path21 w2 _ o M _ (HF.out.bk hb2) b a OB.out OA.out (by omega))
  obtain ⟨pv, cv, rfl⟩ := own_shape ho
  clear ho hb2 C1
  have pb := path_back HF.out.wf a b
  go_wp2_with fail
  refine C2.out.mono ?_
  rintro e w3 ⟨v3, rfl, ho3, hb3⟩
  have B3 := Lib.hid (bk_tr B2.out hb3)
  obtain ⟨p3, c3', rfl⟩ := own_shape ho3
  have R1 := Lib.hid ((RL.own HO.out).keep hb3)
  have R2 := Lib.hid (RL.own ho3)
  have hpl := pathL_len M a b
  rw [pb.1]
  rw [pb.2] at R2
  rw [show (pathL M b a).length = (pathL M a b).length by rw [pb.2]; simp]
  clear ho3 hb3 C2 pb HO
  generalize pathL M a b = P at *
  generalize hs : sameB M a b = s at *
  generalize hm : P.length = m at *
  have HM := Lib.hid hm
  clear hs hm
  have hm0 : (m == m) = true := by simp
  go_wp2_with fail
  go_loopw [12] (fun x wr => ∃ k : Nat, x = .int .i64 k ∧ k ≤ m ∧ BK w3 wr) (fun x _ => m - (intOf x).toNat)
  case atStart => exact ⟨0, rfl, by omega, BK.refl _⟩
  case round =>
    obtain ⟨k, rfl, hk, hb⟩ := hrel
    have HB := Lib.hid hb
    clear hb
    by_cases e : k = m
    · subst e
      have C6 := Lib.hid (live12 wr)
      go_wp2_with fail
      refine C6.out.mono ?_
      rintro e w6 ⟨rfl, hb6⟩
      have B6 := Lib.hid (bk_tr (bk_tr B3.out HB.out) hb6)
      clear hb6
      go_wp2_with fail
      go_ret
      exact ⟨rfl, B6.out⟩
    · have hlt : (k : Int) < (m : Int) := by omega
      obtain ⟨j, hj⟩ : ∃ j, j = m - 1 - k := ⟨_, rfl⟩
      have hjl : (j : Int) < (m : Int) := by omega
      have ei1 : IntKind.i64.wrap ((m : Int) - 1) = (m : Int) - 1 := IntWalk.i64_in _ (by omega)
      have ei2 : IntKind.i64.wrap ((m : Int) - 1 - (k : Int)) = (j : Int) := by rw [IntWalk.i64_in _ (by omega)]; omega
      have hkP : k < P.length := by rw [HM.out]; omega
      obtain ⟨b1, o1, rfl, hA⟩ := (R1.out.keep HB.out).get k hkP
      obtain ⟨b2, o2, rfl, hC⟩ := (R2.out.keep HB.out).get j (by rw [List.length_map, List.length_reverse, HM.out]; omega)
      have E : (P.reverse.map turnL)[j]'(by rw [List.length_map, List.length_reverse, HM.out]; omega) = turnL P[k] := by
        have hm' := HM.out
        simp only [List.getElem_map, List.getElem_reverse]
        congr 2
        omega
      rw [E] at hC
      clear E
      have HA := Lib.hid (fun w' (h : BK wr w') => hA.keep h)
      have HC := Lib.hid (fun w' (h : BK wr w') => hC.keep h)
      clear hA hC
      generalize P[k] = l at *
      obtain ⟨la, lb, ly⟩ := l
      have HT := Lib.hid (turned25 la lb ly)
      clear hkP hj
      go_wp2_with fail
      refine wp_region_class (C := fun w' => BK wr w') (by kernel_rfl) (by kernel_rfl) (bk_drew (BK.refl _)) ?_
      repeat (first
          | go_big_quiet_step (fail)
          | (refine wpQuiet_step (fun K hK => ?_)
             go_simp
             first
               | (refine hK _ ?_; clear hK K)
               | (refine ⟨_, fun _ _ => rfl, hK _ ?_⟩; clear hK K)
               | (apply Exists.intro; refine ⟨fun w5 hw5 => ?_, hK _ ?_⟩; (go_at_call 25; with_reducible exact (HT.out w5).mono (fun e w6 h6 => ⟨h6.1, bk_tr hw5 h6.2⟩)); clear hK K)
               | (apply Exists.intro; refine ⟨fun w5 hw5 => ?_, hK _ ?_⟩; (obtain ⟨A0, A1, A2⟩ := HA.out w5 hw5; obtain ⟨X0, X1, X2⟩ := HC.out w5 hw5; unfold turnL at X0 X1 X2; dsimp only at A0 A1 A2 X0 X1 X2; go_simp; rfl); clear hK K)
               | (apply Exists.intro; refine ⟨fun w5 hw5 => ?_, hK _ ?_⟩; (obtain ⟨A0, A1, A2⟩ := HA.out w5 hw5; obtain ⟨X0, X1, X2⟩ := HC.out w5 hw5; unfold turnL at X0 X1 X2; dsimp only at A0 A1 A2 X0 X1 X2; go_simp; exact ⟨rfl, rfl⟩); clear hK K)))
      refine wpQuiet_nil ?_
      intro w5 hw5
      have H5 := Lib.hid (bk_tr HB.out hw5)
      clear hw5
      go_wp2_with fail
      go_roundw
      case rel => exact ⟨k + 1, by go_num, by omega, H5.out⟩
      case measure => simp [intOf]; omega
end Go.Proofs.Ytpnjmkmobdaefaa
