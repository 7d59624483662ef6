/- The law of the paths. -/
import Derived.Test.YtpnjmkmobdaefaaY
namespace Go.Proofs.Ytpnjmkmobdaefaa
open Go.RowKit Go.Maps
set_option linter.unusedVariables false
set_option linter.unusedSimpArgs false
theorem wf_play {w : World} {B : Nat} {o : FO} {M : List L3} {N : Nat} (h : FS w B o M N) : WFR M.reverse := h.wf
set_option maxHeartbeats 1000000 in
theorem paths_long (p : Option Addr) (n c : Nat) (a b : Int) (w : World) (h : 60 < n) : Calls Try.prog 4 #[.slice p n c, .int .i64 a, .int .i64 b] w fun e w' => e = .returned (.bool true) ∧ BK w w' := by
  have hi : (60 : Int) < (n : Int) := by omega
  have HL := Lib.hid (live12 w)
  go_enter Try.func4, Try.ntmps4
  go_wp2_with fail
  refine HL.out.mono ?_
  rintro e w1 ⟨rfl, hb⟩
  have HB := Lib.hid hb
  clear hb
  go_wp2_with fail
  go_ret
  exact ⟨rfl, HB.out⟩
set_option maxRecDepth 100000 in
set_option maxHeartbeats 2000000 in
theorem paths_law (p : Option Addr) (c : Nat) (a b : Int) (ac : List A4) (w : World) (ha : RA w p ac) (hl : ac.length ≤ 60) (oa : okI a) (ob : okI b) : Calls Try.prog 4 #[.slice p ac.length c, .int .i64 a, .int .i64 b] w fun e w' => e = .returned (.bool true) ∧ BK w w' := by
  have hi : ¬ (60 : Int) < (ac.length : Int) := by omega
  have HP := Lib.hid (play20 w p c ac ha hl)
  have hML : (playM [] ac).length ≤ 60 := by have := playM_len ac []; simp at this; omega
  clear ha hl
  generalize playM [] ac = M at HP hML
  generalize ac.length = n at *
  have OA := Lib.hid oa
  have OB := Lib.hid ob
  clear oa ob
  go_enter Try.func4, Try.ntmps4
  go_wp2_with fail
  refine HP.out.mono ?_
  rintro e w1 ⟨o, rfl, hF, hb1⟩
  have HF := Lib.hid hF
  have B1 := Lib.hid hb1
  have C1 := Lib.hid (path21 w1 _ o M _ hF a b OA.out OB.out (by omega))
  clear hF hb1 HP
  go_wp2_with fail
  refine C1.out.mono ?_
  rintro e w2 ⟨v, rfl, ho, hb2⟩
  have HO := Lib.hid ho
  have B2 := Lib.hid (bk_tr B1.out hb2)
  have HF2 := Lib.hid (HF.out.bk hb2)
  have C2 := Lib.hid (links19 w2 _ o M _ HF2.out.fb (by omega))
  obtain ⟨pv, cv, rfl⟩ := own_shape ho
  clear ho hb2 C1
  go_wp2_with fail
  refine C2.out.mono ?_
  rintro e w3 ⟨v3, rfl, ho3, hb3⟩
  have HO3 := Lib.hid ho3
  have B3 := Lib.hid (bk_tr B2.out hb3)
  have K3 := Lib.hid hb3
  have HF3 := Lib.hid (HF2.out.bk hb3)
  obtain ⟨p3, c3', rfl⟩ := own_shape ho3
  have C3 := Lib.hid (path22 w3 M HF.out.wf (by omega) p3 c3' (RL.own ho3) a b)
  clear ho3 hb3 C2
  go_wp2_with fail
  refine C3.out.mono ?_
  rintro e w4 ⟨v4, rfl, ho4, hb4⟩
  have B4 := Lib.hid (bk_tr B3.out hb4)
  have HF4 := Lib.hid (HF3.out.bk hb4)
  obtain ⟨p4, c4', rfl⟩ := own_shape ho4
  have hpl := pathL_len M a b
  have C4 := Lib.hid (equal18 w4 (pathL M a b) pv p4 cv c4' ((RL.own HO.out).keep (bk_tr K3.out hb4)) (RL.own ho4) (by omega))
  clear ho4 hb4 C3 hpl
  generalize (pathL M a b).length = pl at *
  generalize hs : sameB M a b = s at *
  go_wp2_with fail
  refine C4.out.mono ?_
  rintro e w5 ⟨rfl, hb5⟩
  have B5 := Lib.hid (bk_tr B4.out hb5)
  have C5 := Lib.hid (same23 w5 _ o M _ (HF4.out.bk hb5) a b OA.out OB.out)
  have C6 := Lib.hid (live12 w5)
  rw [hs] at C5
  clear hb5 C4
  go_wp2_with fail
  refine C5.out.mono ?_
  rintro e w' ⟨rfl, rfl⟩
  go_wp2_with fail
  refine C6.out.mono ?_
  rintro e w6 ⟨rfl, hb6⟩
  have B6 := Lib.hid (bk_tr B5.out hb6)
  clear hb6
  go_wp2_with fail
  go_ret
  exact ⟨rfl, B6.out⟩
end Go.Proofs.Ytpnjmkmobdaefaa
