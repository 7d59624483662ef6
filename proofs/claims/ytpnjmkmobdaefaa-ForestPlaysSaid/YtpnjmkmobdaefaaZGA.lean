/- The law of the operations: the walk. -/
import Derived.Test.YtpnjmkmobdaefaaZG
import Derived.StillTailTactics
import Derived.Deep.RegionHeld3
namespace Go.Proofs.Ytpnjmkmobdaefaa
open Go.RowKit Go.Maps
set_option linter.unusedVariables false
set_option linter.unusedSimpArgs false
set_option maxRecDepth 100000 in
set_option maxHeartbeats 4000000 in
theorem plays_law (p : Option Addr) (c : Nat) (ac : List A4) (w : World) (ha : RA w p ac) (hl : ac.length ≤ 60) : Calls Try.prog 3 #[.slice p ac.length c] w fun e w' => e = .returned (.bool true) ∧ BK w w' := by
  have hi : ¬ (60 : Int) < (ac.length : Int) := by omega
  have hd60 : decide ((60 : Int) < (ac.length : Int)) = false := by simp; omega
  have HN := Lib.hid (new11 w)
  have HA := Lib.hid ha
  clear ha
  generalize hn : ac.length = n at *
  have HL := Lib.hid hn
  clear hn
  go_enter Try.func3, Try.ntmps3
  go_wp2_with fail
  refine HN.out.mono ?_
  rintro e w1 ⟨o, rfl, hF, hb⟩
  have P0 := Lib.hid (PG.start hF hb)
  generalize o.f = F at P0 ⊢
  clear hF hb HN
  go_wp2_with fail
  go_loopw [4, 5] (fun v a wr => ∃ k : Nat, a = .int .i64 k ∧ k ≤ n ∧ PG w F (playM [] (ac.take k)) (100 * k) v wr) (fun _ a _ => n - (intOf a).toNat)
  case atStart => exact ⟨0, rfl, by omega, P0.out⟩
  case round =>
    obtain ⟨k, rfl, hk, hpg⟩ := hrel
    have PP := Lib.hid hpg
    obtain ⟨⟨o1, B, hf, hF, ho, hap⟩, hb⟩ := hpg
    have HF := Lib.hid hF
    have HB := Lib.hid hb
    have FE := Lib.hid hf
    have HO := Lib.hid ho
    have HAP := Lib.hid hap
    obtain ⟨pl, cl, rfl⟩ := own_shape ho
    clear hF hb hf ho hap
    by_cases e : k = n
    · subst e
      have C6 := Lib.hid (live12 wr)
      go_wp2_with fail
      refine C6.out.mono ?_
      rintro e w6 ⟨rfl, hb6⟩
      have B6 := Lib.hid (bk_tr HB.out hb6)
      clear hb6
      go_wp2_with fail
      go_ret
      exact ⟨rfl, B6.out⟩
    · have hlt : (k : Int) < (n : Int) := by omega
      have hka : k < ac.length := by rw [HL.out]; omega
      obtain ⟨b1, p1, rfl, hM⟩ := (HA.out.keep HB.out).get k hka
      have hok := HA.out.ok _ (List.getElem_mem hka)
      have HML := Lib.hid (show (playM [] (ac.take k)).length ≤ 60 from by have := playM_len (ac.take k) []; simp at this; omega)
      have HML2 := Lib.hid (show (playM [] (ac.take k)).length ≤ 100 * k from by have := playM_len (ac.take k) []; simp at this; omega)
      have PN := Lib.hid (play_next (M := []) hka)
      have RLL := Lib.hid (RL.own HO.out)
      have NXT := Lib.hid (fun M' v' w1 w2 t e (r : RPv wr _ _ M' v' w1) (s : SP w1 w.heap.size o1 (100 * k) t M' e w2) => PG.next HB.out FE.out HF.out HO.out HAP.out r s)
      generalize ac[k] = x at *
      clear hka
      generalize hMM : playM [] (ac.take k) = M at *
      clear hMM
      obtain ⟨xu, xa, xb, xy⟩ := x
      have HM4 := Lib.hid (fun wc (h : BK wr wc) => hM.keep h)
      obtain ⟨m0, m1, m2, m3⟩ := hM
      dsimp only at *
      have hm60 : M.length ≤ 60 := HML.out
      cases xu with
      | true =>
        have M' := stM_u (M := M) (x := ⟨true, xa, xb, xy⟩) rfl
        dsimp only at M'
        have PN2 := Lib.hid (PN.out.trans M')
        have C13 := Lib.hid (rundo_st wr M (by omega) pl cl RLL.out xa)
        clear M' PN
        generalize hml : M.length = ml at *
        have HMLL := Lib.hid hml
        clear hml
        go_wp2_with fail
        refine C13.out.mono ?_
        rintro e w2 ⟨v', rfl, hrp⟩
        have HRP := Lib.hid hrp
        have SM := Lib.hid (hrp.1)
        have C14 := Lib.hid (undo_st w2 w.heap.size o1 M _ (HF.out.bk hrp.1) (by omega) (by have := HMLL.out; omega) xa)
        obtain ⟨n0, n1, n2, n3⟩ := HM4.out w2 hrp.1
        dsimp only at n0 n1 n2 n3
        rw [FE.out] at C14
        have LM := Lib.hid (undoM_len M xa)
        clear hrp C13 m0 m1 m2 m3
        go_wp2_with fail
        refine C14.out.mono ?_
        intro e w3 s
        have PGN := Lib.hid (NXT.out _ _ _ _ _ _ HRP.out s)
        obtain ⟨rfl, _⟩ := s
        rw [← PN2.out] at PGN
        generalize undoB M xa = t at *
        obtain ⟨⟨o2, B2, hf2, hF2, ho2, hap2⟩, hb2⟩ := PGN.out
        have C17 := Lib.hid (len17 w3 _ o2 _ _ hF2.fb)
        have HLEN2 := Lib.hid (show (playM [] (ac.take (k + 1))).length ≤ 61 from by have := playM_len (ac.take (k + 1)) []; simp at this; omega)
        have C19 := Lib.hid (links19 w3 _ o2 _ _ hF2.fb (by have := HLEN2.out; omega))
        rw [hf2] at C17 C19
        obtain ⟨pv, cv, e2⟩ := own_shape ho2
        cases e2
        have RL3 := Lib.hid (RL.own ho2)
        clear hf2 hF2 ho2 hap2 hb2
        generalize hM2e : playM [] (ac.take (k + 1)) = M2 at *
        have HM2 := Lib.hid hM2e
        clear hM2e
        generalize hl2 : M2.length = l2 at *
        have HL2 := Lib.hid hl2
        clear hl2
        go_wp2_with fail
        refine C17.out.mono ?_
        rintro e w' ⟨rfl, rfl⟩
        go_wp2_with fail
        refine C19.out.mono ?_
        rintro e w4 ⟨v4, rfl, ho4, hb4⟩
        have K4 := Lib.hid hb4
        obtain ⟨p4, c4, e4, r4⟩ : ∃ p c, v4 = .slice p M2.length c ∧ RL w4 p c M2 := by
          obtain ⟨p, c, e⟩ := own_shape ho4
          exact ⟨p, c, e, RL.own (n := M2.length) (B := w3.heap.size) (e := 44) (by rw [← e]; exact ho4)⟩
        subst e4
        have E18 := Lib.hid (equal18 w4 M2 p4 pv c4 cv r4 (RL3.out.keep hb4) (by rw [HL2.out]; have := HLEN2.out; omega))
        rw [HL2.out] at E18
        rw [HL2.out]
        clear ho4 hb4 r4
        go_wp2_with fail
        refine E18.out.mono ?_
        rintro e w5 ⟨rfl, hb5⟩
        have PG5 := Lib.hid (PGN.out.keep (bk_tr K4.out hb5))
        clear hb5
        go_wp2_with fail
        go_roundw
        case rel => exact ⟨k + 1, by go_num, by omega, by rw [HM2.out]; exact PG5.out⟩
        case measure => simp [intOf]; omega
      | false =>
        have M' := stM_l (M := M) (x := ⟨false, xa, xb, xy⟩) rfl
        dsimp only at M'
        have PN2 := Lib.hid (PN.out.trans M')
        have C15 := Lib.hid (fun wc (h : BK wr wc) => rlink_st wc M HF.out.wf (by omega) pl cl (RLL.out.keep h) xa xb xy)
        clear M' PN
        generalize hml : M.length = ml at *
        have HMLL := Lib.hid hml
        clear hml
        have KS := Lib.hid (fun wc (h : BK wr wc) => (HM4.out wc h).2)
        dsimp only at KS
        go_wp2_with fail
        go_region_held3 (fun w' => w'.cell? ⟨b1, p1 + k * 4 + 1, none⟩ = some (.int .i64 xa) ∧ w'.cell? ⟨b1, p1 + k * 4 + 2, none⟩ = some (.int .i64 xb) ∧ w'.cell? ⟨b1, p1 + k * 4 + 3, none⟩ = some (.int .i64 xy))
          (first | exact KS.out _ K2.out | exact KS.out _ (bk_drew (BK.refl _)) | (go_keep; done))
          (first | (go_at_call 15; refine (C15.out _ (bk_drew (BK.refl _))).mono ?_; rintro e w2 ⟨v', rfl, hrp⟩; have HRP := Lib.hid hrp; have K2 := Lib.hid (bk_tr (bk_drew (BK.refl wr)) hrp.1); clear hrp))
        have KW := Lib.hid (show BK wr w2 from of_drew HRP.out.1)
        obtain ⟨n1, n2, n3⟩ := KS.out w2 KW.out
        have C16 := Lib.hid (link_st w2.drew w.heap.size o1 M _ ((HF.out.bk KW.out).keep (w' := w2.drew) (fun _ _ => rfl)) (bk_size (bk_tr HB.out (bk_drew KW.out))) (by rw [HMLL.out]; exact HML2.out) (by omega) (by rw [HMLL.out]; omega) xa xb xy hok.1 hok.2.1 hok.2.2)
        have HRP2 := Lib.hid (show RPv wr _ M _ v' w2.drew from ⟨bk_drew KW.out, HRP.out.2.imp id (fun h => own_at (B := wr.heap.size) h (fun _ _ => rfl))⟩)
        rw [FE.out] at C16
        obtain ⟨pv', lv', cv', ev'⟩ : ∃ p n c, v' = .slice p n c := by
          rcases HRP.out.2 with ⟨h, _⟩ | h
          · exact ⟨_, _, _, h⟩
          · obtain ⟨p, c, e⟩ := own_shape h; exact ⟨_, _, _, e⟩
        have LM := Lib.hid (linkM_len M xa xb xy)
        subst ev'
        go_wp2_with fail
        go_still_tail 16, (by kernel_rfl)
        change wpList _ _ _ _ _ w2.drew
        generalize w2.drew = wd at C16 HRP2 ⊢
        clear n1 n2 n3
        go_wp2_with fail
        refine C16.out.mono ?_
        intro e w3 s
        have PGN := Lib.hid (NXT.out _ _ _ _ _ _ HRP2.out s)
        obtain ⟨rfl, _⟩ := s
        rw [← PN2.out] at PGN
        generalize linkB M xa xb = t at *
        obtain ⟨⟨o2, B2, hf2, hF2, ho2, hap2⟩, hb2⟩ := PGN.out
        have C17 := Lib.hid (len17 w3 _ o2 _ _ hF2.fb)
        have HLEN2 := Lib.hid (show (playM [] (ac.take (k + 1))).length ≤ 61 from by have := playM_len (ac.take (k + 1)) []; simp at this; omega)
        have C19 := Lib.hid (links19 w3 _ o2 _ _ hF2.fb (by have := HLEN2.out; omega))
        rw [hf2] at C17 C19
        obtain ⟨pv, cv, e2⟩ := own_shape ho2
        cases e2
        have RL3 := Lib.hid (RL.own ho2)
        clear hf2 hF2 ho2 hap2 hb2
        generalize hM2e : playM [] (ac.take (k + 1)) = M2 at *
        have HM2 := Lib.hid hM2e
        clear hM2e
        generalize hl2 : M2.length = l2 at *
        have HL2 := Lib.hid hl2
        clear hl2
        go_wp2_with fail
        refine C17.out.mono ?_
        rintro e w' ⟨rfl, rfl⟩
        go_wp2_with fail
        refine C19.out.mono ?_
        rintro e w4 ⟨v4, rfl, ho4, hb4⟩
        have K4 := Lib.hid hb4
        obtain ⟨p4, c4, e4, r4⟩ : ∃ p c, v4 = .slice p M2.length c ∧ RL w4 p c M2 := by
          obtain ⟨p, c, e⟩ := own_shape ho4
          exact ⟨p, c, e, RL.own (n := M2.length) (B := w3.heap.size) (e := 44) (by rw [← e]; exact ho4)⟩
        subst e4
        have E18 := Lib.hid (equal18 w4 M2 p4 pv' c4 cv' r4 (RL3.out.keep hb4) (by rw [HL2.out]; have := HLEN2.out; omega))
        rw [HL2.out] at E18
        rw [HL2.out]
        clear ho4 hb4 r4
        go_wp2_with fail
        refine E18.out.mono ?_
        rintro e w5 ⟨rfl, hb5⟩
        have PG5 := Lib.hid (PGN.out.keep (bk_tr K4.out hb5))
        clear hb5
        go_wp2_with fail
        go_roundw
        case rel => exact ⟨k + 1, by go_num, by omega, by rw [HM2.out]; exact PG5.out⟩
        case measure => simp [intOf]; omega
end Go.Proofs.Ytpnjmkmobdaefaa
