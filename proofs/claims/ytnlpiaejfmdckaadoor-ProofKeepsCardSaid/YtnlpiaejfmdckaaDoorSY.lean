/- The law of what Trim and Join keep. -/
import Derived.Test.YtnlpiaejfmdckaaDoorSX
import Derived.Test.YtnlpiaejfmdckaaDoorSV
namespace Go.Proofs.YtnlpiaejfmdckaaDoor
open Go.RowKit
set_option linter.unusedVariables false
set_option linter.unusedSimpArgs false
theorem vld_chk {ss : List S} (h : vld ss = true) : (chk ss).2 = 0 := by
  unfold vld at h
  split at h
  · assumption
  · cases h
theorem vld_in {ss : List S} (h : vld ss = true) : ∀ s ∈ ss, ∀ r ∈ s.rf, inR r 0 := fun s hs r hr => by
  obtain ⟨k, hk, rfl⟩ := List.mem_iff_getElem.1 hs
  have h1 := vld_ok h
  have := well_mem (h1.2.2 k hk) r hr
  unfold inR
  omega
set_option maxRecDepth 100000 in
set_option maxHeartbeats 8000000 in
theorem keeps_law (ss tt : List S) (hb1 : ∀ s ∈ ss, lbS s) (hb2 : ∀ s ∈ tt, lbS s) (w : World) (ht : Tb w) (p q : Option Addr) (c d : Nat) (hp : RowS (mem 0 w) w p c ss) (hq : RowS (mem 0 w) w q d tt) : Calls Tryd.prog 7 #[.slice p ss.length c, .slice q tt.length d] w fun e w' => e = .returned (.bool true) ∧ BK w w' := by
  have L1 := Lib.hid (fun wc (hb : BK w wc) => light13 ss hb1 wc p c (hp.bk hb (Nat.le_refl _)))
  have L2 := Lib.hid (fun wc (hb : BK w wc) => light13 tt hb2 wc q d (hq.bk hb (Nat.le_refl _)))
  have LV := Lib.hid (fun wc (hb : BK w wc) => lives12 wc (ht.bk hb))
  have HB := Lib.hid (And.intro hb1 hb2)
  have HP := Lib.hid (fun wc (hb : BK w wc) => hp.bk hb (Nat.le_refl 0))
  have HQ := Lib.hid (fun wc (hb : BK w wc) => hq.bk hb (Nat.le_refl 0))
  have HT := Lib.hid (fun wc (hb : BK w wc) => ht.bk hb)
  clear hp hq ht hb1 hb2
  go_enter Tryd.func7, Tryd.ntmps7
  go_wp2_with fail
  refine (L1.out _ (BK.refl _)).mono ?_
  rintro e w1 ⟨⟨b1, rfl, ok1⟩, hb⟩
  have K1 := Lib.hid hb
  have A1 := Lib.hid ok1
  clear hb ok1
  cases b1 with
  | false =>
    go_wp2_with fail
    refine (LV.out _ K1.out).mono ?_
    rintro e w2 ⟨rfl, hb⟩
    have K2 := Lib.hid (bk_tr K1.out hb)
    clear hb
    go_wp2_with fail
    go_ret
    exact ⟨rfl, K2.out⟩
  | true =>
    go_wp2_with fail
    refine (L2.out _ K1.out).mono ?_
    rintro e w2 ⟨⟨b2, rfl, ok2⟩, hb⟩
    have K2 := Lib.hid (bk_tr K1.out hb)
    have A2 := Lib.hid ok2
    clear hb ok2
    cases b2 with
    | false =>
      go_wp2_with fail
      refine (LV.out _ K2.out).mono ?_
      rintro e w3 ⟨rfl, hb⟩
      have K3 := Lib.hid (bk_tr K2.out hb)
      clear hb
      go_wp2_with fail
      go_ret
      exact ⟨rfl, K3.out⟩
    | true =>
      obtain ⟨n1, q1⟩ := A1.out (by trivial)
      obtain ⟨n2, q2⟩ := A2.out (by trivial)
      have okS1 : ∀ s ∈ ss, okS s := fun s hs => okQ_S (q1 s hs)
      have okS2 : ∀ s ∈ tt, okS s := fun s hs => okQ_S (q2 s hs)
      have okI1 : ∀ s ∈ ss, okQ s ∧ ∀ r ∈ s.rf, inR r 0 := fun s hs => ⟨q1 s hs, (HB.out.1 s hs).1.2⟩
      have okI2 : ∀ s ∈ tt, okQ s ∧ ∀ r ∈ s.rf, inR r 0 := fun s hs => ⟨q2 s hs, (HB.out.2 s hs).1.2⟩
      have CK1 := Lib.hid (fun wc (hb : BK w wc) => check15 ss (by omega) (fun s hs => (q1 s hs).1) wc p c (HP.out wc hb))
      have CK2 := Lib.hid (fun wc (hb : BK w wc) => check15 tt (by omega) (fun s hs => (q2 s hs).1) wc q d (HQ.out wc hb))
      have VL1 := Lib.hid (show vld ss = if (chk ss).2 = 0 then true else false from rfl)
      have VL2 := Lib.hid (show vld tt = if (chk tt).2 = 0 then true else false from rfl)
      have NN := Lib.hid (And.intro n1 n2)
      have QQ := Lib.hid (And.intro q1 q2)
      have OS := Lib.hid (And.intro okS1 okS2)
      have OI := Lib.hid (And.intro okI1 okI2)
      clear n1 n2 q1 q2 okS1 okS2 okI1 okI2 A1 A2 L1 L2 HB
      generalize (chk ss).1 = i1 at *
      generalize (chk ss).2 = e1 at *
      generalize (chk tt).1 = i2 at *
      generalize (chk tt).2 = e2 at *
      go_wp2_with fail
      refine (CK1.out _ K2.out).mono ?_
      rintro e w3 ⟨rfl, hb⟩
      have K3 := Lib.hid (bk_tr K2.out hb)
      clear hb CK1
      go_wp2_with fail
      refine (CK2.out _ K3.out).mono ?_
      rintro e w4 ⟨rfl, hb⟩
      have K4 := Lib.hid (bk_tr K3.out hb)
      clear hb CK2
      by_cases he1 : e1 = 0
      · by_cases he2 : e2 = 0
        · subst he1
          subst he2
          have v1 : vld ss = true := by rw [VL1.out]; rfl
          have v2 : vld tt = true := by rw [VL2.out]; rfl
          have tv := t_vld v1
          have jv := j_vld v1 v2 NN.out.1 NN.out.2
          have T27 := Lib.hid (fun wc (hb : BK w wc) => trim27 ss (by have := NN.out; omega) OI.out.1 wc p c (HT.out wc hb) (HP.out wc hb))
          have U27 := Lib.hid (fun wc (hb : BK w wc) => trim27 tt (by have := NN.out; omega) OI.out.2 wc q d (HT.out wc hb) (HQ.out wc hb))
          have J29 := Lib.hid (fun wc (hb : BK w wc) => show Calls Tryd.prog 29 #[.slice p ss.length c, .slice q tt.length d] wc (SL wc (jn ss tt)) from join29 ss tt (by have := NN.out; omega) (by have := NN.out; omega) OI.out.1 QQ.out.2 wc p q c d (HP.out wc hb) (HQ.out wc hb))
          have D21 := Lib.hid (fun wc (hb : BK w wc) => depth21 ss OS.out.1 wc p c (HT.out wc hb) (HP.out wc hb))
          have E21 := Lib.hid (fun wc (hb : BK w wc) => depth21 tt OS.out.2 wc q d (HT.out wc hb) (HQ.out wc hb))
          have tok := trm_ok ss QQ.out.1
          have jok : ∀ s ∈ jn ss tt, okQ s := fun s hs => by
            rcases List.mem_append.1 hs with h | h
            · exact QQ.out.1 s h
            · obtain ⟨s', h1, rfl⟩ := List.mem_map.1 h
              exact okQ_map (QQ.out.2 s' h1)
          have uok := trm_ok tt QQ.out.2
          have TI := Lib.hid (fun s hs => And.intro (tok s hs) (vld_in tv s hs))
          have JI := Lib.hid (fun s hs => And.intro (jok s hs) (vld_in jv s hs))
          have TS := Lib.hid (fun s hs => okQ_S (tok s hs))
          have JS := Lib.hid (fun s hs => okQ_S (jok s hs))
          have TO := Lib.hid tok
          have UO := Lib.hid uok
          have TLE := Lib.hid (trm_len ss)
          have ULE := Lib.hid (trm_len tt)
          have JLN := Lib.hid (j_len (ss := ss) (tt := tt))
          have TC := Lib.hid (vld_chk tv)
          have JC := Lib.hid (vld_chk jv)
          have TID := Lib.hid (t_idem v1)
          have TNL := Lib.hid (t_len v1)
          have TDP := Lib.hid (t_dpt v1)
          have JDP := Lib.hid (j_dpt v1 v2 NN.out.1 NN.out.2)
          have JTR := Lib.hid (j_trm v1 v2 NN.out.1 NN.out.2)
          clear v1 v2 tv jv tok jok uok VL1 VL2 OI OS QQ
          generalize trm tt = um at *
          generalize htm : trm ss = tm at *
          generalize hjm : jn ss tt = jm at *
          clear htm hjm
          generalize dpt ss = ds at *
          generalize dpt tt = dt at *
          unfold SL at T27 U27 J29
          go_wp2_with fail
          refine (T27.out _ K4.out).mono ?_
          rintro e w5 ⟨⟨st, et, rfl, hr⟩, hb⟩
          have K5 := Lib.hid (bk_tr K4.out hb)
          have RT5 := Lib.hid (hr.bk (BK.refl _) (Nat.zero_le _))
          clear hr hb T27
          go_wp2_with fail
          refine (J29.out _ K5.out).mono ?_
          rintro e w6 ⟨⟨sj, ej, rfl, hr⟩, hb⟩
          have K6 := Lib.hid (bk_tr K5.out hb)
          have RJ := Lib.hid (fun wc (hc : BK w6 wc) => (hr.bk (lo' := 0) (BK.refl _) (Nat.zero_le _)).bk hc (Nat.le_refl 0))
          have RT := Lib.hid (fun wc (hc : BK w6 wc) => RT5.out.bk (bk_tr hb hc) (Nat.le_refl 0))
          clear hr hb J29 RT5
          have TL := Lib.hid (show tm.length ≤ 100000 from by have := TLE.out; have := NN.out; omega)
          have UL := Lib.hid (show um.length ≤ 100000 from by have := ULE.out; have := NN.out; omega)
          have JL := Lib.hid (show jm.length ≤ 100000 from by have := JLN.out; have := NN.out; omega)
          have CT := Lib.hid (fun wc (hc : BK w6 wc) => check14 tm TS.out wc st et (HT.out wc (bk_tr K6.out hc)) (RT.out wc hc))
          have CJ := Lib.hid (fun wc (hc : BK w6 wc) => check14 jm JS.out wc sj ej (HT.out wc (bk_tr K6.out hc)) (RJ.out wc hc))
          have TT := Lib.hid (fun wc (hc : BK w6 wc) => trim27 tm TL.out TI.out wc st et (HT.out wc (bk_tr K6.out hc)) (RT.out wc hc))
          have TJ := Lib.hid (fun wc (hc : BK w6 wc) => trim27 jm JL.out JI.out wc sj ej (HT.out wc (bk_tr K6.out hc)) (RJ.out wc hc))
          have NT := Lib.hid (fun wc (hc : BK w6 wc) => needed25 tm TS.out wc st et (HT.out wc (bk_tr K6.out hc)) (RT.out wc hc))
          have DT := Lib.hid (fun wc (hc : BK w6 wc) => depth21 tm TS.out wc st et (HT.out wc (bk_tr K6.out hc)) (RT.out wc hc))
          have DJ := Lib.hid (fun wc (hc : BK w6 wc) => depth21 jm JS.out wc sj ej (HT.out wc (bk_tr K6.out hc)) (RJ.out wc hc))
          rw [TC.out] at CT
          rw [JC.out] at CJ
          rw [TID.out] at TT
          rw [JTR.out] at TJ
          rw [TDP.out] at DT
          rw [JDP.out] at DJ
          unfold SL at TT TJ
          have tle : ¬ (ss.length : Int) < (tm.length : Int) := by have := TLE.out; omega
          have js1 : IntKind.i64.wrap ((ss.length : Int) + (tt.length : Int)) = (jm.length : Int) := by have := JLN.out; have := NN.out; rw [IntWalk.i64_in _ (by omega)]; omega
          have js2 : wrap64 ((ss.length : Int) + (tt.length : Int)) = (jm.length : Int) := by have := JLN.out; have := NN.out; unfold wrap64; omega
          have TNL2 := Lib.hid (show (ndd tm).length = tm.length from TNL.out)
          clear TC JC TID JTR TDP JDP TNL
          generalize (chk tm).1 = it at *
          generalize (chk jm).1 = ij at *
          generalize ndd tm = nt at *
          go_wp2_with fail
          refine (CT.out _ (BK.refl _)).mono ?_
          rintro e w7 ⟨rfl, hb⟩
          have K7 := Lib.hid hb
          clear hb CT
          go_wp2_with fail
          refine (CJ.out _ K7.out).mono ?_
          rintro e w8 ⟨rfl, hb⟩
          have K8 := Lib.hid (bk_tr K7.out hb)
          clear hb CJ
          go_wp2_with fail
          refine (TT.out _ K8.out).mono ?_
          rintro e w9 ⟨⟨s9, e9, rfl, hr⟩, hb⟩
          have K9 := Lib.hid (bk_tr K8.out hb)
          have R9 := Lib.hid (hr.bk (BK.refl _) (Nat.zero_le _))
          clear hr hb TT
          go_wp2_with fail
          refine (same24 tm TL.out TO.out _ s9 st e9 et R9.out (RT.out _ K9.out)).mono ?_
          rintro e w10 ⟨rfl, hb⟩
          have K10 := Lib.hid (bk_tr K9.out hb)
          clear hb R9
          go_wp2_with fail
          refine (NT.out _ K10.out).mono ?_
          rintro e w11 ⟨⟨s11, e11, rfl, -⟩, hb⟩
          have K11 := Lib.hid (bk_tr K10.out hb)
          clear hb NT
          rw [TNL2.out]
          go_wp2_with fail
          refine (DT.out _ K11.out).mono ?_
          rintro e w12 ⟨rfl, hb⟩
          have K12 := Lib.hid (bk_tr K11.out hb)
          clear hb DT
          go_wp2_with fail
          refine (D21.out _ (bk_tr K6.out K12.out)).mono ?_
          rintro e w13 ⟨rfl, hb⟩
          have K13 := Lib.hid (bk_tr K12.out hb)
          clear hb D21
          go_wp2_with fail
          refine (DJ.out _ K13.out).mono ?_
          rintro e w14 ⟨rfl, hb⟩
          have K14 := Lib.hid (bk_tr K13.out hb)
          clear hb DJ
          go_wp2_with fail
          refine (E21.out _ (bk_tr K6.out K14.out)).mono ?_
          rintro e w15 ⟨rfl, hb⟩
          have K15 := Lib.hid (bk_tr K14.out hb)
          clear hb E21
          go_wp2_with fail
          refine (TJ.out _ K15.out).mono ?_
          rintro e w16 ⟨⟨s16, e16, rfl, hr⟩, hb⟩
          have K16 := Lib.hid (bk_tr K15.out hb)
          have R16 := Lib.hid (hr.bk (BK.refl _) (Nat.zero_le _))
          clear hr hb TJ
          go_wp2_with fail
          refine (U27.out _ (bk_tr K6.out K16.out)).mono ?_
          rintro e w17 ⟨⟨s17, e17, rfl, hr⟩, hb⟩
          have K17 := Lib.hid (bk_tr K16.out hb)
          have R17 := Lib.hid (hr.bk (BK.refl _) (Nat.zero_le _))
          have R16' := Lib.hid (R16.out.bk hb (Nat.le_refl _))
          clear hr hb U27 R16
          go_wp2_with fail
          refine (same24 um UL.out UO.out _ s16 s17 e16 e17 R16'.out R17.out).mono ?_
          rintro e w18 ⟨rfl, hb⟩
          have K18 := Lib.hid (bk_tr K17.out hb)
          clear hb R16' R17
          go_wp2_with fail
          refine (LV.out _ (bk_tr K6.out K18.out)).mono ?_
          rintro e w19 ⟨rfl, hb⟩
          have K19 := Lib.hid (bk_tr K18.out hb)
          clear hb
          go_wp2_with fail
          go_ret
          exact ⟨rfl, bk_tr K6.out K19.out⟩
        · have hne : ((e2 : Int) != 0) = true := by have := nn_cast (c := e2) (d := 0) he2; exact this
          have hne2 : ¬ (e2 : Int) = 0 := by omega
          go_wp2_with fail
          refine (LV.out _ K4.out).mono ?_
          rintro e wl2 ⟨rfl, hb⟩
          have KL2 := Lib.hid (bk_tr K4.out hb)
          clear hb
          go_wp2_with fail
          go_ret
          exact ⟨rfl, KL2.out⟩
      · have hne : ((e1 : Int) != 0) = true := by have := nn_cast (c := e1) (d := 0) he1; exact this
        have hne2 : ¬ (e1 : Int) = 0 := by omega
        go_wp2_with fail
        refine (LV.out _ K4.out).mono ?_
        rintro e wl1 ⟨rfl, hb⟩
        have KL1 := Lib.hid (bk_tr K4.out hb)
        clear hb
        go_wp2_with fail
        go_ret
        exact ⟨rfl, KL1.out⟩
end Go.Proofs.YtnlpiaejfmdckaaDoor
