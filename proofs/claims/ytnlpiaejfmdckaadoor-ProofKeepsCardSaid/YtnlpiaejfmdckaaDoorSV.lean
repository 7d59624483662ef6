/- The law of Needed, Trim and Join. -/
import Derived.Test.YtnlpiaejfmdckaaDoorSU
import Derived.Test.YtnlpiaejfmdckaaDoorSF
import Derived.Test.YtnlpiaejfmdckaaDoorNA
import Derived.Test.YtnlpiaejfmdckaaDoorSQ
namespace Go.Proofs.YtnlpiaejfmdckaaDoor
open Go.RowKit
set_option linter.unusedVariables false
set_option linter.unusedSimpArgs false
set_option maxRecDepth 100000 in
set_option maxHeartbeats 8000000 in
theorem trims_law (ss tt : List S) (hb1 : ∀ s ∈ ss, lbS s) (hb2 : ∀ s ∈ tt, lbS s) (w : World) (ht : Tb w) (p q : Option Addr) (c d : Nat) (hp : RowS (mem 0 w) w p c ss) (hq : RowS (mem 0 w) w q d tt) : Calls Tryd.prog 6 #[.slice p ss.length c, .slice q tt.length d] w fun e w' => e = .returned (.bool true) ∧ BK w w' := by
  have L1 := Lib.hid (fun wc (hb : BK w wc) => light13 ss hb1 wc p c (hp.bk hb (Nat.le_refl _)))
  have L2 := Lib.hid (fun wc (hb : BK w wc) => light13 tt hb2 wc q d (hq.bk hb (Nat.le_refl _)))
  have LV := Lib.hid (fun wc (hb : BK w wc) => lives12 wc (ht.bk hb))
  have HB := Lib.hid (And.intro hb1 hb2)
  have HP := Lib.hid (fun wc (hb : BK w wc) => hp.bk hb (Nat.le_refl 0))
  have HQ := Lib.hid (fun wc (hb : BK w wc) => hq.bk hb (Nat.le_refl 0))
  have HT := Lib.hid (fun wc (hb : BK w wc) => ht.bk hb)
  clear hp hq ht hb1 hb2
  go_enter Tryd.func6, Tryd.ntmps6
  go_wp2_with fail
  refine (L1.out _ (BK.refl _)).mono ?_
  rintro e w1 ⟨⟨b1, rfl, ok1⟩, hb⟩
  have K1 := Lib.hid hb
  have A1 := Lib.hid ok1
  clear hb ok1
  cases b1 with
  | false =>
    go_wp2_with fail
    refine (LV.out _ K1.out).mono ?_
    rintro e w2 ⟨rfl, hb⟩
    have K2 := Lib.hid (bk_tr K1.out hb)
    clear hb
    go_wp2_with fail
    go_ret
    exact ⟨rfl, K2.out⟩
  | true =>
    go_wp2_with fail
    refine (L2.out _ K1.out).mono ?_
    rintro e w2 ⟨⟨b2, rfl, ok2⟩, hb⟩
    have K2 := Lib.hid (bk_tr K1.out hb)
    have A2 := Lib.hid ok2
    clear hb ok2
    cases b2 with
    | false =>
      go_wp2_with fail
      refine (LV.out _ K2.out).mono ?_
      rintro e w3 ⟨rfl, hb⟩
      have K3 := Lib.hid (bk_tr K2.out hb)
      clear hb
      go_wp2_with fail
      go_ret
      exact ⟨rfl, K3.out⟩
    | true =>
      obtain ⟨n1, q1⟩ := A1.out (by trivial)
      obtain ⟨n2, q2⟩ := A2.out (by trivial)
      have okS1 : ∀ s ∈ ss, okS s := fun s hs => okQ_S (q1 s hs)
      have okI1 : ∀ s ∈ ss, okQ s ∧ ∀ r ∈ s.rf, inR r 0 := fun s hs => ⟨q1 s hs, (HB.out.1 s hs).1.2⟩
      have okR1 : ∀ s ∈ ss, s.rf.length ≤ 100000 := fun s hs => (q1 s hs).1
      have okR2 : ∀ s ∈ tt, s.rf.length ≤ 100000 := fun s hs => (q2 s hs).1
      have N25 := Lib.hid (fun wc (hb : BK w wc) => needed25 ss okS1 wc p c (HT.out wc hb) (HP.out wc hb))
      have N26 := Lib.hid (fun wc (hb : BK w wc) => rneeded26 ss (by omega) okR1 wc p c (HP.out wc hb))
      have T27 := Lib.hid (fun wc (hb : BK w wc) => trim27 ss (by omega) okI1 wc p c (HT.out wc hb) (HP.out wc hb))
      have T28 := Lib.hid (fun wc (hb : BK w wc) => rtrim28 ss (by omega) okR1 wc p c (HP.out wc hb))
      have J29 := Lib.hid (fun wc (hb : BK w wc) => join29 ss tt (by omega) (by omega) okI1 q2 wc p q c d (HP.out wc hb) (HQ.out wc hb))
      have J30 := Lib.hid (fun wc (hb : BK w wc) => rjoin30 ss tt (by omega) (by omega) okR2 wc p q c d (HP.out wc hb) (HQ.out wc hb))
      have NL := Lib.hid (show (ndd ss).length ≤ 100000 from by have := ndd_len ss; omega)
      have ML := Lib.hid (show (trm ss).length ≤ 100000 from by have := trm_len ss; omega)
      have MO := Lib.hid (trm_ok ss q1)
      have JL := Lib.hid (show (ss ++ tt.map (shW (ss.length : Int))).length ≤ 100000 from by rw [List.length_append, List.length_map]; omega)
      have JO := Lib.hid (show ∀ s ∈ ss ++ tt.map (shW (ss.length : Int)), okQ s from fun s hs => by
        rcases List.mem_append.1 hs with h | h
        · exact q1 s h
        · obtain ⟨s', h1, rfl⟩ := List.mem_map.1 h
          exact okQ_map (q2 s' h1))
      unfold SL at T27 J29
      clear n1 q1 n2 q2 okS1 okI1 okR1 okR2 A1 A2 L1 L2 HB
      generalize ndd ss = nd at *
      generalize trm ss = tm at *
      generalize ss ++ tt.map (shW (ss.length : Int)) = jn at *
      go_wp2_with fail
      refine (N25.out _ K2.out).mono ?_
      rintro e w3 ⟨⟨s3, e3, rfl, hr⟩, hb⟩
      have K3 := Lib.hid (bk_tr K2.out hb)
      have R3 := Lib.hid (hr.bk (BK.refl _) (Nat.zero_le _))
      clear hr hb N25
      go_wp2_with fail
      refine (N26.out _ K3.out).mono ?_
      rintro e w4 ⟨⟨s4, e4, rfl, hr⟩, hb⟩
      have K4 := Lib.hid (bk_tr K3.out hb)
      have R4 := Lib.hid (hr.bk (BK.refl _) (Nat.zero_le _))
      have R3' := Lib.hid (R3.out.bk hb (Nat.le_refl _))
      clear hr hb N26 R3
      go_wp2_with fail
      refine (same18 nd nd (by have := NL.out; omega) _ s3 s4 e3 e4 R3'.out R4.out).mono ?_
      rintro e w5 ⟨rfl, hb⟩
      rw [eqI_self]
      have K5 := Lib.hid (bk_tr K4.out hb)
      clear hb R3' R4
      go_wp2_with fail
      refine (T27.out _ K5.out).mono ?_
      rintro e w6 ⟨⟨s6, e6, rfl, hr⟩, hb⟩
      have K6 := Lib.hid (bk_tr K5.out hb)
      have R6 := Lib.hid (hr.bk (BK.refl _) (Nat.zero_le _))
      clear hr hb T27
      go_wp2_with fail
      refine (T28.out _ K6.out).mono ?_
      rintro e w7 ⟨⟨s7, e7, rfl, hr⟩, hb⟩
      have K7 := Lib.hid (bk_tr K6.out hb)
      have R7 := Lib.hid hr
      have R6' := Lib.hid (R6.out.bk hb (Nat.le_refl _))
      clear hr hb T28 R6
      go_wp2_with fail
      refine (same24 tm ML.out MO.out _ s6 s7 e6 e7 R6'.out R7.out).mono ?_
      rintro e w8 ⟨rfl, hb⟩
      have K8 := Lib.hid (bk_tr K7.out hb)
      clear hb R6' R7
      go_wp2_with fail
      refine (J29.out _ K8.out).mono ?_
      rintro e w9 ⟨⟨s9, e9, rfl, hr⟩, hb⟩
      have K9 := Lib.hid (bk_tr K8.out hb)
      have R9 := Lib.hid (hr.bk (BK.refl _) (Nat.zero_le _))
      clear hr hb J29
      go_wp2_with fail
      refine (J30.out _ K9.out).mono ?_
      rintro e w10 ⟨⟨s10, e10, rfl, hr⟩, hb⟩
      have K10 := Lib.hid (bk_tr K9.out hb)
      have R10 := Lib.hid hr
      have R9' := Lib.hid (R9.out.bk hb (Nat.le_refl _))
      clear hr hb J30 R9
      go_wp2_with fail
      refine (same24 jn JL.out JO.out _ s9 s10 e9 e10 R9'.out R10.out).mono ?_
      rintro e w11 ⟨rfl, hb⟩
      have K11 := Lib.hid (bk_tr K10.out hb)
      clear hb R9' R10
      go_wp2_with fail
      refine (LV.out _ K11.out).mono ?_
      rintro e w12 ⟨rfl, hb⟩
      have K12 := Lib.hid (bk_tr K11.out hb)
      clear hb
      go_wp2_with fail
      go_ret
      exact ⟨rfl, K12.out⟩
end Go.Proofs.YtnlpiaejfmdckaaDoor
