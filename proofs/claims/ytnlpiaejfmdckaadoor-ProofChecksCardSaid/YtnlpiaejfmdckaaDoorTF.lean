/- The law of Check, Uses, Rules, Depth and Same. -/
import Derived.Test.YtnlpiaejfmdckaaDoorTE
import Derived.Test.YtnlpiaejfmdckaaDoorTB
import Derived.Test.YtnlpiaejfmdckaaDoorSZ
import Derived.Test.YtnlpiaejfmdckaaDoorSI
import Derived.Test.YtnlpiaejfmdckaaDoorSJ
import Derived.Test.YtnlpiaejfmdckaaDoorNA
namespace Go.Proofs.YtnlpiaejfmdckaaDoor
open Go.RowKit
set_option linter.unusedVariables false
set_option linter.unusedSimpArgs false
set_option maxRecDepth 100000 in
set_option maxHeartbeats 8000000 in
theorem checks_law (ss tt : List S) (hb1 : ∀ s ∈ ss, lbS s) (hb2 : ∀ s ∈ tt, lbS s) (w : World) (ht : Tb w) (p q : Option Addr) (c d : Nat) (hp : RowS (mem 0 w) w p c ss) (hq : RowS (mem 0 w) w q d tt) : Calls Tryd.prog 4 #[.slice p ss.length c, .slice q tt.length d] w fun e w' => e = .returned (.bool true) ∧ BK w w' := by
  have L1 := Lib.hid (fun wc (hb : BK w wc) => light13 ss hb1 wc p c (hp.bk hb (Nat.le_refl _)))
  have L2 := Lib.hid (fun wc (hb : BK w wc) => light13 tt hb2 wc q d (hq.bk hb (Nat.le_refl _)))
  have LV := Lib.hid (fun wc (hb : BK w wc) => lives12 wc (ht.bk hb))
  have HB := Lib.hid (And.intro hb1 hb2)
  have HP := Lib.hid (fun wc (hb : BK w wc) => hp.bk hb (Nat.le_refl 0))
  have HQ := Lib.hid (fun wc (hb : BK w wc) => hq.bk hb (Nat.le_refl 0))
  have HT := Lib.hid (fun wc (hb : BK w wc) => ht.bk hb)
  clear hp hq ht hb1 hb2
  go_enter Tryd.func4, Tryd.ntmps4
  go_wp2_with fail
  refine (L1.out _ (BK.refl _)).mono ?_
  rintro e w1 ⟨⟨b1, rfl, ok1⟩, hb⟩
  have K1 := Lib.hid hb
  have A1 := Lib.hid ok1
  clear hb ok1
  cases b1 with
  | false =>
    go_wp2_with fail
    refine (LV.out _ K1.out).mono ?_
    rintro e w2 ⟨rfl, hb⟩
    have K2 := Lib.hid (bk_tr K1.out hb)
    clear hb
    go_wp2_with fail
    go_ret
    exact ⟨rfl, K2.out⟩
  | true =>
    go_wp2_with fail
    refine (L2.out _ K1.out).mono ?_
    rintro e w2 ⟨⟨b2, rfl, ok2⟩, hb⟩
    have K2 := Lib.hid (bk_tr K1.out hb)
    have A2 := Lib.hid ok2
    clear hb ok2
    cases b2 with
    | false =>
      go_wp2_with fail
      refine (LV.out _ K2.out).mono ?_
      rintro e w3 ⟨rfl, hb⟩
      have K3 := Lib.hid (bk_tr K2.out hb)
      clear hb
      go_wp2_with fail
      go_ret
      exact ⟨rfl, K3.out⟩
    | true =>
      obtain ⟨n1, q1⟩ := A1.out (by trivial)
      obtain ⟨n2, q2⟩ := A2.out (by trivial)
      have okS1 : ∀ s ∈ ss, okS s := fun s hs => okQ_S (q1 s hs)
      have okR1 : ∀ s ∈ ss, s.rf.length ≤ 100000 := fun s hs => (q1 s hs).1
      have C14 := Lib.hid (fun wc (hb : BK w wc) => check14 ss okS1 wc p c (HT.out wc hb) (HP.out wc hb))
      have C15 := Lib.hid (fun wc (hb : BK w wc) => check15 ss (by omega) okR1 wc p c (HP.out wc hb))
      have U16 := Lib.hid (fun wc (hb : BK w wc) => uses16 ss (by omega) wc p c (HP.out wc hb))
      have U17 := Lib.hid (fun wc (hb : BK w wc) => uses17 ss (by omega) wc p c (HP.out wc hb))
      have R19 := Lib.hid (fun wc (hb : BK w wc) => rules19 ss (by omega) wc p c (HP.out wc hb))
      have R20 := Lib.hid (fun wc (hb : BK w wc) => rules20 ss (by omega) wc p c (HP.out wc hb))
      have D21 := Lib.hid (fun wc (hb : BK w wc) => depth21 ss okS1 wc p c (HT.out wc hb) (HP.out wc hb))
      have D22 := Lib.hid (fun wc (hb : BK w wc) => rdepth22 ss (by omega) okR1 wc p c (HP.out wc hb))
      have S23 := Lib.hid (fun wc (hb : BK w wc) => same23 ss tt (by omega) q1 wc p q c d (HP.out wc hb) (HQ.out wc hb))
      have S24 := Lib.hid (fun wc (hb : BK w wc) => same24g ss tt (by omega) q1 wc p q c d (HP.out wc hb) (HQ.out wc hb))
      have RLE := Lib.hid (show (Ids.ofL (rlL ss)).length ≤ 9223372036854775807 from by have h1 := Ids.ofL_len (rlL ss); have h2 := rlL_len ss; omega)
      unfold RLP at R19 R20
      clear n1 q1 n2 q2 okS1 okR1 A1 A2 L1 L2 HB
      generalize (chk ss).1 = i1 at *
      generalize (chk ss).2 = e1 at *
      generalize usN ss = us at *
      generalize Ids.ofL (rlL ss) = rl at *
      generalize dpt ss = ds at *
      generalize samL ss tt = sm at *
      go_wp2_with fail
      refine (C14.out _ K2.out).mono ?_
      rintro e w3 ⟨rfl, hb⟩
      have K3 := Lib.hid (bk_tr K2.out hb)
      clear hb C14
      go_wp2_with fail
      refine (C15.out _ K3.out).mono ?_
      rintro e w4 ⟨rfl, hb⟩
      have K4 := Lib.hid (bk_tr K3.out hb)
      clear hb C15
      go_wp2_with fail
      refine (U16.out _ K4.out).mono ?_
      rintro e w5 ⟨rfl, hb⟩
      have K5 := Lib.hid (bk_tr K4.out hb)
      clear hb U16
      go_wp2_with fail
      refine (U17.out _ K5.out).mono ?_
      rintro e w6 ⟨rfl, hb⟩
      have K6 := Lib.hid (bk_tr K5.out hb)
      clear hb U17
      go_wp2_with fail
      refine (R19.out _ K6.out).mono ?_
      rintro e w7 ⟨⟨s7, e7, rfl, hr⟩, hb⟩
      have K7 := Lib.hid (bk_tr K6.out hb)
      have R7 := Lib.hid hr
      clear hb hr R19
      go_wp2_with fail
      refine (R20.out _ K7.out).mono ?_
      rintro e w8 ⟨⟨s8, e8, rfl, hr⟩, hb⟩
      have K8 := Lib.hid (bk_tr K7.out hb)
      have R8 := Lib.hid hr
      have R7' := Lib.hid (R7.out.bk hb (Nat.le_refl _))
      clear hb hr R20 R7
      go_wp2_with fail
      refine (same18 rl rl RLE.out _ s7 s8 e7 e8 R7'.out R8.out).mono ?_
      rintro e w9 ⟨rfl, hb⟩
      rw [eqI_self]
      have K9 := Lib.hid (bk_tr K8.out hb)
      clear hb R7' R8
      go_wp2_with fail
      refine (D21.out _ K9.out).mono ?_
      rintro e w10 ⟨rfl, hb⟩
      have K10 := Lib.hid (bk_tr K9.out hb)
      clear hb D21
      go_wp2_with fail
      refine (D22.out _ K10.out).mono ?_
      rintro e w11 ⟨rfl, hb⟩
      have K11 := Lib.hid (bk_tr K10.out hb)
      clear hb D22
      go_wp2_with fail
      refine (S23.out _ K11.out).mono ?_
      rintro e w12 ⟨rfl, hb⟩
      have K12 := Lib.hid (bk_tr K11.out hb)
      clear hb S23
      go_wp2_with fail
      refine (S24.out _ K12.out).mono ?_
      rintro e w13 ⟨rfl, hb⟩
      have K13 := Lib.hid (bk_tr K12.out hb)
      clear hb S24
      go_wp2_with fail
      refine (LV.out _ K13.out).mono ?_
      rintro e w14 ⟨rfl, hb⟩
      have K14 := Lib.hid (bk_tr K13.out hb)
      clear hb
      go_wp2_with fail
      go_ret
      exact ⟨ret_bool (by simp), K14.out⟩
end Go.Proofs.YtnlpiaejfmdckaaDoor
