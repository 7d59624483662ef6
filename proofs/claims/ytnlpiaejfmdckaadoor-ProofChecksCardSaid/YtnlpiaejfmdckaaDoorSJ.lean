/- The reference's Depth. -/
import Derived.Test.YtnlpiaejfmdckaaDoorSI
namespace Go.Proofs.YtnlpiaejfmdckaaDoor
open Go.RowKit
set_option linter.unusedVariables false
set_option linter.unusedSimpArgs false
set_option maxRecDepth 100000 in
set_option maxHeartbeats 8000000 in
theorem rdepth22 (ss : List S) (hl : ss.length ≤ 100000) (hok : ∀ s ∈ ss, s.rf.length ≤ 100000) (w : World) (p : Option Addr) (c : Nat) (hp : RowS (mem 0 w) w p c ss) : Calls Tryd.prog 22 #[.slice p ss.length c] w fun e w' => e = .returned (.int .i64 (dpt ss)) ∧ BK w w' := by
  have C15 := Lib.hid (check15 ss hl hok w p c hp)
  have VL := Lib.hid (show vld ss = if (chk ss).2 = 0 then true else false from rfl)
  have DP := Lib.hid (show dpt ss = if vld ss = true then (dps [] ss).getD (ss.length - 1) 0 else 0 from rfl)
  have VO := Lib.hid (fun h => vld_ok (ss := ss) h)
  have DL := Lib.hid (dps_len ss [])
  have HP := Lib.hid hp
  have OKH := Lib.hid hok
  clear hp hok hl
  generalize dpt ss = r at *
  generalize hv : vld ss = v at *
  clear hv
  generalize (chk ss).1 = at0 at *
  generalize (chk ss).2 = er at *
  by_cases he : er = 0
  · have VL2 := VL.out
    rw [if_pos he] at VL2
    subst VL2
    obtain ⟨v1, v2, v3⟩ := VO.out rfl
    have WL := Lib.hid v3
    have HN := Lib.hid (And.intro v1 v2)
    have DP2 := DP.out
    rw [if_pos rfl] at DP2
    have DPP := Lib.hid DP2
    subst he
    clear v3 DP2 DP VO v1 v2 VL
    generalize hf : dps [] ss = FULL at *
    have HF := Lib.hid hf
    clear hf
    go_enter Tryd.func22, Tryd.ntmps22
    go_wp2_with fail
    refine C15.out.mono ?_
    rintro e w2 ⟨rfl, hb2⟩
    have K2 := Lib.hid hb2
    clear hb2 C15
    go_wp2_with fail
    go_loopw [5, 6] (fun xv iv wr => ∃ (k : Nat) (acc : List Int), k ≤ ss.length ∧ iv = .int .i64 (k : Int) ∧ acc.length = k ∧ (∀ z ∈ acc, 0 ≤ z ∧ z ≤ (k : Int)) ∧ dps acc (ss.drop k) = FULL ∧ LI w2.heap.size wr xv acc ∧ BK w2 wr) (fun _ iv _ => ss.length - (intOf iv).toNat)
    case atStart => exact ⟨0, [], Nat.zero_le _, rfl, rfl, fun z hz => by simp at hz, HF.out, LI.nil _ _, BK.refl _⟩
    case round =>
      obtain ⟨k, acc, hk, rfl, hal, hbd, heq, hli, hb⟩ := hrel
      have AL := Lib.hid hal
      have BD := Lib.hid hbd
      have EQ := Lib.hid heq
      have LL := Lib.hid hli
      have KB := Lib.hid hb
      clear hal hbd heq hli hb
      obtain ⟨p4, c4, rfl⟩ := LL.out.shape
      by_cases e : k = ss.length
      · have hd : decide (k < ss.length) = false := by simp [e]
        have EQ2 := EQ.out
        rw [List.drop_of_length_le (by omega)] at EQ2
        have EQ3 : acc = FULL := EQ2
        subst EQ3
        have hlt : ss.length - 1 < acc.length := by have := AL.out; have := HN.out; omega
        obtain ⟨b4, o4, rfl, -, x0⟩ := LL.out.row.get hlt
        have hr : acc[ss.length - 1] = r := by
          rw [DPP.out, List.getD_eq_getElem?_getD, List.getElem?_eq_getElem hlt]; rfl
        rw [hr] at x0
        have hacc : acc.length = ss.length := by rw [AL.out, e]
        rw [hacc]
        have ek : IntKind.i64.wrap ((ss.length : Int) - 1) = ((ss.length - 1 : Nat) : Int) := by have := HN.out; rw [IntWalk.i64_in _ (by omega)]; omega
        have ek2 : (ss.length : Int) - 1 = ((ss.length - 1 : Nat) : Int) := by have := HN.out; omega
        have ek3 : wrap64 ((ss.length - 1 : Nat) : Int) = ((ss.length - 1 : Nat) : Int) := by have := HN.out; unfold wrap64; omega
        have hki : ((ss.length - 1 : Nat) : Int) < (ss.length : Int) := by have := HN.out; omega
        subst e
        clear hr hlt hacc
        go_wp2_with fail
        go_ret
        exact ⟨rfl, bk_tr K2.out KB.out⟩
      · have hlt : k < ss.length := by omega
        have hd : decide (k < ss.length) = true := by simpa using hlt
        obtain ⟨b, o, q, rfl, -, hc, hps⟩ := ((HP.out.bk K2.out (Nat.le_refl _)).bk KB.out (Nat.le_refl _)).get hlt
        have EQ2 := EQ.out
        rw [List.drop_eq_getElem_cons hlt, dps_cons] at EQ2
        have WM := Lib.hid (well_mem (WL.out k hlt))
        have RX := Lib.hid hps.rf
        obtain ⟨-, z1, -⟩ := hc.all
        have EQ3 := Lib.hid EQ2
        have ei : IntKind.i64.wrap ((k : Int) + 1) = (k : Int) + 1 := by have := HN.out; exact IntWalk.i64_in _ (by omega)
        have hki : (k : Int) < (ss.length : Int) := by omega
        have HLT := Lib.hid hlt
        have OKS := Lib.hid (show ss[k].rf.length ≤ 100000 from OKH.out _ (List.getElem_mem hlt))
        have LR := Lib.hid LL.out.row
        have hal2 : (acc.length : Int) = (k : Int) := by rw [AL.out]
        clear hps hc e EQ2
        generalize ss[k].rf = rf at *
        go_wp2_with fail
        obtain ⟨wa, hwa⟩ : ∃ x, x = wr := ⟨_, rfl⟩
        subst hwa
        generalize hD : dpR acc 0 rf = D at *
        have HD := Lib.hid hD
        have DB := Lib.hid (show 0 ≤ D ∧ D ≤ (k : Int) from by rw [← hD]; exact dpR_bd BD.out rf 0 (Int.le_refl _) (by omega))
        clear hD
        go_loopw [8, 7] (fun jv mv wr => ∃ (j : Nat) (m : Int), j ≤ rf.length ∧ jv = .int .i64 (j : Int) ∧ mv = .int .i64 m ∧ 0 ≤ m ∧ dpR acc m (rf.drop j) = D ∧ wa = wr) (fun jv _ _ => rf.length - (intOf jv).toNat)
        case atStart => exact ⟨0, 0, Nat.zero_le _, rfl, rfl, Int.le_refl _, HD.out, rfl⟩
        case round =>
          obtain ⟨j, m, hj, rfl, rfl, hm0, hdr, rfl⟩ := hrel
          have DR := Lib.hid hdr
          have M0 := Lib.hid hm0
          clear hdr hm0
          by_cases e : j = rf.length
          · have hd2 : decide (j < rf.length) = false := by simp [e]
            have DR2 := DR.out
            rw [List.drop_of_length_le (by omega)] at DR2
            have DR3 : m = D := DR2
            subst DR3
            subst e
            have em : IntKind.i64.wrap (m + 1) = m + 1 := by have := DB.out; have := HN.out; have := HLT.out; exact IntWalk.i64_in _ (by omega)
            clear DR2
            go_wp2_with (at_builtin; go_must (refine wpList_pushI rfl _ _ rfl w2.heap.size _ acc rfl LL.out (m + 1) rfl ?hlo ?hsm ?_))
            case hlo => exact bk_size KB.out
            case hsm => have := AL.out; have := HN.out; omega
            intro g4 cap4 w5 hl5 hs5
            have K5 := Lib.hid (Step.bk_new KB.out hs5 (fun j hj => (LL.out.lt _ hj).1))
            have L5 := Lib.hid hl5
            clear hl5 hs5
            go_wp2_with fail
            go_roundw
            case rel => exact ⟨k + 1, acc ++ [m + 1], by have := HLT.out; omega, by go_num, by simp [AL.out], fun z hz => by
              rcases List.mem_append.1 hz with h | h
              · have := BD.out z h; omega
              · rw [List.mem_singleton.1 h]; have := DB.out; omega, EQ3.out, L5.out, K5.out⟩
            case measure => have := HLT.out; simp [intOf]; omega
          · have hjl : j < rf.length := by omega
            have hd2 : decide (j < rf.length) = true := by simpa using hjl
            obtain ⟨b2, o2, hp1, -, y0⟩ := RX.out.get hjl
            have DR2 := DR.out
            rw [List.drop_eq_getElem_cons hjl, dpR_cons] at DR2
            have hw := WM.out _ (List.getElem_mem hjl)
            obtain ⟨rn, hrn, hrk⟩ : ∃ rn : Nat, rf[j] = (rn : Int) ∧ rn < k := ⟨rf[j].toNat, by omega, by omega⟩
            rw [hrn] at y0 DR2
            rw [Int.toNat_natCast] at DR2
            have hra : rn < acc.length := by rw [AL.out]; exact hrk
            obtain ⟨b5, o5, hp4, -, c0⟩ := LR.out.get hra
            rw [List.getD_eq_getElem?_getD, List.getElem?_eq_getElem hra] at DR2
            have DR3 := Lib.hid (show dpR acc (max m acc[rn]) (rf.drop (j + 1)) = D from DR2)
            have ej : IntKind.i64.wrap ((j : Int) + 1) = (j : Int) + 1 := by have := OKS.out; exact IntWalk.i64_in _ (by omega)
            have hji : (j : Int) < (rf.length : Int) := by omega
            have hrl : (rn : Int) < (acc.length : Int) := by omega
            have JLT := Lib.hid hjl
            clear e hw hrn hrk DR2
            generalize acc[rn] = dv at *
            go_wp2_with fail
            all_goals
              go_roundw
              case rel => exact ⟨j + 1, max m dv, by have := JLT.out; omega, by go_num, by first | rfl | (congr 1; omega), by have := M0.out; omega, DR3.out, by first | rfl | trivial⟩
              case measure => have := JLT.out; simp [intOf]; omega
  · have VL2 := VL.out
    rw [if_neg he] at VL2
    subst VL2
    have DP2 := DP.out
    rw [if_neg (by decide)] at DP2
    subst DP2
    have hee : ((er : Int) != 0) = true := nn_cast (d := 0) he
    have hee2 : ¬ (er : Int) = 0 := by omega
    clear VO VL DP he
    go_enter Tryd.func22, Tryd.ntmps22
    go_wp2_with fail
    refine C15.out.mono ?_
    rintro e w2 ⟨rfl, hb2⟩
    have K2 := Lib.hid hb2
    clear hb2
    go_wp2_with fail
    go_ret
    exact ⟨rfl, K2.out⟩
end Go.Proofs.YtnlpiaejfmdckaaDoor
