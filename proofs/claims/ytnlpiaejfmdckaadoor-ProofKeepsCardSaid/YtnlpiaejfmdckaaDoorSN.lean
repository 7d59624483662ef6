/- The reference's Needed. -/
import Derived.Test.YtnlpiaejfmdckaaDoorSM
import Derived.Test.YtnlpiaejfmdckaaDoorSG
namespace Go.Proofs.YtnlpiaejfmdckaaDoor
open Go.RowKit
set_option linter.unusedVariables false
set_option linter.unusedSimpArgs false
theorem rB_len (ss : List S) : ∀ (k : Nat) (nb : List Bool), (rB ss k nb).length = nb.length
  | 0, nb => rfl
  | k + 1, nb => by
    rw [rB_succ, rB_len ss k]
    split
    · exact mkB_len _ _
    · rfl
theorem flt_len (nb : List Bool) : ∀ k, (flt nb k).length ≤ k
  | 0 => Nat.le_refl _
  | k + 1 => by
    have := flt_len nb k
    rw [flt_succ, List.length_append]
    split <;> simp <;> omega
set_option maxRecDepth 100000 in
set_option maxHeartbeats 8000000 in
theorem rneeded26 (ss : List S) (hl : ss.length ≤ 100000) (hok : ∀ s ∈ ss, s.rf.length ≤ 100000) (w : World) (p : Option Addr) (c : Nat) (hp : RowS (mem 0 w) w p c ss) : Calls Tryd.prog 26 #[.slice p ss.length c] w fun e w' => (∃ q d, e = .returned (.slice q (ndd ss).length d) ∧ RowI (mem w.heap.size w') w' q d (ndd ss)) ∧ BK w w' := by
  have C15 := Lib.hid (check15 ss hl hok w p c hp)
  have VL := Lib.hid (show vld ss = if (chk ss).2 = 0 then true else false from rfl)
  have DF := Lib.hid (fun h => ndd_flt ss h)
  have DN := Lib.hid (show vld ss = false → ndd ss = [] from fun h => by unfold ndd; rw [h]; rfl)
  have VO := Lib.hid (fun h => vld_ok (ss := ss) h)
  have HP := Lib.hid hp
  have OKH := Lib.hid hok
  clear hp hok hl
  generalize ndd ss = r at *
  generalize hv : vld ss = v at *
  clear hv
  generalize (chk ss).1 = at0 at *
  generalize (chk ss).2 = er at *
  by_cases he : er = 0
  · have VL2 := VL.out
    rw [if_pos he] at VL2
    subst VL2
    obtain ⟨v1, v2, v3⟩ := VO.out rfl
    have WL := Lib.hid v3
    have HN := Lib.hid (And.intro v1 v2)
    have MK := Lib.hid (fun w => make65 ss.length (by omega) w)
    have DF2 := DF.out rfl
    subst he
    obtain ⟨nb0, hnb0⟩ : ∃ nb0, nb0 = (List.replicate ss.length false).set (ss.length - 1) true := ⟨_, rfl⟩
    rw [← hnb0] at DF2
    have NB0 := Lib.hid hnb0
    have FL := Lib.hid (show (rB ss ss.length nb0).length = ss.length from by rw [rB_len, hnb0]; simp)
    have FE := Lib.hid DF2
    clear v3 VO v1 v2 VL DF DN DF2 hnb0
    generalize hf : rB ss ss.length nb0 = FB at *
    have HF := Lib.hid hf
    clear hf
    go_enter Tryd.func26, Tryd.ntmps26
    go_wp2_with fail
    refine C15.out.mono ?_
    rintro e w2 ⟨rfl, hb2⟩
    have K2 := Lib.hid hb2
    clear hb2 C15
    go_wp2_with fail
    rw [MK.out w2]
    simp only [Result.andThen]
    try rw [Oper.upon_value]
    have K3 := Lib.hid (bk_alloc (BK.refl w2) (.cells (ba (List.replicate ss.length false)) 4))
    have B3 := Lib.hid (show Br (w2.alloc (.cells (ba (List.replicate ss.length false)) 4)) w2.heap.size (List.replicate ss.length false) from heap_alloc_new w2 _)
    have ek : IntKind.i64.wrap ((ss.length : Int) - 1) = ((ss.length - 1 : Nat) : Int) := by have := HN.out; rw [IntWalk.i64_in _ (by omega)]; omega
    have ek2 : (ss.length : Int) - 1 = ((ss.length - 1 : Nat) : Int) := by have := HN.out; omega
    have ek3 : wrap64 ((ss.length - 1 : Nat) : Int) = ((ss.length - 1 : Nat) : Int) := by have := HN.out; unfold wrap64; omega
    have hki : ((ss.length - 1 : Nat) : Int) < (ss.length : Int) := by have := HN.out; omega
    have c0 := B3.out.c (k := ss.length - 1) (by have := HN.out; simp; omega)
    have f0 := B3.out.f (ss.length - 1)
    have B4 := Lib.hid (show Br ((w2.alloc (.cells (ba (List.replicate ss.length false)) 4)).setCell ⟨w2.heap.size, ss.length - 1, none⟩ (.bool true)) w2.heap.size nb0 from by rw [NB0.out]; exact B3.out.set _ _)
    have K4 := Lib.hid (bk_set K3.out ⟨w2.heap.size, ss.length - 1, none⟩ (.bool true) (Nat.le_refl _))
    generalize w2.alloc (.cells (ba (List.replicate ss.length false)) 4) = w3 at *
    go_wp2_with fail
    generalize w3.setCell ⟨w2.heap.size, ss.length - 1, none⟩ (.bool true) = w4 at *
    rw [ek3]
    clear ek ek2 ek3 hki c0 f0 MK B3 K3
    have FW := Lib.hid (fun (k : Nat) (hk : k < ss.length) => show ∀ r ∈ rfs ss k, 0 ≤ r ∧ r < (k : Int) from fun r hr => by
      unfold rfs at hr
      rw [List.getElem?_eq_getElem hk] at hr
      exact well_mem (WL.out k hk) r hr)
    go_loopw [6] (fun iv wr => ∃ (k : Nat) (nb : List Bool), k ≤ ss.length ∧ iv = .int .i64 ((k : Int) - 1) ∧ nb.length = ss.length ∧ rB ss k nb = FB ∧ Br wr w2.heap.size nb ∧ BK w2 wr) (fun iv _ => (intOf iv + 1).toNat)
    case atStart => exact ⟨ss.length, nb0, Nat.le_refl _, by congr 1; have := HN.out; omega, by rw [NB0.out]; simp, HF.out, B4.out, K4.out⟩
    case round =>
      obtain ⟨k, nb, hk, rfl, hnl, heq, hbr, hb⟩ := hrel
      have NL := Lib.hid hnl
      have EQ := Lib.hid heq
      have BR := Lib.hid hbr
      have KB := Lib.hid hb
      clear hnl heq hbr hb
      cases k with
      | zero =>
        have EQ2 : nb = FB := EQ.out
        subst EQ2
        rw [show ((0 : Nat) : Int) - 1 = -1 from rfl]
        go_wp2_with fail
        go_loopw [8, 9] (fun xv iv wr => ∃ (k : Nat) (acc : List Int), k ≤ ss.length ∧ iv = .int .i64 (k : Int) ∧ acc = flt nb k ∧ LI (w2.heap.size + 1) wr xv acc ∧ Br wr w2.heap.size nb ∧ BK w2 wr) (fun _ iv _ => ss.length - (intOf iv).toNat)
        case atStart => exact ⟨0, [], Nat.zero_le _, rfl, rfl, LI.nil _ _, BR.out, KB.out⟩
        case round =>
          obtain ⟨k, acc, hk, rfl, hac, hli, hbr, hb⟩ := hrel
          have AC := Lib.hid hac
          have LL := Lib.hid hli
          have BR2 := Lib.hid hbr
          have KB2 := Lib.hid hb
          clear hac hli hbr hb
          obtain ⟨p4, c4, rfl⟩ := LL.out.shape
          by_cases e : k = ss.length
          · have hd : decide (k < ss.length) = false := by simp [e]
            have AE : acc = r := by rw [AC.out, e, FE.out]
            have RR := Lib.hid (show RowI (mem w.heap.size wr) wr p4 c4 r from by
              rw [← AE]
              exact LL.out.row.keep fun j hj => ⟨rfl, by have := hj.1; have := bk_size K2.out; show w.heap.size ≤ j; omega, hj.2⟩)
            subst e
            rw [AE]
            go_wp2_with fail
            go_ret
            exact ⟨⟨p4, c4, rfl, RR.out⟩, bk_tr K2.out KB2.out⟩
          · have hlt : k < ss.length := by omega
            have hd : decide (k < ss.length) = true := by simpa using hlt
            have hki : (k : Int) < (ss.length : Int) := by omega
            have ei : IntKind.i64.wrap ((k : Int) + 1) = (k : Int) + 1 := by have := HN.out; exact IntWalk.i64_in _ (by omega)
            have HLT := Lib.hid hlt
            have c0 := BR2.out.c (k := k) (by rw [NL.out]; exact hlt)
            have hg : nb.getD k false = nb[k]'(by rw [NL.out]; exact hlt) := by rw [List.getD_eq_getElem?_getD, List.getElem?_eq_getElem (by rw [NL.out]; exact hlt)]; rfl
            have FS := flt_succ nb k
            rw [hg, ← AC.out] at FS
            have AL := Lib.hid (show acc.length ≤ k from by rw [AC.out]; exact flt_len nb k)
            generalize nb[k]'(by rw [NL.out]; exact hlt) = bm at *
            clear hg e
            cases bm with
            | false =>
              have FS2 := Lib.hid (show acc = flt nb (k + 1) from by rw [FS]; simp)
              clear FS
              go_wp2_with fail
              go_roundw
              case rel => exact ⟨k + 1, acc, by have := HLT.out; omega, by go_num, FS2.out, LL.out, BR2.out, KB2.out⟩
              case measure => have := HLT.out; simp [intOf]; omega
            | true =>
              have FS2 := Lib.hid (show acc ++ [(k : Int)] = flt nb (k + 1) from by rw [FS]; simp)
              clear FS
              go_wp2_with (at_builtin; go_must (refine wpList_pushI rfl _ _ rfl (w2.heap.size + 1) _ acc rfl LL.out (k : Int) rfl ?hlo ?hsm ?_))
              case hlo => have := BR2.out.lt; omega
              case hsm => have := AL.out; have := HN.out; have := HLT.out; omega
              intro g4 cap4 w5 hl5 hs5
              have BR5 := Lib.hid (BR2.out.at (hs5.block _ BR2.out.lt (fun h => by have := (LL.out.lt _ h).1; omega)))
              have K5 := Lib.hid (Step.bk_new KB2.out hs5 (fun j hj => by have := (LL.out.lt _ hj).1; omega))
              have L5 := Lib.hid (show LI (w2.heap.size + 1) w5 (.slice (some ⟨g4, 0, none⟩) (acc.length + 1) cap4) (acc ++ [(k : Int)]) from hl5)
              clear hl5 hs5
              go_wp2_with fail
              go_roundw
              case rel => exact ⟨k + 1, acc ++ [(k : Int)], by have := HLT.out; omega, by go_num, FS2.out, L5.out, BR5.out, K5.out⟩
              case measure => have := HLT.out; simp [intOf]; omega
      | succ m =>
        rw [show ((m + 1 : Nat) : Int) - 1 = (m : Int) by omega]
        have hml : m < ss.length := by omega
        have h0 : (0 : Int) ≤ (m : Int) := by omega
        have hmi : (m : Int) < (ss.length : Int) := by omega
        have em : IntKind.i64.wrap ((m : Int) - 1) = (m : Int) - 1 := by have := HN.out; exact IntWalk.i64_in _ (by omega)
        have EQ2 := EQ.out
        rw [rB_succ, List.getD_eq_getElem?_getD, List.getElem?_eq_getElem (by rw [NL.out]; exact hml)] at EQ2
        have EQ3 := Lib.hid EQ2
        have HML := Lib.hid hml
        have c0 := BR.out.c (k := m) (by rw [NL.out]; exact hml)
        have GM := Lib.hid (show nb[m]? = some (nb[m]'(by rw [NL.out]; exact hml)) from List.getElem?_eq_getElem _)
        obtain ⟨b, o, q, rfl, hDb, hc, hps⟩ := ((HP.out.bk K2.out (Nat.le_refl _)).keep (stay KB.out)).get HML.out
        have HDB := Lib.hid hDb
        clear hDb
        obtain ⟨-, z1, -⟩ := hc.all
        have Z1 := Lib.hid z1
        have FM := Lib.hid (FW.out m HML.out)
        have ERF := Lib.hid (show rfs ss m = ss[m].rf from by unfold rfs; rw [List.getElem?_eq_getElem HML.out]; rfl)
        have OKS := Lib.hid (show ss[m].rf.length ≤ 100000 from OKH.out _ (List.getElem_mem HML.out))
        rw [ERF.out] at EQ3 FM
        have RI := Lib.hid hps.rf
        clear hc hps EQ2
        generalize ss[m].rf = rf at *
        generalize hnm : nb[m]'(by rw [NL.out]; exact hml) = bm at *
        clear hnm
        go_wp2_with fail
        cases bm with
        | false =>
          have EQ4 := Lib.hid (show rB ss m nb = FB from by have := EQ3.out; rwa [if_neg (by simp)] at this)
          obtain ⟨wa, hwa⟩ : ∃ x, x = wr := ⟨_, rfl⟩
          subst hwa
          go_loopw [7] (fun jv wr => jv = .int .i64 0 ∧ wa = wr) (fun _ _ => 0)
          case atStart => exact ⟨rfl, rfl⟩
          case round =>
            obtain ⟨rfl, rfl⟩ := hrel
            by_cases e : 0 < rf.length
            · have hd : decide (0 < rf.length) = true := by simpa using e
              have hd0 : (0 : Int) < (rf.length : Int) := by omega
              go_wp2_with fail
              go_roundw
              case rel => exact ⟨m, nb, by have := HML.out; omega, by go_num, NL.out, EQ4.out, BR.out, KB.out⟩
              case measure => first | (simp [intOf]; done) | (simp [intOf]; omega)
            · have hd : decide (0 < rf.length) = false := by simpa using e
              have hd0 : ¬ (0 : Int) < (rf.length : Int) := by omega
              go_wp2_with fail
              go_roundw
              case rel => exact ⟨m, nb, by have := HML.out; omega, by go_num, NL.out, EQ4.out, BR.out, KB.out⟩
              case measure => first | (simp [intOf]; done) | (simp [intOf]; omega)
        | true =>
          have EQ4 := Lib.hid (show rB ss m (mkB nb rf) = FB from by have := EQ3.out; rwa [if_pos (by simp)] at this)
          clear c0 z1
          obtain ⟨wa, hwa⟩ : ∃ x, x = wr := ⟨_, rfl⟩
          subst hwa
          generalize hmf : mkB nb rf = NF at *
          have MF := Lib.hid hmf
          clear hmf
          go_loopw [7] (fun jv wr => ∃ (j : Nat) (nb' : List Bool), j ≤ rf.length ∧ jv = .int .i64 (j : Int) ∧ nb'.length = ss.length ∧ nb'[m]? = some true ∧ mkB nb' (rf.drop j) = NF ∧ Br wr w2.heap.size nb' ∧ BK w2 wr) (fun jv _ => rf.length - (intOf jv).toNat)
          case atStart => exact ⟨0, nb, Nat.zero_le _, rfl, NL.out, GM.out, MF.out, BR.out, KB.out⟩
          case round =>
            obtain ⟨j, nb', hj, rfl, hnl2, hgm, hmk, hbr2, hb2⟩ := hrel
            have NL2 := Lib.hid hnl2
            have GM2 := Lib.hid hgm
            have MK2 := Lib.hid hmk
            have BR2 := Lib.hid hbr2
            have KB2 := Lib.hid hb2
            clear hnl2 hgm hmk hbr2 hb2
            have cm : wr.cell? ⟨w2.heap.size, m, none⟩ = some (.bool true) := by
              have h1 := BR2.out.c (k := m) (by have := NL2.out; have := HML.out; omega)
              have h2 := GM2.out
              rw [List.getElem?_eq_getElem (by have := NL2.out; have := HML.out; omega)] at h2
              rw [h1, Option.some.inj h2]
            have x1 := (cell_at (stay2 KB.out KB2.out b HDB.out).1).trans Z1.out
            by_cases e : j = rf.length
            · have hd : decide (j < rf.length) = false := by simp [e]
              have M3 := MK2.out
              rw [List.drop_of_length_le (by omega)] at M3
              have M4 : nb' = NF := M3
              subst M4
              subst e
              go_wp2_with fail
              go_roundw
              case rel => exact ⟨m, nb', by have := HML.out; omega, by go_num, NL2.out, EQ4.out, BR2.out, KB2.out⟩
              case measure => first | (simp [intOf]; done) | (simp [intOf]; omega)
            · have hjl : j < rf.length := by omega
              have hd : decide (j < rf.length) = true := by simpa using hjl
              obtain ⟨b2, o2, hp1, -, y0⟩ := (RI.out.keep (stay2 KB.out KB2.out)).get hjl
              have M3 := MK2.out
              rw [List.drop_eq_getElem_cons hjl, mkB_cons] at M3
              have hw := FM.out _ (List.getElem_mem hjl)
              obtain ⟨rn, hrn, hrk⟩ : ∃ rn : Nat, rf[j] = (rn : Int) ∧ rn < m := ⟨rf[j].toNat, by omega, by omega⟩
              rw [hrn] at y0 M3
              rw [Int.toNat_natCast] at M3
              obtain ⟨bq, c0⟩ : ∃ bq, wr.cell? ⟨w2.heap.size, rn, none⟩ = some (.bool bq) := ⟨_, BR2.out.c (k := rn) (by have := NL2.out; have := HML.out; omega)⟩
              have f0 := BR2.out.f rn
              have BZ := Lib.hid (BR2.out.set rn true)
              have KZ := Lib.hid (bk_set KB2.out ⟨w2.heap.size, rn, none⟩ (.bool true) (Nat.le_refl _))
              have GZ := Lib.hid (show (nb'.set rn true)[m]? = some true from by rw [List.getElem?_set_ne (by omega)]; exact GM2.out)
              have M5 := Lib.hid M3
              have ej : IntKind.i64.wrap ((j : Int) + 1) = (j : Int) + 1 := by have := OKS.out; exact IntWalk.i64_in _ (by omega)
              have hji : (j : Int) < (rf.length : Int) := by omega
              have hrl : (rn : Int) < (ss.length : Int) := by have := HML.out; omega
              have JLT := Lib.hid hjl
              clear e hw hrn hrk M3
              go_wp2_with fail
              go_roundw
              case rel => exact ⟨j + 1, nb'.set rn true, by have := JLT.out; omega, by go_num, by rw [List.length_set]; exact NL2.out, GZ.out, M5.out, BZ.out, KZ.out⟩
              case measure => have := JLT.out; simp [intOf]; omega
  · have VL2 := VL.out
    rw [if_neg he] at VL2
    subst VL2
    have DN2 := DN.out rfl
    subst DN2
    have hee : ((er : Int) != 0) = true := nn_cast (d := 0) he
    have hee2 : ¬ (er : Int) = 0 := by omega
    clear VO VL DF DN he
    go_enter Tryd.func26, Tryd.ntmps26
    go_wp2_with fail
    refine C15.out.mono ?_
    rintro e w2 ⟨rfl, hb2⟩
    have K2 := Lib.hid hb2
    clear hb2
    go_wp2_with fail
    go_ret
    exact ⟨⟨none, 0, rfl, .inl ⟨rfl, fun _ => rfl⟩⟩, K2.out⟩
end Go.Proofs.YtnlpiaejfmdckaaDoor
