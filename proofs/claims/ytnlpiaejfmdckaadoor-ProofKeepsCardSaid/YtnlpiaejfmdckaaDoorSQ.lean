/- The reference's Trim. -/
import Derived.Test.YtnlpiaejfmdckaaDoorSO
namespace Go.Proofs.YtnlpiaejfmdckaaDoor
open Go.RowKit
set_option linter.unusedVariables false
set_option linter.unusedSimpArgs false
set_option maxRecDepth 100000 in
set_option maxHeartbeats 8000000 in
theorem rtrim28 (ss : List S) (hl : ss.length ≤ 100000) (hok : ∀ s ∈ ss, s.rf.length ≤ 100000) (w : World) (p : Option Addr) (c : Nat) (hp : RowS (mem 0 w) w p c ss) : Calls Tryd.prog 28 #[.slice p ss.length c] w fun e w' => (∃ q d, e = .returned (.slice q (trm ss).length d) ∧ RowS (mem 0 w') w' q d (trm ss)) ∧ BK w w' := by
  have C26 := Lib.hid (rneeded26 ss hl hok w p c hp)
  have HP := Lib.hid hp
  have OK := Lib.hid hok
  have HL := Lib.hid hl
  clear hp hok hl
  cases hv : vld ss with
  | false =>
    rw [trm_no ss hv]
    have hn : ndd ss = [] := by unfold ndd; rw [if_neg (by rw [hv]; decide)]
    rw [hn] at C26
    clear hv hn
    go_enter Tryd.func28, Tryd.ntmps28
    go_wp2_with fail
    refine C26.out.mono ?_
    rintro e w2 ⟨⟨q, d, rfl, hr⟩, hb⟩
    have K2 := Lib.hid hb
    clear hr hb
    go_wp2_with fail
    go_ret
    exact ⟨⟨p, c, rfl, HP.out.bk K2.out (Nat.le_refl _)⟩, K2.out⟩
  | true =>
    obtain ⟨n1, n2, n3, n4⟩ := ndd_facts ss hv
    have TE := Lib.hid (trm_eq ss hv)
    have NB := Lib.hid n2
    have N4 := Lib.hid n4
    have NLN := Lib.hid (ndd_len ss)
    clear n1 n2 n3 n4 hv
    rw [TE.out, List.length_map]
    clear TE
    generalize ndd ss = L at *
    have hne : ((L.length : Int) == 0) = false := by have := N4.out; exact beq_eq_false_iff_ne.2 (by omega)
    have hne2 : ¬ (L.length : Int) = 0 := by have := N4.out; omega
    go_enter Tryd.func28, Tryd.ntmps28
    go_wp2_with fail
    refine C26.out.mono ?_
    rintro e w2 ⟨⟨q2, d2, rfl, hr⟩, hb⟩
    have K2 := Lib.hid hb
    have RL := Lib.hid (hr.keep (D' := mem 0 w2) (fun j hj => ⟨rfl, Nat.zero_le _, hj.2⟩))
    have HQ := Lib.hid (HP.out.bk hb (Nat.le_refl _))
    clear hr hb C26 HP
    go_wp2_with fail
    go_loopw [4, 5] (fun xv iv wr => ∃ j : Nat, j ≤ L.length ∧ iv = .int .i64 (j : Int) ∧ GL 0 44 14 wr xv j (PS ((L.take j).map (tG ss L))) ∧ (∀ g, xv.ownBlock = some g → w2.heap.size ≤ g) ∧ BK w2 wr) (fun _ iv _ => L.length - (intOf iv).toNat)
    case atStart => exact ⟨0, Nat.zero_le _, rfl, GL.nil _ _ _ _ _, (fun g hg => by cases hg), BK.refl _⟩
    case round =>
      obtain ⟨j, hj, rfl, hgl, hown, hb⟩ := hrel
      have GG := Lib.hid hgl
      have OW := Lib.hid hown
      have KB := Lib.hid hb
      clear hgl hb hown
      by_cases e : j = L.length
      · have hd : decide (j < L.length) = false := by simp [e]
        have G2 := GG.out
        rw [List.take_of_length_le (by omega)] at G2
        obtain ⟨p8, c8, rfl⟩ := G2.shape
        have RS := Lib.hid (show RowS (mem 0 wr) wr p8 c8 (L.map (tG ss L)) from gl_rowS (by rw [List.length_map, ← e]; exact G2))
        clear G2 GG
        subst e
        go_wp2_with fail
        go_ret
        exact ⟨⟨p8, c8, rfl, RS.out⟩, bk_tr K2.out KB.out⟩
      · have hlt : j < L.length := by omega
        have hd : decide (j < L.length) = true := by simpa using hlt
        have hji : (j : Int) < (L.length : Int) := by omega
        obtain ⟨b2, o2, rfl, -, y0⟩ := (RL.out.bk KB.out (Nat.le_refl _)).get hlt
        have hab := NB.out _ (List.getElem_mem hlt)
        obtain ⟨an, hL, han⟩ : ∃ an : Nat, L[j] = (an : Int) ∧ an < ss.length := ⟨L[j].toNat, by omega, by omega⟩
        have TK := (show (L.take (j + 1)).map (tG ss L) = (L.take j).map (tG ss L) ++ [tG ss L L[j]] from by rw [List.take_succ_eq_append_getElem hlt, List.map_append]; rfl)
        rw [hL] at y0 TK
        obtain ⟨b, o, q, rfl, -, hc, hps⟩ := (HQ.out.keep (stay KB.out)).get han
        obtain ⟨z0, z1, z2, z3, z4, z5, z6, z7, z8, z9, z10, z11, z12, z13⟩ := hc.all
        have hai : (an : Int) < (ss.length : Int) := by omega
        have ei : IntKind.i64.wrap ((j : Int) + 1) = (j : Int) + 1 := by have := NLN.out; have := HL.out; exact IntWalk.i64_in _ (by omega)
        have TG : tG ss L (an : Int) = sMap ss[an] (fun r => (lsN r L : Int)) := by unfold tG; rw [Int.toNat_natCast, List.getD_eq_getElem?_getD, List.getElem?_eq_getElem han]; rfl
        rw [TG] at TK
        have OKS := OK.out _ (List.getElem_mem han)
        have TL := Lib.hid (show ((L.take j).map (tG ss L)).length = j from by simp; omega)
        have JLT := Lib.hid hlt
        generalize (L.take j).map (tG ss L) = zs at *
        generalize ss[an] = s at *
        obtain ⟨kk, rf, ru, sb, ⟨opa, wda, vla, nma, tsa⟩, ⟨opb, wdb, vlb, nmb, tsb⟩⟩ := s
        obtain ⟨p1, c1, p2, c2, p3, c3, p4, c4⟩ := q
        have CC := Lib.hid (moved48 kk rf ru sb opa wda vla nma tsa opb wdb vlb nmb tsb p1 c1 p2 c2 p3 c3 p4 c4 L (by have := NLN.out; have := HL.out; omega) OKS wr (some ⟨b2, o2, none⟩) d2 (RL.out.bk KB.out (Nat.le_refl _)) (hps.rf.keep (fun i hi => ⟨rfl, Nat.zero_le _, Nat.lt_of_lt_of_le hi.2 (bk_size KB.out)⟩)))
        have PS0 := Lib.hid hps
        have TK2 := Lib.hid TK
        have GB := Lib.hid (fun wc (hb : BK wr wc) => GG.out.bk (PS.mono zs) hb)
        have GLT := Lib.hid GG.out.lt
        obtain ⟨p8, c8, rfl⟩ := GG.out.shape
        clear hps hc e GG TK TG OKS hab hL
        simp only [S.k, S.rf, S.ru, S.sb, S.a, S.b, T.op, T.wd, T.vl, T.nm, T.ts] at z0 z1 z2 z3 z4 z5 z6 z7 z8 z9 z10 z11 z12 z13
        go_wp2_with fail
        refine CC.out.mono ?_
        rintro e w6 ⟨⟨q6, d6, rfl, hr6⟩, hb6⟩
        have R6 := Lib.hid hr6
        have K6 := Lib.hid hb6
        have S6 := Lib.hid (bk_size hb6)
        have LW := Lib.hid (bk_size KB.out)
        clear hr6 hb6 z0 z1 z2 z3 z4 z5 z6 z7 z8 z9 z10 z11 z12 z13 y0
        have PN := Lib.hid (show PS (zs ++ [sMap ⟨kk, rf, ru, sb, .mk opa wda vla nma tsa, .mk opb wdb vlb nmb tsb⟩ (fun r => (lsN r L : Int))]) (memO 0 w6 (.slice p8 j c8)) w6 j #[.int .i64 kk, .slice q6 rf.length d6, .int .i64 ru, .slice p2 sb.length c2, .int .i64 opa, .int .i64 wda, .int .u64 vla, .string nma, .slice p3 tsa.length c3, .int .i64 opb, .int .i64 wdb, .int .u64 vlb, .string nmb, .slice p4 tsb.length c4] from ⟨_, ⟨q6, d6, p2, c2, p3, c3, p4, c4⟩, by rw [List.getElem?_append_right (by rw [TL.out]; exact Nat.le_refl _), TL.out, Nat.sub_self]; rfl, by unfold cS sMap; simp only [List.length_map]; rfl, by
          have hk : ∀ i, mem 0 w2 i → w6.heap[i]? = wr.heap[i]? ∧ memO 0 w6 (.slice p8 j c8) i := fun i hi => ⟨bk_block K6.out (Nat.lt_of_lt_of_le hi.2 LW.out), Nat.zero_le _, Nat.lt_of_lt_of_le hi.2 (Nat.le_trans LW.out S6.out), fun e => by have := OW.out i e; have := hi.2; omega⟩
          exact ⟨R6.out.keep (fun i hi => ⟨rfl, Nat.zero_le _, hi.2, fun e => by have h0 := (GLT.out i e).2; have := hi.1; omega⟩), PS0.out.sb.keep hk, PS0.out.a.keep hk, PS0.out.b.keep hk⟩⟩)
        have ONE := Lib.hid (show ∀ u ∈ (#[.int .i64 kk, .slice q6 rf.length d6, .int .i64 ru, .slice p2 sb.length c2, .int .i64 opa, .int .i64 wda, .int .u64 vla, .string nma, .slice p3 tsa.length c3, .int .i64 opb, .int .i64 wdb, .int .u64 vlb, .string nmb, .slice p4 tsb.length c4] : Array Value).toList, u.oneCell' = true from by
          intro x hx
          simp at hx
          rcases hx with rfl | rfl | rfl | rfl | rfl | rfl | rfl | rfl | rfl | rfl | rfl | rfl | rfl | rfl <;> rfl)
        have HSM := Lib.hid (show j ≤ 200000 from by have := NLN.out; have := HL.out; have := JLT.out; omega)
        go_wp2_with (at_builtin; go_must (refine wpList_plain rfl (fun K9 hK9 => gl_push _ _ 27 44 14 192 _ rfl Tryd.underlying27 info44 rfl (by decide) (by decide) 0 (.slice p8 j c8) j (PS zs) (PS (zs ++ [sMap ⟨kk, rf, ru, sb, .mk opa wda vla nma tsa, .mk opb wdb vlb nmb tsb⟩ (fun r => (lsN r L : Int))])) (PS.mono zs) (PS.mono _) (fun D w k cs hk h => PS.snoc zs _ D w k cs (by rw [TL.out]; exact hk) h) rfl (GB.out _ K6.out) #[.int .i64 kk, .slice q6 rf.length d6, .int .i64 ru, .slice p2 sb.length c2, .int .i64 opa, .int .i64 wda, .int .u64 vla, .string nma, .slice p3 tsa.length c3, .int .i64 opb, .int .i64 wdb, .int .u64 vlb, .string nmb, .slice p4 tsb.length c4] rfl ONE.out rfl (Nat.zero_le _) HSM.out PN.out (fun g9 cap9 w9 hg9 hs9 => hK9 _ _ ?_))))
        have G9 := Lib.hid hg9
        have K9' := Lib.hid (show BK w2 w9 from Step.bk_new (bk_tr KB.out K6.out) hs9 (fun i hi => OW.out i hi))
        have O9 := Lib.hid (show w2.heap.size ≤ g9 from by
          rcases hs9.sub g9 rfl with q | q
          · exact OW.out _ q
          · have := S6.out; have := LW.out; omega)
        have OG := Lib.hid (show ∀ g, (Value.slice (some ⟨g9, 0, none⟩) (j + 1) cap9).ownBlock = some g → w2.heap.size ≤ g from fun g hg => by
          obtain rfl : g9 = g := by simpa [Value.ownBlock] using hg
          exact O9.out)
        clear hg9 hs9
        go_wp2_with fail
        go_roundw
        case rel => exact ⟨j + 1, by have := JLT.out; omega, by go_num, by rw [TK2.out]; exact G9.out, OG.out, K9'.out⟩
        case measure => have := JLT.out; simp [intOf]; omega
end Go.Proofs.YtnlpiaejfmdckaaDoor
