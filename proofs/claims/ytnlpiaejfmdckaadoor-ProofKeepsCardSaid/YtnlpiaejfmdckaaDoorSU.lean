/- The reference's Join. -/
import Derived.Test.YtnlpiaejfmdckaaDoorST
namespace Go.Proofs.YtnlpiaejfmdckaaDoor
open Go.RowKit
set_option linter.unusedVariables false
set_option linter.unusedSimpArgs false
set_option maxRecDepth 100000 in
set_option maxHeartbeats 8000000 in
theorem rjoin30 (ss tt : List S) (hl : ss.length ≤ 1000) (hl2 : tt.length ≤ 1000) (hok : ∀ s ∈ tt, s.rf.length ≤ 100000) (w : World) (p q : Option Addr) (c d : Nat) (hp : RowS (mem 0 w) w p c ss) (hq : RowS (mem 0 w) w q d tt) : Calls Tryd.prog 30 #[.slice p ss.length c, .slice q tt.length d] w fun e w' => (∃ q' d', e = .returned (.slice q' (ss ++ tt.map (shW (ss.length : Int))).length d') ∧ RowS (mem 0 w') w' q' d' (ss ++ tt.map (shW (ss.length : Int)))) ∧ BK w w' := by
  have HQ := Lib.hid hq
  have OK := Lib.hid hok
  have HL := Lib.hid (And.intro hl hl2)
  have RW := Lib.hid (show RowS (memO 0 w (.slice none 0 0)) w p c ss from hp.keep (fun i hi => ⟨rfl, hi.1, hi.2, fun e => by cases e⟩))
  have H1 := Lib.hid (show ss.length ≤ 100000 from by omega)
  rw [List.length_append, List.length_map]
  clear hp hq hok hl hl2
  go_enter Tryd.func30, Tryd.ntmps30
  go_wp2_with (at_builtin; go_must (refine wpList_plain rfl (fun K9 hK9 => gl_app _ _ rfl 0 (.slice none 0 0) [] ss rfl (GL.nil _ _ _ _ _) p c rfl RW.out (Nat.zero_le _) (fun _ => .inr rfl) (Nat.zero_le _) H1.out (fun q9 d9 w9 hg9 hs9 => hK9 _ _ ?_))))
  rw [List.length_nil, Nat.zero_add] at hg9
  have G9 := Lib.hid (show GL 0 44 14 w9 (.slice q9 ss.length d9) ss.length (PS ss) from hg9)
  have K9' := Lib.hid (show BK w w9 from Step.bk_new (BK.refl w) hs9 (fun i hi => by cases hi))
  have O9 := Lib.hid (show ∀ g, (Value.slice q9 ss.length d9).ownBlock = some g → w.heap.size ≤ g from fun g hg => by
    rcases hs9.sub g (by simpa using hg) with h | h
    · cases h
    · exact h)
  clear hg9 hs9
  go_wp2_with fail
  go_loopw [5, 6] (fun xv iv wr => ∃ j : Nat, j ≤ tt.length ∧ iv = .int .i64 (j : Int) ∧ GL 0 44 14 wr xv (ss.length + j) (PS (ss ++ (tt.take j).map (shW (ss.length : Int)))) ∧ (∀ g, xv.ownBlock = some g → w.heap.size ≤ g) ∧ BK w wr) (fun _ iv _ => tt.length - (intOf iv).toNat)
  case atStart => exact ⟨0, Nat.zero_le _, rfl, by simpa using G9.out, O9.out, K9'.out⟩
  case round =>
    obtain ⟨j, hj, rfl, hgl, hown, hb⟩ := hrel
    have GG := Lib.hid hgl
    have OW := Lib.hid hown
    have KB := Lib.hid hb
    clear hgl hb hown
    by_cases e : j = tt.length
    · have hd : decide (j < tt.length) = false := by simp [e]
      have G2 := GG.out
      rw [List.take_of_length_le (by omega), e] at G2
      obtain ⟨p8, c8, rfl⟩ := G2.shape
      have RS := Lib.hid (show RowS (mem 0 wr) wr p8 c8 (ss ++ tt.map (shW (ss.length : Int))) from gl_rowS (by rw [List.length_append, List.length_map]; exact G2))
      clear G2 GG
      subst e
      go_wp2_with fail
      go_ret
      exact ⟨⟨p8, c8, rfl, RS.out⟩, KB.out⟩
    · have hlt : j < tt.length := by omega
      have hd : decide (j < tt.length) = true := by simpa using hlt
      have hji : (j : Int) < (tt.length : Int) := by omega
      have ei : IntKind.i64.wrap ((j : Int) + 1) = (j : Int) + 1 := by have := HL.out; exact IntWalk.i64_in _ (by omega)
      have TK := (show ss ++ (tt.take (j + 1)).map (shW (ss.length : Int)) = (ss ++ (tt.take j).map (shW (ss.length : Int))) ++ [shW (ss.length : Int) tt[j]] from by rw [List.take_succ_eq_append_getElem hlt, List.map_append, List.append_assoc]; rfl)
      obtain ⟨b, o, q5, rfl, -, hc, hps⟩ := (HQ.out.keep (stay KB.out)).get hlt
      obtain ⟨z0, z1, z2, z3, z4, z5, z6, z7, z8, z9, z10, z11, z12, z13⟩ := hc.all
      have OKS := Lib.hid (OK.out _ (List.getElem_mem hlt))
      have TL := Lib.hid (show (ss ++ (tt.take j).map (shW (ss.length : Int))).length = ss.length + j from by simp; omega)
      have JLT := Lib.hid hlt
      generalize (tt.take j).map (shW (ss.length : Int)) = us at *
      generalize tt[j] = s at *
      obtain ⟨kk, rf, ru, sb, ⟨opa, wda, vla, nma, tsa⟩, ⟨opb, wdb, vlb, nmb, tsb⟩⟩ := s
      obtain ⟨p1, c1, p2, c2, p3, c3, p4, c4⟩ := q5
      have PS0 := Lib.hid hps
      have TK2 := Lib.hid TK
      have OKR := Lib.hid (show rf.length ≤ 100000 from OKS.out)
      obtain ⟨p8, c8, rfl⟩ := GG.out.shape
      have GB := Lib.hid (fun wc (hb : BK wr wc) => GG.out.bk (PS.mono (ss ++ us)) hb)
      have GLT := Lib.hid GG.out.lt
      have LW := Lib.hid (bk_size KB.out)
      have KX := Lib.hid (bk_alloc (BK.refl wr) (.cells #[.int .i64 kk, .slice p1 rf.length c1, .int .i64 ru, .slice p2 sb.length c2, .int .i64 opa, .int .i64 wda, .int .u64 vla, .string nma, .slice p3 tsa.length c3, .int .i64 opb, .int .i64 wdb, .int .u64 vlb, .string nmb, .slice p4 tsb.length c4] 44))
      have NX := Lib.hid (heap_alloc_new wr (.cells #[.int .i64 kk, .slice p1 rf.length c1, .int .i64 ru, .slice p2 sb.length c2, .int .i64 opa, .int .i64 wda, .int .u64 vla, .string nma, .slice p3 tsa.length c3, .int .i64 opb, .int .i64 wdb, .int .u64 vlb, .string nmb, .slice p4 tsb.length c4] 44))
      have SX := Lib.hid (sz1 wr (.cells #[.int .i64 kk, .slice p1 rf.length c1, .int .i64 ru, .slice p2 sb.length c2, .int .i64 opa, .int .i64 wda, .int .u64 vla, .string nma, .slice p3 tsa.length c3, .int .i64 opb, .int .i64 wdb, .int .u64 vlb, .string nmb, .slice p4 tsb.length c4] 44))
      clear hps hc e GG TK OKS
      simp only [S.k, S.rf, S.ru, S.sb, S.a, S.b, T.op, T.wd, T.vl, T.nm, T.ts] at z0 z1 z2 z3 z4 z5 z6 z7 z8 z9 z10 z11 z12 z13
      go_wp2_with fail
      generalize wr.alloc (.cells #[.int .i64 kk, .slice p1 rf.length c1, .int .i64 ru, .slice p2 sb.length c2, .int .i64 opa, .int .i64 wda, .int .u64 vla, .string nma, .slice p3 tsa.length c3, .int .i64 opb, .int .i64 wdb, .int .u64 vlb, .string nmb, .slice p4 tsb.length c4] 44) = w7 at *
      clear z0 z1 z2 z3 z4 z5 z6 z7 z8 z9 z10 z11 z12 z13
      have RF := Lib.hid (show RowI (mem 0 w7) w7 p1 c1 rf from PS0.out.rf.keep (fun i hi => ⟨bk_block KX.out (Nat.lt_of_lt_of_le hi.2 LW.out), Nat.zero_le _, by have := hi.2; have := LW.out; have := SX.out; omega⟩))
      have EI := Lib.hid ei
      clear ei
      obtain ⟨wa, hwa⟩ : ∃ x, x = wr := ⟨_, rfl⟩
      subst hwa
      go_loopw [8, 9] (fun rv kv wr => ∃ (k : Nat) (acc : List Int), k ≤ rf.length ∧ kv = .int .i64 (k : Int) ∧ acc = (rf.take k).map (fun r => wrap64 (r + (ss.length : Int))) ∧ LI w7.heap.size wr rv acc ∧ BK w7 wr) (fun _ kv _ => rf.length - (intOf kv).toNat)
      case atStart => exact ⟨0, [], Nat.zero_le _, rfl, rfl, LI.nil _ _, BK.refl _⟩
      case round =>
        obtain ⟨k, acc, hk, rfl, hacc, hli, hb⟩ := hrel
        have AC := Lib.hid hacc
        have LL := Lib.hid hli
        have K7 := Lib.hid hb
        have NR := Lib.hid ((bk_block hb (Array.getElem?_eq_some_iff.1 NX.out).1).trans NX.out)
        clear hacc hli hb
        obtain ⟨pv, cv, rfl⟩ := LL.out.shape
        have x1 := cell_of_row wr wa.heap.size 1 _ 44 (0, 0) NR.out
        by_cases e : k = rf.length
        · have hd2 : decide (k < rf.length) = false := by simp [e]
          have AL : acc.length = rf.length := by rw [AC.out, e]; simp
          have ACE := Lib.hid (show acc = rf.map (fun r => wrap64 (r + (ss.length : Int))) from by rw [AC.out, e, List.take_length])
          have x0' := cell_of_row wr wa.heap.size 0 _ 44 (0, 0) NR.out
          have x2' := cell_of_row wr wa.heap.size 2 _ 44 (0, 0) NR.out
          have x3' := cell_of_row wr wa.heap.size 3 _ 44 (0, 0) NR.out
          have x4' := cell_of_row wr wa.heap.size 4 _ 44 (0, 0) NR.out
          have x5' := cell_of_row wr wa.heap.size 5 _ 44 (0, 0) NR.out
          have x6' := cell_of_row wr wa.heap.size 6 _ 44 (0, 0) NR.out
          have x7' := cell_of_row wr wa.heap.size 7 _ 44 (0, 0) NR.out
          have x8' := cell_of_row wr wa.heap.size 8 _ 44 (0, 0) NR.out
          have x9' := cell_of_row wr wa.heap.size 9 _ 44 (0, 0) NR.out
          have x10' := cell_of_row wr wa.heap.size 10 _ 44 (0, 0) NR.out
          have x11' := cell_of_row wr wa.heap.size 11 _ 44 (0, 0) NR.out
          have x12' := cell_of_row wr wa.heap.size 12 _ 44 (0, 0) NR.out
          have x13' := cell_of_row wr wa.heap.size 13 _ 44 (0, 0) NR.out
          have f1 := frozen_of_row wr wa.heap.size 1 _ 44 NR.out
          have RR := Lib.hid (LL.out.row)
          have LLT := Lib.hid LL.out.lt
          rw [AL]
          rw [AL] at LLT
          have ei := EI.out
          have KS := Lib.hid (show BK wa (wr.setCell ⟨wa.heap.size, 1, none⟩ (.slice pv rf.length cv)) from bk_set (bk_tr KX.out K7.out) ⟨wa.heap.size, 1, none⟩ _ (Nat.le_refl _))
          have SS := Lib.hid (show (wr.setCell ⟨wa.heap.size, 1, none⟩ (.slice pv rf.length cv)).heap.size = wr.heap.size from by simp [World.setCell])
          have OTH := Lib.hid (show ∀ i, i ≠ wa.heap.size → (wr.setCell ⟨wa.heap.size, 1, none⟩ (.slice pv rf.length cv)).heap[i]? = wr.heap[i]? from fun i hi => heap_setCell_other wr ⟨wa.heap.size, 1, none⟩ i _ hi)
          have S7 := Lib.hid (bk_size K7.out)
          subst e
          have PN := Lib.hid (show PS ((ss ++ us) ++ [shW (ss.length : Int) ⟨kk, rf, ru, sb, .mk opa wda vla nma tsa, .mk opb wdb vlb nmb tsb⟩]) (memO 0 (wr.setCell ⟨wa.heap.size, 1, none⟩ (.slice pv rf.length cv)) (.slice p8 (ss.length + j) c8)) (wr.setCell ⟨wa.heap.size, 1, none⟩ (.slice pv rf.length cv)) (ss.length + j) #[.int .i64 kk, .slice pv rf.length cv, .int .i64 ru, .slice p2 sb.length c2, .int .i64 opa, .int .i64 wda, .int .u64 vla, .string nma, .slice p3 tsa.length c3, .int .i64 opb, .int .i64 wdb, .int .u64 vlb, .string nmb, .slice p4 tsb.length c4] from ⟨_, ⟨pv, cv, p2, c2, p3, c3, p4, c4⟩, by rw [List.getElem?_append_right (by rw [TL.out]; exact Nat.le_refl _), TL.out, Nat.sub_self]; rfl, by unfold cS shW sMap; simp only [List.length_map]; rfl, by
            have hk : ∀ i, mem 0 w i → (wr.setCell ⟨wa.heap.size, 1, none⟩ (.slice pv rf.length cv)).heap[i]? = wa.heap[i]? ∧ memO 0 (wr.setCell ⟨wa.heap.size, 1, none⟩ (.slice pv rf.length cv)) (.slice p8 (ss.length + j) c8) i := fun i hi => ⟨bk_block KS.out (Nat.lt_of_lt_of_le hi.2 LW.out), Nat.zero_le _, by rw [SS.out]; have := hi.2; have := LW.out; have := S7.out; have := SX.out; omega, fun e => by have := OW.out i e; have := hi.2; omega⟩
            have hr := RR.out
            rw [ACE.out] at hr
            exact ⟨hr.keep (fun i hi => ⟨OTH.out i (by have := hi.1; have := SX.out; omega), Nat.zero_le _, by rw [SS.out]; exact hi.2, fun e => by have h0 := (GLT.out i e).2; have := hi.1; have := SX.out; omega⟩), PS0.out.sb.keep hk, PS0.out.a.keep hk, PS0.out.b.keep hk⟩⟩)
          have ONE := Lib.hid (show ∀ u ∈ (#[.int .i64 kk, .slice pv rf.length cv, .int .i64 ru, .slice p2 sb.length c2, .int .i64 opa, .int .i64 wda, .int .u64 vla, .string nma, .slice p3 tsa.length c3, .int .i64 opb, .int .i64 wdb, .int .u64 vlb, .string nmb, .slice p4 tsb.length c4] : Array Value).toList, u.oneCell' = true from by
            intro x hx
            simp at hx
            rcases hx with rfl | rfl | rfl | rfl | rfl | rfl | rfl | rfl | rfl | rfl | rfl | rfl | rfl | rfl <;> rfl)
          have HSM := Lib.hid (show ss.length + j ≤ 200000 from by have := HL.out; have := JLT.out; omega)
          have NZ := Lib.hid (show (wr.setCell ⟨wa.heap.size, 1, none⟩ (.slice pv rf.length cv)).heap[wa.heap.size]? = some (.cells #[.int .i64 kk, .slice pv rf.length cv, .int .i64 ru, .slice p2 sb.length c2, .int .i64 opa, .int .i64 wda, .int .u64 vla, .string nma, .slice p3 tsa.length c3, .int .i64 opb, .int .i64 wdb, .int .u64 vlb, .string nmb, .slice p4 tsb.length c4] 44 (0, 0)) from heap_setCell_same _ wa.heap.size 1 _ 44 (.slice pv rf.length cv) NR.out)
          go_upto_region 13 with (fail)
          generalize wr.setCell ⟨wa.heap.size, 1, none⟩ (.slice pv rf.length cv) = wz at *
          clear x0' x1 x2' x3' x4' x5' x6' x7' x8' x9' x10' x11' x12' x13' f1
          have y0' := cell_of_row wz wa.heap.size 0 _ 44 (0, 0) NZ.out
          have y1' := cell_of_row wz wa.heap.size 1 _ 44 (0, 0) NZ.out
          have y2' := cell_of_row wz wa.heap.size 2 _ 44 (0, 0) NZ.out
          have y3' := cell_of_row wz wa.heap.size 3 _ 44 (0, 0) NZ.out
          have y4' := cell_of_row wz wa.heap.size 4 _ 44 (0, 0) NZ.out
          have y5' := cell_of_row wz wa.heap.size 5 _ 44 (0, 0) NZ.out
          have y6' := cell_of_row wz wa.heap.size 6 _ 44 (0, 0) NZ.out
          have y7' := cell_of_row wz wa.heap.size 7 _ 44 (0, 0) NZ.out
          have y8' := cell_of_row wz wa.heap.size 8 _ 44 (0, 0) NZ.out
          have y9' := cell_of_row wz wa.heap.size 9 _ 44 (0, 0) NZ.out
          have y10' := cell_of_row wz wa.heap.size 10 _ 44 (0, 0) NZ.out
          have y11' := cell_of_row wz wa.heap.size 11 _ 44 (0, 0) NZ.out
          have y12' := cell_of_row wz wa.heap.size 12 _ 44 (0, 0) NZ.out
          have y13' := cell_of_row wz wa.heap.size 13 _ 44 (0, 0) NZ.out
          go_wp2_with (at_builtin; go_must (refine wpList_plain rfl (fun K9 hK9 => gl_push _ _ 27 44 14 192 _ rfl Tryd.underlying27 info44 rfl (by decide) (by decide) 0 (.slice p8 (ss.length + j) c8) (ss.length + j) (PS (ss ++ us)) (PS ((ss ++ us) ++ [shW (ss.length : Int) ⟨kk, rf, ru, sb, .mk opa wda vla nma tsa, .mk opb wdb vlb nmb tsb⟩])) (PS.mono (ss ++ us)) (PS.mono _) (fun D w k cs hk h => PS.snoc (ss ++ us) _ D w k cs (by rw [TL.out]; exact hk) h) rfl (GB.out _ KS.out) #[.int .i64 kk, .slice pv rf.length cv, .int .i64 ru, .slice p2 sb.length c2, .int .i64 opa, .int .i64 wda, .int .u64 vla, .string nma, .slice p3 tsa.length c3, .int .i64 opb, .int .i64 wdb, .int .u64 vlb, .string nmb, .slice p4 tsb.length c4] rfl ONE.out rfl (Nat.zero_le _) HSM.out PN.out (fun g9 cap9 w9 hg9 hs9 => hK9 _ _ ?_))))
          have G9 := Lib.hid hg9
          have K9' := Lib.hid (show BK w w9 from Step.bk_new (bk_tr KB.out KS.out) hs9 (fun i hi => OW.out i hi))
          have OG := Lib.hid (show ∀ g, (Value.slice (some ⟨g9, 0, none⟩) (ss.length + j + 1) cap9).ownBlock = some g → w.heap.size ≤ g from fun g hg => by
            obtain rfl : g9 = g := by simpa [Value.ownBlock] using hg
            rcases hs9.sub g9 rfl with q | q
            · exact OW.out _ q
            · rw [SS.out] at q; have := S7.out; have := LW.out; have := SX.out; omega)
          clear hg9 hs9
          go_wp2_with fail
          go_roundw
          case rel => exact ⟨j + 1, by have := JLT.out; omega, by go_num, by rw [TK2.out]; exact G9.out, OG.out, K9'.out⟩
          case measure => have := JLT.out; simp [intOf]; omega
        · have hlt2 : k < rf.length := by omega
          have hd2 : decide (k < rf.length) = true := by simpa using hlt2
          have hki : (k : Int) < (rf.length : Int) := by omega
          have ek : IntKind.i64.wrap ((k : Int) + 1) = (k : Int) + 1 := by have := OKR.out; exact IntWalk.i64_in _ (by omega)
          have HLT := Lib.hid hlt2
          obtain ⟨b2, o2, rfl, -, y0⟩ := (RF.out.bk K7.out (Nat.le_refl _)).get hlt2
          have AC2 := Lib.hid (show acc ++ [wrap64 (rf[k] + (ss.length : Int))] = (rf.take (k + 1)).map (fun r => wrap64 (r + (ss.length : Int))) from by rw [AC.out, List.take_add_one, List.getElem?_eq_getElem hlt2, List.map_append]; rfl)
          have AL := Lib.hid (show acc.length ≤ 100000 from by rw [AC.out, List.length_map, List.length_take]; have := OKR.out; omega)
          clear e
          generalize rf[k] = r at *
          go_wp2_with (at_builtin; go_must (refine wpList_pushI rfl _ _ rfl w7.heap.size _ acc rfl LL.out (wrap64 (r + (ss.length : Int))) rfl ?hlo ?hsm ?_))
          case hlo => exact bk_size K7.out
          case hsm => have := AL.out; omega
          intro g4 cap4 w5 hl5 hs5
          have K5 := Lib.hid (Step.bk_new K7.out hs5 (fun j hj => (LL.out.lt _ hj).1))
          have L5 := Lib.hid (show LI w7.heap.size w5 (.slice (some ⟨g4, 0, none⟩) (acc.length + 1) cap4) (acc ++ [wrap64 (r + (ss.length : Int))]) from hl5)
          clear hl5 hs5
          go_wp2_with fail
          go_roundw
          case rel => exact ⟨k + 1, acc ++ [wrap64 (r + (ss.length : Int))], by have := HLT.out; omega, by go_num, AC2.out, L5.out, K5.out⟩
          case measure => have := HLT.out; simp [intOf]; omega
end Go.Proofs.YtnlpiaejfmdckaaDoor
