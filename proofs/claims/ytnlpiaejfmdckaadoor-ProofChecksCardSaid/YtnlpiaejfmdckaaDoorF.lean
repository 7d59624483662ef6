/- Depth. -/
import Derived.Test.YtnlpiaejfmdckaaDoorE
namespace Go.Proofs.YtnlpiaejfmdckaaDoor
open Go.RowKit
set_option linter.unusedVariables false
set_option linter.unusedSimpArgs false
theorem memG_step {w w' : World} {g : Nat} (hs : Step w w' (oneF g) (oneF g)) : ∀ k, memX 0 g w k → w'.heap[k]? = w.heap[k]? ∧ memX 0 g w' k :=
  fun k hk => ⟨hs.block k hk.2.1 (fun e => hk.2.2 e), Nat.zero_le _, Nat.lt_of_lt_of_le hk.2.1 hs.size, hk.2.2⟩
theorem to_memX {w w' : World} {g : Nat} (hb : BK w w') (hg : w.heap.size ≤ g) : ∀ k, mem 0 w k → w'.heap[k]? = w.heap[k]? ∧ memX 0 g w' k :=
  fun k hk => ⟨bk_block hb hk.2, Nat.zero_le _, Nat.lt_of_lt_of_le hk.2 (bk_size hb), by have := hk.2; omega⟩
theorem bk_stepG {w0 w w' : World} {g : Nat} (h : BK w0 w) (s : Step w w' (oneF g) (oneF g)) (hg : w0.heap.size ≤ g) : BK w0 w' := Step.bk_new h s (fun k hk => by have hk : k = g := hk; omega)
set_option maxRecDepth 100000 in
set_option maxHeartbeats 8000000 in
theorem depth21 (ss : List S) (hok : ∀ s ∈ ss, okS s) (w : World) (p : Option Addr) (c : Nat) (ht : Tb w) (hp : RowS (mem 0 w) w p c ss) : Calls Tryd.prog 21 #[.slice p ss.length c] w fun e w' => e = .returned (.int .i64 (dpt ss)) ∧ BK w w' := by
  have C39 := Lib.hid (valid39 ss hok w p c ht hp)
  have DP := Lib.hid (show dpt ss = if vld ss = true then (dps [] ss).getD (ss.length - 1) 0 else 0 from rfl)
  have VO := Lib.hid (fun h => vld_ok (ss := ss) h)
  have DL := Lib.hid (dps_len ss [])
  have HP := Lib.hid hp
  have OKH := Lib.hid hok
  clear ht hp hok
  generalize dpt ss = r at *
  generalize hv : vld ss = v at *
  clear hv
  cases v with
  | false =>
    have DP2 := DP.out
    rw [if_neg (by decide)] at DP2
    subst DP2
    go_enter Tryd.func21, Tryd.ntmps21
    go_wp2_with fail
    refine C39.out.mono ?_
    rintro e w2 ⟨rfl, hb2⟩
    have K2 := Lib.hid hb2
    clear hb2
    go_wp2_with fail
    go_ret
    exact ⟨rfl, K2.out⟩
  | true =>
    obtain ⟨v1, v2, v3⟩ := VO.out rfl
    have WL := Lib.hid v3
    have HN := Lib.hid (And.intro v1 v2)
    have MK := Lib.hid (fun w => make34 ss.length (by omega) w)
    have DP2 := DP.out
    rw [if_pos rfl] at DP2
    have DPP := Lib.hid DP2
    clear v3 DP2 DP VO v1 v2
    generalize hf : dps [] ss = FULL at *
    have HF := Lib.hid hf
    clear hf
    go_enter Tryd.func21, Tryd.ntmps21
    go_wp2_with fail
    refine C39.out.mono ?_
    rintro e w2 ⟨rfl, hb2⟩
    have K2 := Lib.hid hb2
    clear hb2 C39
    go_wp2_with fail
    rw [MK.out w2]
    simp only [Result.andThen]
    try rw [Oper.upon_value]
    generalize hg : w2.heap.size = g
    have GG := Lib.hid hg
    have K3 := Lib.hid (bk_alloc (BK.refl w2) (.cells (ia (List.replicate ss.length 0)) 3))
    have I3 := Lib.hid (show Ir (w2.alloc (.cells (ia (List.replicate ss.length 0)) 3)) g ([] ++ List.replicate (ss.length - 0) 0) from by rw [← hg]; exact heap_alloc_new w2 _)
    generalize w2.alloc (.cells (ia (List.replicate ss.length 0)) 3) = w3 at *
    clear hg MK
    go_wp2_with fail
    go_loopw [17] (fun iv wr => ∃ (k : Nat) (acc : List Int), k ≤ ss.length ∧ iv = .int .i64 (k : Int) ∧ acc.length = k ∧ (∀ z ∈ acc, 0 ≤ z ∧ z ≤ (k : Int)) ∧ dps acc (ss.drop k) = FULL ∧ Ir wr g (acc ++ List.replicate (ss.length - k) 0) ∧ Step w3 wr (oneF g) (oneF g)) (fun iv _ => ss.length - (intOf iv).toNat)
    case atStart => exact ⟨0, [], Nat.zero_le _, rfl, rfl, fun z hz => by simp at hz, HF.out, I3.out, Step.refl _ _⟩
    case round =>
      obtain ⟨k, acc, hk, rfl, hal, hbd, heq, hir, hst⟩ := hrel
      have AL := Lib.hid hal
      have BD := Lib.hid hbd
      have EQ := Lib.hid heq
      have IR := Lib.hid hir
      have ST := Lib.hid hst
      clear hal hbd heq hir hst
      by_cases e : k = ss.length
      · have hd : decide (k < ss.length) = false := by simp [e]
        have EQ2 := EQ.out
        rw [List.drop_of_length_le (by omega)] at EQ2
        have EQ3 : acc = FULL := EQ2
        subst EQ3
        have hlt : ss.length - 1 < (acc ++ List.replicate (ss.length - k) 0).length := by have := AL.out; have := HN.out; simp; omega
        have x0 := IR.out.c hlt
        have hr : (acc ++ List.replicate (ss.length - k) 0)[ss.length - 1] = r := by
          rw [rep_get acc _ _ (by have := AL.out; have := HN.out; omega)]
          exact DPP.out.symm
        rw [hr] at x0
        have ek : IntKind.i64.wrap ((ss.length : Int) - 1) = ((ss.length - 1 : Nat) : Int) := by have := HN.out; rw [IntWalk.i64_in _ (by omega)]; omega
        have ek2 : (ss.length : Int) - 1 = ((ss.length - 1 : Nat) : Int) := by have := HN.out; omega
        have ek3 : wrap64 ((ss.length - 1 : Nat) : Int) = ((ss.length - 1 : Nat) : Int) := by have := HN.out; unfold wrap64; omega
        have hki : ((ss.length - 1 : Nat) : Int) < (ss.length : Int) := by have := HN.out; omega
        subst e
        clear hr hlt
        go_wp2_with fail
        go_ret
        exact ⟨rfl, bk_stepG (bk_tr K2.out K3.out) ST.out (by have := bk_size K2.out; have := GG.out; omega)⟩
      · have hlt : k < ss.length := by omega
        have hd : decide (k < ss.length) = true := by simpa using hlt
        obtain ⟨b, o, q, rfl, -, hc, hps⟩ := ((HP.out.keep (to_memX (bk_tr K2.out K3.out) (g := g) (by have := bk_size K2.out; have := GG.out; omega))).keep (memG_step ST.out)).get hlt
        have EQ2 := EQ.out
        rw [List.drop_eq_getElem_cons hlt, dps_cons] at EQ2
        have WM := Lib.hid (well_mem (WL.out k hlt))
        have KX := Lib.hid (bk_alloc (BK.refl wr) (.cells (cS ss[k] q) 44))
        have NX := Lib.hid (heap_alloc_new wr (.cells (cS ss[k] q) 44))
        have RX := Lib.hid (hps.rf.keep (memX_bk KX.out))
        have IX := Lib.hid (IR.out.bk KX.out)
        obtain ⟨z0, z1, z2, z3, z4, z5, z6, z7, z8, z9, z10, z11, z12, z13⟩ := hc.all
        have EQ3 := Lib.hid EQ2
        have ei : IntKind.i64.wrap ((k : Int) + 1) = (k : Int) + 1 := by have := HN.out; exact IntWalk.i64_in _ (by omega)
        have hki : (k : Int) < (ss.length : Int) := by omega
        have HLT := Lib.hid hlt
        have OKS := Lib.hid (show ss[k].rf.length ≤ 9223372036854775807 from OKH.out _ (List.getElem_mem hlt))
        clear hps hc e EQ2
        rw [cS_eq] at KX NX RX IX
        generalize ss[k] = s at *
        go_wp2_with fail
        generalize wr.alloc (.cells #[.int .i64 s.k, .slice q.p1 s.rf.length q.c1, .int .i64 s.ru, .slice q.p2 s.sb.length q.c2, .int .i64 s.a.op, .int .i64 s.a.wd, .int .u64 s.a.vl, .string s.a.nm, .slice q.p3 s.a.ts.length q.c3, .int .i64 s.b.op, .int .i64 s.b.wd, .int .u64 s.b.vl, .string s.b.nm, .slice q.p4 s.b.ts.length q.c4] 44) = wx at *
        clear z0 z1 z2 z3 z4 z5 z6 z7 z8 z9 z10 z11 z12 z13
        obtain ⟨wa, hwa⟩ : ∃ x, x = wr := ⟨_, rfl⟩
        subst hwa
        generalize hD : dpR acc 0 s.rf = D at *
        have HD := Lib.hid hD
        have DB := Lib.hid (show 0 ≤ D ∧ D ≤ (k : Int) from by rw [← hD]; exact dpR_bd BD.out s.rf 0 (Int.le_refl _) (by omega))
        clear hD
        go_loopw [25, 6] (fun jv mv wr => ∃ (j : Nat) (m : Int), j ≤ s.rf.length ∧ jv = .int .i64 (j : Int) ∧ mv = .int .i64 m ∧ 0 ≤ m ∧ dpR acc m (s.rf.drop j) = D ∧ wx = wr) (fun jv _ _ => s.rf.length - (intOf jv).toNat)
        case atStart => exact ⟨0, 0, Nat.zero_le _, rfl, rfl, Int.le_refl _, HD.out, rfl⟩
        case round =>
          obtain ⟨j, m, hj, rfl, rfl, hm0, hdr, rfl⟩ := hrel
          have DR := Lib.hid hdr
          have M0 := Lib.hid hm0
          clear hdr hm0
          by_cases e : j = s.rf.length
          · have hd2 : decide (j < s.rf.length) = false := by simp [e]
            have DR2 := DR.out
            rw [List.drop_of_length_le (by omega)] at DR2
            have DR3 : m = D := DR2
            subst DR3
            subst e
            have c0 := IX.out.c (k := k) (by have := AL.out; have := HLT.out; simp; omega)
            have f0 := IX.out.f k
            have em : IntKind.i64.wrap (m + 1) = m + 1 := by have := DB.out; have := HN.out; have := HLT.out; exact IntWalk.i64_in _ (by omega)
            have IZ := Lib.hid (show Ir (wx.setCell ⟨g, k, none⟩ (.int .i64 (m + 1))) g ((acc ++ [m + 1]) ++ List.replicate (ss.length - (k + 1)) 0) from by
              have h1 := IX.out.set k (m + 1)
              have h2 := rep_set acc (ss.length - (k + 1)) (m + 1)
              rw [show ss.length - (k + 1) + 1 = ss.length - k by have := HLT.out; omega, AL.out] at h2
              rwa [h2] at h1)
            have SZ := Lib.hid (show Step w3 (wx.setCell ⟨g, k, none⟩ (.int .i64 (m + 1))) (oneF g) (oneF g) from (ST.out.trans (Step.bk KX.out)).trans (step_set k _))
            clear DR2
            go_wp2_with fail
            go_roundw
            case rel => exact ⟨k + 1, acc ++ [m + 1], by have := HLT.out; omega, by go_num, by simp [AL.out], fun z hz => by
              rcases List.mem_append.1 hz with h | h
              · have := BD.out z h; omega
              · rw [List.mem_singleton.1 h]; have := DB.out; omega, EQ3.out, IZ.out, SZ.out⟩
            case measure => have := HLT.out; simp [intOf]; omega
          · have hjl : j < s.rf.length := by omega
            have hd2 : decide (j < s.rf.length) = true := by simpa using hjl
            obtain ⟨b2, o2, hp1, -, y0⟩ := RX.out.get hjl
            have DR2 := DR.out
            rw [List.drop_eq_getElem_cons hjl, dpR_cons] at DR2
            have hw := WM.out _ (List.getElem_mem hjl)
            obtain ⟨rn, hrn, hrk⟩ : ∃ rn : Nat, s.rf[j] = (rn : Int) ∧ rn < k := ⟨s.rf[j].toNat, by omega, by omega⟩
            rw [hrn] at y0 DR2
            rw [Int.toNat_natCast] at DR2
            have c0 := IX.out.c (k := rn) (by have := AL.out; have := HLT.out; simp; omega)
            rw [rep_get acc _ _ (by have := AL.out; omega)] at c0
            have DR3 := Lib.hid DR2
            have ej : IntKind.i64.wrap ((j : Int) + 1) = (j : Int) + 1 := by have := OKS.out; exact IntWalk.i64_in _ (by omega)
            have hji : (j : Int) < (s.rf.length : Int) := by omega
            have hrl : (rn : Int) < (ss.length : Int) := by have := HLT.out; omega
            have JLT := Lib.hid hjl
            clear e hw hrn hrk DR2
            generalize acc.getD rn 0 = dv at *
            go_wp2_with fail
            all_goals
              go_roundw
              case rel => exact ⟨j + 1, max m dv, by have := JLT.out; omega, by go_num, by first | rfl | (congr 1; omega), by have := M0.out; omega, DR3.out, by first | rfl | trivial⟩
              case measure => have := JLT.out; simp [intOf]; omega
end Go.Proofs.YtnlpiaejfmdckaaDoor
