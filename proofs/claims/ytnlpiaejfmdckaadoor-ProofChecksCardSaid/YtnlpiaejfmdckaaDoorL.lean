/- shifted, copyAll. -/
import Derived.Test.YtnlpiaejfmdckaaDoorKB
namespace Go.Proofs.YtnlpiaejfmdckaaDoor
open Go.RowKit
set_option linter.unusedVariables false
set_option linter.unusedSimpArgs false
theorem one_cS (s : S) (q : Pt) : ∀ u ∈ (cS s q).toList, u.oneCell' = true := by
  intro x hx
  simp [cS] at hx
  rcases hx with rfl | rfl | rfl | rfl | rfl | rfl | rfl | rfl | rfl | rfl | rfl | rfl | rfl | rfl <;> rfl
set_option maxHeartbeats 1000000 in
theorem shift63 (r d : Int) (cb : Nat) (w : World) (hi : w.cell? ⟨cb, 0, none⟩ = some (.int .i64 d)) (hb : -9223372036854775808 ≤ r + d ∧ r + d ≤ 9223372036854775807) : Calls Tryd.prog 63 #[.int .i64 r, .pointer (some ⟨cb, 0, none⟩)] w fun e w' => e = .returned (.int .i64 (r + d)) ∧ w = w' := by
  have ei : IntKind.i64.wrap (r + d) = r + d := IntWalk.i64_in _ hb
  go_enter Tryd.func63, Tryd.ntmps63
  go_wp2_with fail
  go_ret
  exact ⟨rfl, rfl⟩
def shS (d : Int) (s : S) : S := sMap s (fun r => r + d)
/-- what is left: a list of steps -/
def SL (w : World) (ss : List S) (e : Ending) (w' : World) : Prop := (∃ q d, e = .returned (.slice q ss.length d) ∧ RowS (mem w.heap.size w') w' q d ss) ∧ BK w w'
def inR (r d : Int) : Prop := -9223372036854775808 ≤ r + d ∧ r + d ≤ 9223372036854775807
set_option maxRecDepth 100000 in
set_option maxHeartbeats 8000000 in
theorem shifted49 (ss : List S) (d : Int) (hl : ss.length ≤ 100000) (hok : ∀ s ∈ ss, okQ s ∧ ∀ r ∈ s.rf, inR r d) (w : World) (p : Option Addr) (c : Nat) (hp : RowS (mem 0 w) w p c ss) : Calls Tryd.prog 49 #[.slice p ss.length c, .int .i64 d] w (SL w (ss.map (shS d))) := by
  have KA := Lib.hid (bk_alloc (BK.refl w) (.cells #[.int .i64 d] 3))
  have NA := Lib.hid (heap_alloc_new w (.cells #[.int .i64 d] 3))
  have HP := Lib.hid (hp.bk KA.out (Nat.le_refl _))
  have OK := Lib.hid hok
  have HL := Lib.hid hl
  have SZ := Lib.hid (sz1 w (.cells #[.int .i64 d] 3))
  clear hp hok hl
  unfold SL
  rw [List.length_map]
  go_enter Tryd.func49, Tryd.ntmps49
  go_wp2_with fail
  generalize w.alloc (.cells #[.int .i64 d] 3) = w1 at *
  go_loopw [10, 5] (fun iv xv wr => ∃ j : Nat, j ≤ ss.length ∧ iv = .int .i64 (j : Int) ∧ GL w1.heap.size 44 14 wr xv j (PS ((ss.take j).map (shS d))) ∧ BK w1 wr) (fun iv _ _ => ss.length - (intOf iv).toNat)
  case atStart => exact ⟨0, Nat.zero_le _, rfl, GL.nil _ _ _ _ _, BK.refl _⟩
  case round =>
    obtain ⟨j, hj, rfl, hgl, hb⟩ := hrel
    have GG := Lib.hid hgl
    have KB := Lib.hid hb
    clear hgl hb
    by_cases e : j = ss.length
    · have hd : decide (j < ss.length) = false := by simp [e]
      have G2 := GG.out
      rw [List.take_of_length_le (by omega)] at G2
      obtain ⟨p8, c8, rfl⟩ := G2.shape
      have RS := Lib.hid (show RowS (mem w1.heap.size wr) wr p8 c8 (ss.map (shS d)) from gl_rowS (by rw [List.length_map, ← e]; exact G2))
      clear G2 GG
      subst e
      go_wp2_with fail
      go_ret
      exact ⟨⟨p8, c8, rfl, RS.out.keep (fun i hi => ⟨rfl, by have := hi.1; have := SZ.out; omega, hi.2⟩)⟩, bk_tr KA.out KB.out⟩
    · have hlt : j < ss.length := by omega
      have hd : decide (j < ss.length) = true := by simpa using hlt
      obtain ⟨b, o, q, rfl, -, hc, hps⟩ := (HP.out.bk KB.out (Nat.le_refl _)).get hlt
      obtain ⟨z0, z1, z2, z3, z4, z5, z6, z7, z8, z9, z10, z11, z12, z13⟩ := hc.all
      have OKS := Lib.hid (OK.out _ (List.getElem_mem hlt))
      have KX := Lib.hid (bk_alloc (BK.refl wr) (.cells (cS ss[j] q) 44))
      have TK := Lib.hid (show (ss.take (j + 1)).map (shS d) = (ss.take j).map (shS d) ++ [shS d ss[j]] from by rw [List.take_succ_eq_append_getElem hlt, List.map_append]; rfl)
      have TL := Lib.hid (show ((ss.take j).map (shS d)).length = j from by simp; omega)
      have CC := Lib.hid (with46_s ss[j] q (fun r => r + d) w.heap.size (wr.alloc (.cells (cS ss[j] q) 44)) OKS.out.1 (hps.bk KX.out (Nat.le_refl _)) (fun r hr wc hb => shift63 r d w.heap.size wc (cell_of_row wc w.heap.size 0 _ 3 (0, 0) ((bk_block (bk_tr KB.out (bk_tr KX.out hb)) (Array.getElem?_eq_some_iff.1 NA.out).1).trans NA.out)) (OKS.out.2 r hr)))
      have ej : IntKind.i64.wrap ((j : Int) + 1) = (j : Int) + 1 := by have := HL.out; exact IntWalk.i64_in _ (by omega)
      have hji : (j : Int) < (ss.length : Int) := by omega
      have JLT := Lib.hid hlt
      have LW := Lib.hid (show w1.heap.size ≤ wr.heap.size from bk_size KB.out)
      have GB := Lib.hid (fun wc (hb : BK wr wc) => GG.out.bk (PS.mono ((ss.take j).map (shS d))) hb)
      have GLT := Lib.hid GG.out.lt
      obtain ⟨p8, c8, rfl⟩ := GG.out.shape
      clear hps hc e GG
      rw [cS_eq] at KX CC
      unfold WR at CC
      change Hid (Calls _ _ _ _ (fun e w' => (∃ q_1, e = .returned (.agg (cS (shS d ss[j]) q_1)) ∧ Ps (mem _ w') w' (shS d ss[j]) q_1) ∧ BK _ w')) at CC
      generalize (ss.take j).map (shS d) = zs at *
      generalize shS d ss[j] = s' at *
      generalize ss[j] = s at *
      go_wp2_with fail
      refine CC.out.mono ?_
      rintro e w6 ⟨⟨q6, rfl, hr6⟩, hb6⟩
      have R6 := Lib.hid hr6
      have K6 := Lib.hid (bk_tr KX.out hb6)
      have S6 := Lib.hid (Nat.le_trans (bk_size KX.out) (bk_size hb6))
      have SX := Lib.hid (bk_size KX.out)
      clear hr6 hb6 z0 z1 z2 z3 z4 z5 z6 z7 z8 z9 z10 z11 z12 z13
      rw [cS_eq]
      have PN := Lib.hid (show PS (zs ++ [s']) (memO w1.heap.size w6 (.slice p8 j c8)) w6 j #[.int .i64 s'.k, .slice q6.p1 s'.rf.length q6.c1, .int .i64 s'.ru, .slice q6.p2 s'.sb.length q6.c2, .int .i64 s'.a.op, .int .i64 s'.a.wd, .int .u64 s'.a.vl, .string s'.a.nm, .slice q6.p3 s'.a.ts.length q6.c3, .int .i64 s'.b.op, .int .i64 s'.b.wd, .int .u64 s'.b.vl, .string s'.b.nm, .slice q6.p4 s'.b.ts.length q6.c4] from ⟨s', q6, by rw [List.getElem?_append_right (by rw [TL.out]; exact Nat.le_refl _), TL.out, Nat.sub_self]; rfl, rfl, R6.out.keep (fun i hi => ⟨rfl, by have := hi.1; have := LW.out; have := SX.out; omega, hi.2, fun e => by have h0 := (GLT.out i e).2; have := hi.1; have := SX.out; omega⟩)⟩)
      have ONE := Lib.hid (one_cS s' q6)
      rw [cS_eq] at ONE
      have HLO := Lib.hid (show w1.heap.size ≤ w6.heap.size from Nat.le_trans LW.out S6.out)
      have HSM := Lib.hid (show j ≤ 200000 from by have := HL.out; have := JLT.out; omega)
      go_wp2_with (at_builtin; go_must (refine wpList_plain rfl (fun K9 hK9 => gl_push _ _ 27 44 14 192 _ rfl Tryd.underlying27 info44 rfl (by decide) (by decide) w1.heap.size (.slice p8 j c8) j (PS zs) (PS (zs ++ [s'])) (PS.mono zs) (PS.mono _) (fun D w k cs hk h => PS.snoc zs s' D w k cs (by rw [TL.out]; exact hk) h) rfl (GB.out _ K6.out) #[.int .i64 s'.k, .slice q6.p1 s'.rf.length q6.c1, .int .i64 s'.ru, .slice q6.p2 s'.sb.length q6.c2, .int .i64 s'.a.op, .int .i64 s'.a.wd, .int .u64 s'.a.vl, .string s'.a.nm, .slice q6.p3 s'.a.ts.length q6.c3, .int .i64 s'.b.op, .int .i64 s'.b.wd, .int .u64 s'.b.vl, .string s'.b.nm, .slice q6.p4 s'.b.ts.length q6.c4] rfl ONE.out rfl HLO.out HSM.out PN.out (fun g9 cap9 w9 hg9 hs9 => hK9 _ _ ?_))))
      have G9 := Lib.hid hg9
      have K9' := Lib.hid (show BK w1 w9 from Step.bk_new (bk_tr KB.out K6.out) hs9 (fun i hi => (GLT.out i hi).1))
      clear hg9 hs9
      go_wp2_with fail
      go_roundw
      case rel => exact ⟨j + 1, by have := JLT.out; omega, by go_num, by rw [TK.out]; exact G9.out, K9'.out⟩
      case measure => have := JLT.out; simp [intOf]; omega
set_option maxRecDepth 100000 in
set_option maxHeartbeats 4000000 in
theorem copyall45 (ss : List S) (hl : ss.length ≤ 100000) (hok : ∀ s ∈ ss, okQ s ∧ ∀ r ∈ s.rf, inR r 0) (w : World) (p : Option Addr) (c : Nat) (hp : RowS (mem 0 w) w p c ss) : Calls Tryd.prog 45 #[.slice p ss.length c] w (SL w (ss.map (shS 0))) := by
  have CC := Lib.hid (shifted49 ss 0 hl hok w p c hp)
  unfold SL at *
  clear hp hok hl
  generalize ss.map (shS 0) = zs at *
  go_enter Tryd.func45, Tryd.ntmps45
  go_wp2_with fail
  refine CC.out.mono ?_
  rintro e w2 ⟨⟨q, d, rfl, hr⟩, hb⟩
  have R2 := Lib.hid hr
  have K2 := Lib.hid hb
  clear hr hb
  go_wp2_with fail
  go_ret
  exact ⟨⟨q, d, rfl, R2.out⟩, K2.out⟩
end Go.Proofs.YtnlpiaejfmdckaaDoor
