/- Trim. -/
import Derived.Test.YtnlpiaejfmdckaaDoorL
namespace Go.Proofs.YtnlpiaejfmdckaaDoor
open Go.RowKit
set_option linter.unusedVariables false
set_option linter.unusedSimpArgs false
theorem GL.step {lo e sz n g : Nat} {w w' : World} {v : Value} {P : EP} (h : GL lo e sz w v n P) (hP : Mono P) (s : Step w w' (oneF g) (oneF g)) (hg : g < lo) : GL lo e sz w' v n P := by
  obtain ⟨xs, h1, h2⟩ := h.own
  have ne : ∀ i, lo ≤ i → ¬ oneF g i := fun i hi e => by have e : i = g := e; omega
  refine ⟨xs, own_at h1 fun k hk => s.block k (h1.lt k hk).2 (ne k (h1.lt k hk).1), fun k hk => ?_⟩
  obtain ⟨cs, h3, h4, h5⟩ := h2 k hk
  exact ⟨cs, h3, h4, hP _ _ _ _ _ _ (fun i hi => ⟨s.block i hi.2.1 (ne i hi.1), hi.1, Nat.lt_of_lt_of_le hi.2.1 s.size, hi.2.2⟩) h5⟩
set_option maxHeartbeats 1000000 in
theorem place47 (rn : Nat) (g cb n c : Nat) (pa : List Int) (w : World) (hi : w.cell? ⟨cb, 0, none⟩ = some (.slice (some ⟨g, 0, none⟩) n c)) (hg : Ir w g pa) (hr : rn < pa.length) (hn : pa.length = n) : Calls Tryd.prog 47 #[.int .i64 (rn : Int), .pointer (some ⟨cb, 0, none⟩)] w fun e w' => e = .returned (.int .i64 (pa.getD rn 0)) ∧ w = w' := by
  have c0 := hg.c hr
  have hrn : (rn : Int) < (n : Int) := by omega
  rw [List.getD_eq_getElem?_getD, List.getElem?_eq_getElem hr, Option.getD_some]
  clear hg
  generalize pa[rn] = z at *
  go_enter Tryd.func47, Tryd.ntmps47
  go_wp2_with fail
  go_ret
  exact ⟨rfl, rfl⟩
/-! what is needed lies in the proof -/
theorem ndP_bd (ss : List S) : ∀ (k : Nat) (nb : List Bool) (acc : List Int), (∀ a ∈ acc, 0 ≤ a ∧ a < (ss.length : Int)) → k ≤ ss.length → ∀ a ∈ ndP ss k nb acc, 0 ≤ a ∧ a < (ss.length : Int)
  | 0, nb, acc, h, _ => h
  | k + 1, nb, acc, h, hk => by
    rw [ndP_succ]
    split
    · refine ndP_bd ss k _ _ (fun a ha => ?_) (by omega)
      rcases List.mem_append.1 ha with h1 | h1
      · exact h a h1
      · rw [List.mem_singleton.1 h1]; omega
    · exact ndP_bd ss k _ _ h (by omega)
theorem ndd_bd {ss : List S} : ∀ a ∈ ndd ss, 0 ≤ a ∧ a < (ss.length : Int) := by
  intro a ha
  unfold ndd at ha
  split at ha
  · exact ndP_bd ss _ _ _ (fun a h => by simp at h) (Nat.le_refl _) a (List.mem_reverse.1 ha)
  · simp at ha
theorem ndP_len (ss : List S) : ∀ (k : Nat) (nb : List Bool) (acc : List Int), (ndP ss k nb acc).length ≤ acc.length + k
  | 0, nb, acc => Nat.le_refl _
  | k + 1, nb, acc => by
    rw [ndP_succ]
    split
    · have := ndP_len ss k (mkB nb (rfs ss k)) (acc ++ [(k : Int)])
      simp at this
      omega
    · have := ndP_len ss k nb acc
      omega
theorem ndd_len (ss : List S) : (ndd ss).length ≤ ss.length := by
  unfold ndd
  split
  · rw [List.length_reverse]
    have := ndP_len ss ss.length ((List.replicate ss.length false).set (ss.length - 1) true) []
    simpa using this
  · simp
def s0 : S := ⟨0, [], 0, [], .mk 0 0 0 ⟨#[]⟩ [], .mk 0 0 0 ⟨#[]⟩ []⟩
def trP (ss : List S) : List Int → List Int → List S → List S
  | [], pa, acc => acc
  | a :: l, pa, acc => trP ss l (pa.set a.toNat (acc.length : Int)) (acc ++ [sMap (ss.getD a.toNat s0) (fun r => (pa.set a.toNat (acc.length : Int)).getD r.toNat 0)])
theorem trP_cons (ss : List S) (a : Int) (l pa : List Int) (acc : List S) : trP ss (a :: l) pa acc = trP ss l (pa.set a.toNat (acc.length : Int)) (acc ++ [sMap (ss.getD a.toNat s0) (fun r => (pa.set a.toNat (acc.length : Int)).getD r.toNat 0)]) := rfl
def trm (ss : List S) : List S := if vld ss = true then trP ss (ndd ss) (List.replicate ss.length 0) [] else ss.map (shS 0)
theorem okQ_S {s : S} (h : okQ s) : okS s := Nat.le_trans h.1 (by decide)
set_option maxRecDepth 100000 in
set_option maxHeartbeats 8000000 in
theorem trim27 (ss : List S) (hl : ss.length ≤ 100000) (hok : ∀ s ∈ ss, okQ s ∧ ∀ r ∈ s.rf, inR r 0) (w : World) (p : Option Addr) (c : Nat) (ht : Tb w) (hp : RowS (mem 0 w) w p c ss) : Calls Tryd.prog 27 #[.slice p ss.length c] w (SL w (trm ss)) := by
  have hoS : ∀ s ∈ ss, okS s := fun s hs => okQ_S (hok s hs).1
  have C39 := Lib.hid (valid39 ss hoS w p c ht hp)
  have C45 := Lib.hid (fun wc (hb : BK w wc) => copyall45 ss hl hok wc p c (hp.bk hb (Nat.le_refl _)))
  have C25 := Lib.hid (fun wc (hb : BK w wc) => needed25 ss hoS wc p c (ht.bk hb) (hp.bk hb (Nat.le_refl _)))
  have DP := Lib.hid (show trm ss = if vld ss = true then trP ss (ndd ss) (List.replicate ss.length 0) [] else ss.map (shS 0) from rfl)
  have VO := Lib.hid (fun h => vld_ok (ss := ss) h)
  have HP := Lib.hid hp
  have OKH := Lib.hid hok
  have NBD := Lib.hid (ndd_bd (ss := ss))
  have NLN := Lib.hid (ndd_len ss)
  clear ht hp hok hoS hl
  unfold SL at *
  generalize trm ss = r at *
  generalize hv : vld ss = v at *
  clear hv
  cases v with
  | false =>
    have DP2 := DP.out
    rw [if_neg (by decide)] at DP2
    subst DP2
    generalize ss.map (shS 0) = zs at *
    go_enter Tryd.func27, Tryd.ntmps27
    go_wp2_with fail
    refine C39.out.mono ?_
    rintro e w2 ⟨rfl, hb2⟩
    have K2 := Lib.hid hb2
    have D45 := Lib.hid (C45.out w2 hb2)
    clear hb2
    go_wp2_with fail
    refine D45.out.mono ?_
    rintro e w3 ⟨⟨q, d, rfl, hr⟩, hb⟩
    have R3 := Lib.hid hr
    have K3 := Lib.hid hb
    have S2 := Lib.hid (bk_size K2.out)
    clear hr hb
    go_wp2_with fail
    go_ret
    exact ⟨⟨q, d, rfl, R3.out.keep (fun i hi => ⟨rfl, by have := hi.1; have := S2.out; omega, hi.2⟩)⟩, bk_tr K2.out K3.out⟩
  | true =>
    obtain ⟨v1, v2, v3⟩ := VO.out rfl
    have WL := Lib.hid v3
    have HN := Lib.hid (And.intro v1 v2)
    have MK := Lib.hid (fun w => make34 ss.length (by omega) w)
    have DP2 := DP.out
    rw [if_pos rfl] at DP2
    have DPP := Lib.hid DP2
    clear v3 DP2 DP VO v1 v2 C45
    generalize ndd ss = L at *
    go_enter Tryd.func27, Tryd.ntmps27
    go_wp2_with fail
    refine C39.out.mono ?_
    rintro e w2 ⟨rfl, hb2⟩
    have K2 := Lib.hid hb2
    clear hb2 C39
    go_wp2_with fail
    rw [MK.out w2]
    simp only [Result.andThen]
    try rw [Oper.upon_value]
    have K3 := Lib.hid (bk_alloc (BK.refl w2) (.cells (ia (List.replicate ss.length 0)) 3))
    have I3 := Lib.hid (show Ir (w2.alloc (.cells (ia (List.replicate ss.length 0)) 3)) w2.heap.size (List.replicate ss.length 0) from heap_alloc_new w2 _)
    have S3 := Lib.hid (sz1 w2 (.cells (ia (List.replicate ss.length 0)) 3))
    generalize w2.alloc (.cells (ia (List.replicate ss.length 0)) 3) = w3 at *
    have K4 := Lib.hid (bk_alloc (BK.refl w3) (.cells #[.slice (some ⟨w2.heap.size, 0, none⟩) ss.length ss.length] 34))
    have N4 := Lib.hid (heap_alloc_new w3 (.cells #[.slice (some ⟨w2.heap.size, 0, none⟩) ss.length ss.length] 34))
    have S4 := Lib.hid (sz1 w3 (.cells #[.slice (some ⟨w2.heap.size, 0, none⟩) ss.length ss.length] 34))
    have I4 := Lib.hid (I3.out.bk K4.out)
    clear MK
    go_wp2_with fail
    generalize w3.alloc (.cells #[.slice (some ⟨w2.heap.size, 0, none⟩) ss.length ss.length] 34) = w4 at *
    have K24 := Lib.hid (bk_tr K2.out (bk_tr K3.out K4.out))
    have D25 := Lib.hid (C25.out w4 K24.out)
    refine D25.out.mono ?_
    rintro e w5 ⟨⟨qL, dL, rfl, hrl⟩, hb5⟩
    have K5 := Lib.hid hb5
    have RL := Lib.hid hrl
    have I5 := Lib.hid (I4.out.bk K5.out)
    have N5 := Lib.hid ((bk_block K5.out (Array.getElem?_eq_some_iff.1 N4.out).1).trans N4.out)
    have S5 := Lib.hid (bk_size K5.out)
    clear hrl hb5 C25 D25
    go_wp2_with fail
    go_loopw [18, 4] (fun iv xv wr => ∃ (i : Nat) (pa : List Int) (acc : List S), i ≤ L.length ∧ iv = .int .i64 (i : Int) ∧ acc.length = i ∧ pa.length = ss.length ∧ trP ss (L.drop i) pa acc = r ∧ GL w5.heap.size 44 14 wr xv i (PS acc) ∧ Ir wr w2.heap.size pa ∧ Step w5 wr (oneF w2.heap.size) (oneF w2.heap.size)) (fun iv _ _ => L.length - (intOf iv).toNat)
    case atStart => exact ⟨0, _, [], Nat.zero_le _, rfl, rfl, by simp, DPP.out.symm, GL.nil _ _ _ _ _, I5.out, Step.refl _ _⟩
    case round =>
      obtain ⟨i, pa, acc, hi, rfl, hal, hpl, heq, hgl, hir, hst⟩ := hrel
      have AL := Lib.hid hal
      have PL := Lib.hid hpl
      have EQ := Lib.hid heq
      have GG := Lib.hid hgl
      have IR := Lib.hid hir
      have ST := Lib.hid hst
      clear hal hpl heq hgl hir hst
      by_cases e : i = L.length
      · have hd : decide (i < L.length) = false := by simp [e]
        have EQ2 := EQ.out
        rw [List.drop_of_length_le (by omega)] at EQ2
        have EQ3 : acc = r := EQ2
        subst EQ3
        obtain ⟨p8, c8, rfl⟩ := GG.out.shape
        have RS := Lib.hid (show RowS (mem w5.heap.size wr) wr p8 c8 acc from gl_rowS (by rw [AL.out]; exact GG.out))
        have ALN := Lib.hid AL.out
        subst e
        go_wp2_with fail
        go_ret
        exact ⟨⟨p8, c8, by rw [ALN.out]; rfl, RS.out.keep (fun j hj => ⟨rfl, by have := hj.1; have := bk_size K24.out; have := S5.out; omega, hj.2⟩)⟩, Step.bk_new (bk_tr K24.out K5.out) ST.out (fun j hj => by have hj : j = w2.heap.size := hj; have := bk_size K2.out; omega)⟩
      · have hlt : i < L.length := by omega
        have hd : decide (i < L.length) = true := by simpa using hlt
        obtain ⟨b2, o2, rfl, -, y0⟩ := ((RL.out.keep (D' := memX 0 w2.heap.size w5) (fun j hj => ⟨rfl, Nat.zero_le _, hj.2, by have := hj.1; have := S3.out; have := S4.out; omega⟩)).keep (memG_step ST.out)).get hlt
        have hab := NBD.out _ (List.getElem_mem hlt)
        obtain ⟨an, hL, han⟩ : ∃ an : Nat, L[i] = (an : Int) ∧ an < ss.length := ⟨L[i].toNat, by omega, by omega⟩
        have EQ2 := EQ.out
        rw [List.drop_eq_getElem_cons hlt, trP_cons, hL, Int.toNat_natCast, AL.out] at EQ2
        rw [hL] at y0
        have c0 := IR.out.c (k := an) (by rw [PL.out]; exact han)
        have f0 := IR.out.f an
        obtain ⟨pv, hpv⟩ : ∃ pv, pv = pa[an]'(by rw [PL.out]; exact han) := ⟨_, rfl⟩
        rw [← hpv] at c0
        clear hpv
        have IZ := Lib.hid (IR.out.set an (i : Int))
        have SZ := Lib.hid (show Step w5 (wr.setCell ⟨w2.heap.size, an, none⟩ (.int .i64 (i : Int))) (oneF w2.heap.size) (oneF w2.heap.size) from ST.out.trans (step_set an _))
        have GZ := Lib.hid (GG.out.step (PS.mono acc) (show Step wr (wr.setCell ⟨w2.heap.size, an, none⟩ (.int .i64 (i : Int))) (oneF w2.heap.size) (oneF w2.heap.size) from step_set an _) (by have := S3.out; have := S4.out; have := S5.out; omega))
        have EQ3 := Lib.hid EQ2
        have HAN := Lib.hid han
        have hai : (an : Int) < (ss.length : Int) := by omega
        have ei : IntKind.i64.wrap ((i : Int) + 1) = (i : Int) + 1 := by have := NLN.out; have := HN.out; exact IntWalk.i64_in _ (by omega)
        have hii : (i : Int) < (L.length : Int) := by omega
        have ILT := Lib.hid hlt
        obtain ⟨p8, c8, rfl⟩ := GG.out.shape
        have GLT := Lib.hid GG.out.lt
        clear GG e hab hL han EQ2
        have NW := Lib.hid ((ST.out.block w3.heap.size (Array.getElem?_eq_some_iff.1 N5.out).1 (fun h => by have h : w3.heap.size = w2.heap.size := h; have := S3.out; omega)).trans N5.out)
        have xb := cell_of_row wr w3.heap.size 0 _ 34 (0, 0) NW.out
        have LW := Lib.hid (show w5.heap.size ≤ wr.heap.size from ST.out.size)
        have LZ := Lib.hid (show wr.heap.size = (wr.setCell ⟨w2.heap.size, an, none⟩ (.int .i64 (i : Int))).heap.size from by simp [World.setCell])
        go_upto_region 9 with (fail)
        generalize wr.setCell ⟨w2.heap.size, an, none⟩ (.int .i64 (i : Int)) = wz at *
        clear xb c0 f0 y0
        have NZ := Lib.hid ((SZ.out.block w3.heap.size (Array.getElem?_eq_some_iff.1 N5.out).1 (fun h => by have h : w3.heap.size = w2.heap.size := h; have := S3.out; omega)).trans N5.out)
        obtain ⟨b, o, q, rfl, -, hc, hps0⟩ := ((HP.out.keep (to_memX (bk_tr K24.out K5.out) (g := w2.heap.size) (bk_size K2.out))).keep (memG_step SZ.out)).get HAN.out
        have hps : Ps (mem 0 wz) wz ss[an] q := hps0.keep (fun j hj => ⟨rfl, hj.1, hj.2.1⟩)
        obtain ⟨z0, z1, z2, z3, z4, z5, z6, z7, z8, z9, z10, z11, z12, z13⟩ := hc.all
        have OKS := Lib.hid (OKH.out _ (List.getElem_mem HAN.out))
        have WM := Lib.hid (well_mem (WL.out an HAN.out))
        have CC := Lib.hid (with46_t ss[an] q (fun r => (pa.set an (i : Int)).getD r.toNat 0) w3.heap.size wz OKS.out.1 hps (fun r hr wc hb => by
          have hw := WM.out r hr
          obtain ⟨rn, rfl⟩ : ∃ rn : Nat, r = (rn : Int) := ⟨r.toNat, by omega⟩
          have h := place47 rn w2.heap.size w3.heap.size ss.length ss.length (pa.set an (i : Int)) wc (cell_of_row wc w3.heap.size 0 _ 34 (0, 0) ((bk_block hb (Array.getElem?_eq_some_iff.1 NZ.out).1).trans NZ.out)) (IZ.out.bk hb) (by rw [List.length_set, PL.out]; have := HAN.out; omega) (by rw [List.length_set, PL.out])
          simpa using h))
        have EG := Lib.hid (show ss.getD an s0 = ss[an] from by rw [List.getD_eq_getElem?_getD, List.getElem?_eq_getElem HAN.out]; rfl)
        rw [EG.out] at EQ3
        have GB := Lib.hid (fun wc (hb : BK wz wc) => GZ.out.bk (PS.mono acc) hb)
        clear hps hps0 hc
        rw [cS_eq] at CC
        unfold WR at CC
        generalize sMap ss[an] (fun r => (pa.set an (i : Int)).getD r.toNat 0) = s' at *
        generalize ss[an] = s at *
        go_wp2_with fail
        refine CC.out.mono ?_
        rintro e w6 ⟨⟨q6, rfl, hr6⟩, hb6⟩
        have R6 := Lib.hid hr6
        have K6 := Lib.hid hb6
        have S6 := Lib.hid (bk_size hb6)
        clear hr6 hb6 z0 z1 z2 z3 z4 z5 z6 z7 z8 z9 z10 z11 z12 z13
        rw [cS_eq]
        have PN := Lib.hid (show PS (acc ++ [s']) (memO w5.heap.size w6 (.slice p8 i c8)) w6 i #[.int .i64 s'.k, .slice q6.p1 s'.rf.length q6.c1, .int .i64 s'.ru, .slice q6.p2 s'.sb.length q6.c2, .int .i64 s'.a.op, .int .i64 s'.a.wd, .int .u64 s'.a.vl, .string s'.a.nm, .slice q6.p3 s'.a.ts.length q6.c3, .int .i64 s'.b.op, .int .i64 s'.b.wd, .int .u64 s'.b.vl, .string s'.b.nm, .slice q6.p4 s'.b.ts.length q6.c4] from ⟨s', q6, by rw [List.getElem?_append_right (by rw [AL.out]; exact Nat.le_refl _), AL.out, Nat.sub_self]; rfl, rfl, R6.out.keep (fun j hj => ⟨rfl, by have := hj.1; have := LW.out; have := LZ.out; omega, hj.2, fun e => by have h0 := (GLT.out j e).2; have := hj.1; have := LZ.out; omega⟩)⟩)
        have ONE := Lib.hid (one_cS s' q6)
        rw [cS_eq] at ONE
        have HLO := Lib.hid (show w5.heap.size ≤ w6.heap.size from by have := LW.out; have := LZ.out; have := S6.out; omega)
        have HSM := Lib.hid (show i ≤ 200000 from by have := HN.out; have := NLN.out; have := ILT.out; omega)
        go_wp2_with (at_builtin; go_must (refine wpList_plain rfl (fun K9 hK9 => gl_push _ _ 27 44 14 192 _ rfl Tryd.underlying27 info44 rfl (by decide) (by decide) w5.heap.size (.slice p8 i c8) i (PS acc) (PS (acc ++ [s'])) (PS.mono acc) (PS.mono _) (fun D w k cs hk h => PS.snoc acc s' D w k cs (by rw [AL.out]; exact hk) h) rfl (GB.out _ K6.out) #[.int .i64 s'.k, .slice q6.p1 s'.rf.length q6.c1, .int .i64 s'.ru, .slice q6.p2 s'.sb.length q6.c2, .int .i64 s'.a.op, .int .i64 s'.a.wd, .int .u64 s'.a.vl, .string s'.a.nm, .slice q6.p3 s'.a.ts.length q6.c3, .int .i64 s'.b.op, .int .i64 s'.b.wd, .int .u64 s'.b.vl, .string s'.b.nm, .slice q6.p4 s'.b.ts.length q6.c4] rfl ONE.out rfl HLO.out HSM.out PN.out (fun g9 cap9 w9 hg9 hs9 => hK9 _ _ ?_))))
        have G9 := Lib.hid hg9
        have HNE := Lib.hid (show ∀ k, (Value.slice p8 i c8).ownBlock = some k → k ≠ w2.heap.size from fun k hk e => by have := (GLT.out k hk).1; have := S3.out; have := S4.out; have := S5.out; omega)
        have I9 := Lib.hid (show Ir w9 w2.heap.size (pa.set an (i : Int)) from (hs9.block _ (IZ.out.bk K6.out).lt (fun h => HNE.out _ h rfl)).trans (IZ.out.bk K6.out))
        have ST9 := Lib.hid (show Step w5 w9 (oneF w2.heap.size) (oneF w2.heap.size) from by
          have h1 : Step w5 w6 (oneF w2.heap.size) (oneF w2.heap.size) := SZ.out.trans (Step.bk K6.out)
          refine ⟨hs9.os.trans h1.os, hs9.tape.trans h1.tape, hs9.output.trans h1.output, Nat.le_trans h1.size hs9.size, fun k hk hn => (hs9.block k (Nat.lt_of_lt_of_le hk h1.size) (fun h => by have := (GLT.out k h).1; omega)).trans (h1.block k hk hn), fun k hk => .inl hk⟩)
        clear hg9 hs9
        go_wp2_with fail
        go_roundw
        case rel => exact ⟨i + 1, pa.set an (i : Int), acc ++ [s'], by have := ILT.out; omega, by go_num, by simp [AL.out], by rw [List.length_set]; exact PL.out, EQ3.out, G9.out, I9.out, ST9.out⟩
        case measure => have := ILT.out; simp [intOf]; omega
end Go.Proofs.YtnlpiaejfmdckaaDoor
