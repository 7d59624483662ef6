/- slices.Reverse; Needed. -/
import Derived.Test.YtnlpiaejfmdckaaDoorG
import Derived.Test.YtnlpiaejfmdckaaDoorShelf
import Derived.Deep.MidRow
import Derived.Laws.IdiomCopy
namespace Go.Proofs.YtnlpiaejfmdckaaDoor
open Go.RowKit
set_option linter.unusedVariables false
set_option linter.unusedSimpArgs false
theorem bk_setCells {w0 : World} (b : Nat) (hb : w0.heap.size ≤ b) : ∀ (vs : List Value) (o : Nat) (w : World), BK w0 w → BK w0 (w.setCells b o vs)
  | [], _, _, h => h
  | v :: r, o, w, h => by
    rw [World.setCells]
    exact bk_setCells b hb r (o + 1) _ (bk_set h _ _ hb)
theorem stay {w w' : World} (hb : BK w w') : ∀ k, mem 0 w k → w'.heap[k]? = w.heap[k]? ∧ mem 0 w k := fun k hk => ⟨bk_block hb hk.2, hk⟩
theorem stay2 {w a b : World} (ha : BK w a) (hb : BK w b) : ∀ k, mem 0 w k → b.heap[k]? = a.heap[k]? ∧ mem 0 w k := fun k hk => ⟨(bk_block hb hk.2).trans (bk_block ha hk.2).symm, hk⟩
theorem reverse44 (zs : List Int) (hl : zs.length ≤ 9223372036854775807) (lo : Nat) (w0 w : World) (hlo : w0.heap.size ≤ lo) (hb : BK w0 w) (p : Option Addr) (c : Nat) (h : LI lo w (.slice p zs.length c) zs) : Calls Tryd.prog 44 #[.slice p zs.length c] w fun e w' => e = .returned (.tuple #[]) ∧ RowI (mem lo w') w' p c zs.reverse ∧ BK w0 w' := by
  by_cases h0 : zs.length = 0
  · have hr := h.row
    rw [h0]
    refine (Tryd.slices_Reverse_int_empty p c w).mono ?_
    rintro e w' ⟨rfl, rfl⟩
    obtain rfl : zs = [] := List.length_eq_zero_iff.1 h0
    exact ⟨rfl, by simpa using hr, hb⟩
  · have h1 : w.ownsRow lo 3 1 (.slice p zs.length c) zs.length (zs.map (Value.int .i64)) := h
    obtain ⟨g, cap, hv, hg, hlt⟩ := h1.form (by omega)
    simp only [Value.slice.injEq] at hv
    obtain ⟨rfl, -, rfl⟩ := hv
    have hcap : zs.length ≤ c := by
      rcases h1.2 with ⟨hv, _⟩ | ⟨g', cap', cur, hv, _, _, h5, _⟩
      · cases hv
      · cases hv; exact h5
    have hc : ∀ j, j < zs.length → w.cell? ⟨g, 0 + j, none⟩ = some (.int .i64 (zs.getD j 0)) := fun j hj => by
      rw [Nat.zero_add, h1.cellAt (g := g) (cap := c) j (by omega)]
      simp [hj, List.getD_eq_getElem?_getD]
    have hf : ∀ j, j < zs.length → w.frozen? ⟨g, 0 + j, none⟩ = false := fun j hj => by rw [Nat.zero_add]; exact h1.frozenAt (g := g) (cap := c) j
    refine (Tryd.slices_Reverse_int_cells g 0 zs.length c zs w (Nat.le_refl _) hl hc hf).mono ?_
    rintro e w' ⟨rfl, q, rfl⟩
    rw [List.take_length]
    have hsz : w.heap.size ≤ ((w.drewN q).setCells g 0 (zs.reverse.map (Value.int .i64))).heap.size := by
      have := bk_size (bk_setCells (w0 := w0) g (by omega) (zs.reverse.map (Value.int .i64)) 0 (w.drewN q) (bk_drewN hb q))
      have h2 : ∀ (vs : List Value) (o : Nat) (x : World), (x.setCells g o vs).heap.size = x.heap.size := by
        intro vs
        induction vs with
        | nil => intro o x; rfl
        | cons v r ih => intro o x; rw [World.setCells, ih]; simp [World.setCell]
      rw [h2]
      exact Nat.le_refl _
    refine ⟨rfl, .inr ⟨g, 0, rfl, ⟨hg, Nat.lt_of_lt_of_le hlt hsz⟩, fun k hk => ?_, by simpa using hcap⟩, bk_setCells g (by omega) _ _ _ (bk_drewN hb q)⟩
    have h3 := World.cell?_setCells_in g (zs.reverse.map (Value.int .i64)) 0 (w.drewN q) (fun j hj => by
      simp at hj
      rw [show (w.drewN q).cell? ⟨g, 0 + j, none⟩ = w.cell? ⟨g, 0 + j, none⟩ from rfl, hc j hj]
      rfl) k (by simpa using hk)
    rw [h3]
    simp
def mkB : List Bool → List Int → List Bool
  | nb, [] => nb
  | nb, r :: rs => mkB (nb.set r.toNat true) rs
theorem mkB_cons (nb : List Bool) (r : Int) (rs : List Int) : mkB nb (r :: rs) = mkB (nb.set r.toNat true) rs := rfl
theorem mkB_len : ∀ (rs : List Int) (nb : List Bool), (mkB nb rs).length = nb.length
  | [], nb => rfl
  | r :: rs, nb => by rw [mkB_cons, mkB_len rs]; simp
def rfs (ss : List S) (k : Nat) : List Int := (ss[k]?.map S.rf).getD []
def ndP (ss : List S) : Nat → List Bool → List Int → List Int
  | 0, nb, acc => acc
  | k + 1, nb, acc => if nb.getD k false = true then ndP ss k (mkB nb (rfs ss k)) (acc ++ [(k : Int)]) else ndP ss k nb acc
theorem ndP_succ (ss : List S) (k : Nat) (nb : List Bool) (acc : List Int) : ndP ss (k + 1) nb acc = if nb.getD k false = true then ndP ss k (mkB nb (rfs ss k)) (acc ++ [(k : Int)]) else ndP ss k nb acc := rfl
def ndd (ss : List S) : List Int := if vld ss = true then (ndP ss ss.length ((List.replicate ss.length false).set (ss.length - 1) true) []).reverse else []
set_option maxRecDepth 100000 in
set_option maxHeartbeats 8000000 in
theorem needed25 (ss : List S) (hok : ∀ s ∈ ss, okS s) (w : World) (p : Option Addr) (c : Nat) (ht : Tb w) (hp : RowS (mem 0 w) w p c ss) : Calls Tryd.prog 25 #[.slice p ss.length c] w fun e w' => (∃ q d, e = .returned (.slice q (ndd ss).length d) ∧ RowI (mem w.heap.size w') w' q d (ndd ss)) ∧ BK w w' := by
  have C39 := Lib.hid (valid39 ss hok w p c ht hp)
  have DP := Lib.hid (show ndd ss = if vld ss = true then (ndP ss ss.length ((List.replicate ss.length false).set (ss.length - 1) true) []).reverse else [] from rfl)
  have VO := Lib.hid (fun h => vld_ok (ss := ss) h)
  have HP := Lib.hid hp
  have OKH := Lib.hid hok
  clear ht hp hok
  generalize ndd ss = r at *
  generalize hv : vld ss = v at *
  clear hv
  cases v with
  | false =>
    have DP2 := DP.out
    rw [if_neg (by decide)] at DP2
    subst DP2
    go_enter Tryd.func25, Tryd.ntmps25
    go_wp2_with fail
    refine C39.out.mono ?_
    rintro e w2 ⟨rfl, hb2⟩
    have K2 := Lib.hid hb2
    clear hb2
    go_wp2_with fail
    go_ret
    exact ⟨⟨none, 0, rfl, .inl ⟨rfl, fun _ => rfl⟩⟩, K2.out⟩
  | true =>
    obtain ⟨v1, v2, v3⟩ := VO.out rfl
    have WL := Lib.hid v3
    have HN := Lib.hid (And.intro v1 v2)
    have MK := Lib.hid (fun w => make65 ss.length (by omega) w)
    have DP2 := DP.out
    rw [if_pos rfl] at DP2
    have DPP := Lib.hid DP2
    clear v3 DP2 DP VO v1 v2
    obtain ⟨nb0, hnb0⟩ : ∃ nb0, nb0 = (List.replicate ss.length false).set (ss.length - 1) true := ⟨_, rfl⟩
    rw [← hnb0] at DPP
    have NB0 := Lib.hid hnb0
    clear hnb0
    generalize hf : ndP ss ss.length nb0 [] = FULL at *
    have HF := Lib.hid hf
    clear hf
    go_enter Tryd.func25, Tryd.ntmps25
    go_wp2_with fail
    refine C39.out.mono ?_
    rintro e w2 ⟨rfl, hb2⟩
    have K2 := Lib.hid hb2
    clear hb2 C39
    go_wp2_with fail
    rw [MK.out w2]
    simp only [Result.andThen]
    try rw [Oper.upon_value]
    have K3 := Lib.hid (bk_alloc (BK.refl w2) (.cells (ba (List.replicate ss.length false)) 4))
    have B3 := Lib.hid (show Br (w2.alloc (.cells (ba (List.replicate ss.length false)) 4)) w2.heap.size (List.replicate ss.length false) from heap_alloc_new w2 _)
    have ek : IntKind.i64.wrap ((ss.length : Int) - 1) = ((ss.length - 1 : Nat) : Int) := by have := HN.out; rw [IntWalk.i64_in _ (by omega)]; omega
    have ek2 : (ss.length : Int) - 1 = ((ss.length - 1 : Nat) : Int) := by have := HN.out; omega
    have ek3 : wrap64 ((ss.length - 1 : Nat) : Int) = ((ss.length - 1 : Nat) : Int) := by have := HN.out; unfold wrap64; omega
    have hki : ((ss.length - 1 : Nat) : Int) < (ss.length : Int) := by have := HN.out; omega
    have c0 := B3.out.c (k := ss.length - 1) (by have := HN.out; simp; omega)
    have f0 := B3.out.f (ss.length - 1)
    have B4 := Lib.hid (show Br ((w2.alloc (.cells (ba (List.replicate ss.length false)) 4)).setCell ⟨w2.heap.size, ss.length - 1, none⟩ (.bool true)) w2.heap.size nb0 from by rw [NB0.out]; exact B3.out.set _ _)
    have K4 := Lib.hid (bk_set K3.out ⟨w2.heap.size, ss.length - 1, none⟩ (.bool true) (Nat.le_refl _))
    generalize w2.alloc (.cells (ba (List.replicate ss.length false)) 4) = w3 at *
    go_wp2_with fail
    generalize w3.setCell ⟨w2.heap.size, ss.length - 1, none⟩ (.bool true) = w4 at *
    rw [ek3]
    clear ek ek2 ek3 hki c0 f0 MK B3 K3
    have FW := Lib.hid (fun (k : Nat) (hk : k < ss.length) r (hr : r ∈ rfs ss k) => show 0 ≤ r ∧ r < (k : Int) from by
      unfold rfs at hr
      rw [List.getElem?_eq_getElem hk] at hr
      exact well_mem (WL.out k hk) r hr)
    go_loopw [4, 5] (fun xv iv wr => ∃ (k : Nat) (nb : List Bool) (idx : List Int), k ≤ ss.length ∧ iv = .int .i64 ((k : Int) - 1) ∧ nb.length = ss.length ∧ idx.length + k ≤ ss.length ∧ ndP ss k nb idx = FULL ∧ Br wr w2.heap.size nb ∧ LI (w2.heap.size + 1) wr xv idx ∧ BK w2 wr) (fun _ iv _ => (intOf iv + 1).toNat)
    case atStart => exact ⟨ss.length, nb0, [], Nat.le_refl _, by congr 1; have := HN.out; omega, by rw [NB0.out]; simp, by simp, HF.out, B4.out, LI.nil _ _, K4.out⟩
    case round =>
      obtain ⟨k, nb, idx, hk, rfl, hnl, hil, heq, hbr, hli, hb⟩ := hrel
      have NL := Lib.hid hnl
      have IL := Lib.hid hil
      have EQ := Lib.hid heq
      have BR := Lib.hid hbr
      have LL := Lib.hid hli
      have KB := Lib.hid hb
      clear hnl hil heq hbr hli hb
      cases k with
      | zero =>
        have EQ2 : idx = FULL := EQ.out
        subst EQ2
        rw [show ((0 : Nat) : Int) - 1 = -1 from rfl]
        obtain ⟨q, d, rfl⟩ := LL.out.shape
        have C44 := Lib.hid (reverse44 idx (by have := IL.out; have := HN.out; omega) (w2.heap.size + 1) w2 wr (by omega) KB.out q d LL.out)
        go_wp2_with fail
        refine C44.out.mono ?_
        rintro e w5 ⟨rfl, hri, hb5⟩
        have K5 := Lib.hid hb5
        have R5 := Lib.hid (show RowI (mem w.heap.size w5) w5 q d r from by
          rw [DPP.out]
          exact hri.keep fun j hj => ⟨rfl, by have := hj.1; have := bk_size K2.out; show w.heap.size ≤ j; omega, hj.2⟩)
        have RL := Lib.hid (show idx.length = r.length from by rw [DPP.out]; simp)
        clear hri hb5
        go_wp2_with fail
        go_ret
        exact ⟨⟨q, d, by rw [RL.out]; rfl, R5.out⟩, bk_tr K2.out K5.out⟩
      | succ m =>
        rw [show ((m + 1 : Nat) : Int) - 1 = (m : Int) by omega]
        have hml : m < ss.length := by omega
        have h0 : (0 : Int) ≤ (m : Int) := by omega
        have hmi : (m : Int) < (ss.length : Int) := by omega
        have em : IntKind.i64.wrap ((m : Int) - 1) = (m : Int) - 1 := by have := HN.out; exact IntWalk.i64_in _ (by omega)
        have c0 := BR.out.c (k := m) (by rw [NL.out]; exact hml)
        have EQ2 := EQ.out
        rw [ndP_succ, List.getD_eq_getElem?_getD, List.getElem?_eq_getElem (by rw [NL.out]; exact hml)] at EQ2
        have EQ3 := Lib.hid EQ2
        have HML := Lib.hid hml
        clear EQ2
        generalize hnm : nb[m]'(by rw [NL.out]; exact hml) = bm at *
        clear hnm
        cases bm with
        | false =>
          have EQ4 := Lib.hid (show ndP ss m nb idx = FULL from by have := EQ3.out; rwa [if_neg (by simp)] at this)
          go_wp2_with fail
          go_roundw
          case rel => exact ⟨m, nb, idx, by have := HML.out; omega, by go_num, NL.out, by have := IL.out; omega, EQ4.out, BR.out, LL.out, KB.out⟩
          case measure => first | (simp [intOf]; done) | (simp [intOf]; omega)
        | true =>
          have EQ4 := Lib.hid (show ndP ss m (mkB nb (rfs ss m)) (idx ++ [(m : Int)]) = FULL from by have := EQ3.out; rwa [if_pos (by simp)] at this)
          obtain ⟨p4, c4, rfl⟩ := LL.out.shape
          go_wp2_with (at_builtin; go_must (refine wpList_pushI rfl _ _ rfl (w2.heap.size + 1) _ idx rfl LL.out (m : Int) rfl ?hlo ?hsm ?_))
          case hlo => have := BR.out.lt; omega
          case hsm => have := IL.out; have := HN.out; omega
          intro g4 cap4 w5 hl5 hs5
          have BR5 := Lib.hid (BR.out.at (hs5.block _ BR.out.lt (fun h => by have := (LL.out.lt _ h).1; omega)))
          have K5 := Lib.hid (Step.bk_new KB.out hs5 (fun j hj => by have := (LL.out.lt _ hj).1; omega))
          have L5 := Lib.hid hl5
          clear hl5 hs5 c0
          obtain ⟨b, o, q, rfl, -, hc, hps⟩ := ((HP.out.bk K2.out (Nat.le_refl _)).keep (stay K5.out)).get HML.out
          obtain ⟨-, z1, -⟩ := hc.all
          have FM := Lib.hid (FW.out m HML.out)
          have ERF := Lib.hid (show rfs ss m = ss[m].rf from by unfold rfs; rw [List.getElem?_eq_getElem HML.out]; rfl)
          have OKS := Lib.hid (show ss[m].rf.length ≤ 9223372036854775807 from OKH.out _ (List.getElem_mem HML.out))
          rw [ERF.out] at EQ4 FM
          have RI := Lib.hid hps.rf
          clear hc hps
          generalize ss[m].rf = rf at *
          go_wp2_with fail
          clear z1
          obtain ⟨wa, hwa⟩ : ∃ x, x = wr := ⟨_, rfl⟩
          subst hwa
          generalize hmf : mkB nb rf = NF at *
          have MF := Lib.hid hmf
          clear hmf
          go_loopw [41] (fun jv wr => ∃ (j : Nat) (nb' : List Bool), j ≤ rf.length ∧ jv = .int .i64 (j : Int) ∧ nb'.length = ss.length ∧ mkB nb' (rf.drop j) = NF ∧ Br wr w2.heap.size nb' ∧ LI (w2.heap.size + 1) wr (.slice (some ⟨g4, 0, none⟩) (idx.length + 1) cap4) (idx ++ [(m : Int)]) ∧ BK w2 wr) (fun jv _ => rf.length - (intOf jv).toNat)
          case atStart => exact ⟨0, nb, Nat.zero_le _, rfl, NL.out, MF.out, BR5.out, L5.out, K5.out⟩
          case round =>
            obtain ⟨j, nb', hj, rfl, hnl2, hmk, hbr2, hli2, hb2⟩ := hrel
            have NL2 := Lib.hid hnl2
            have MK2 := Lib.hid hmk
            have BR2 := Lib.hid hbr2
            have LI2 := Lib.hid hli2
            have KB2 := Lib.hid hb2
            clear hnl2 hmk hbr2 hli2 hb2
            by_cases e : j = rf.length
            · have hd : decide (j < rf.length) = false := by simp [e]
              have M3 := MK2.out
              rw [List.drop_of_length_le (by omega)] at M3
              have M4 : nb' = NF := M3
              subst M4
              subst e
              go_wp2_with fail
              go_roundw
              case rel => exact ⟨m, nb', idx ++ [(m : Int)], by have := HML.out; omega, by go_num, NL2.out, by have := IL.out; simp; omega, EQ4.out, BR2.out, LI2.out, KB2.out⟩
              case measure => first | (simp [intOf]; done) | (simp [intOf]; omega)
            · have hjl : j < rf.length := by omega
              have hd : decide (j < rf.length) = true := by simpa using hjl
              obtain ⟨b2, o2, hp1, -, y0⟩ := (RI.out.keep (stay2 K5.out KB2.out)).get hjl
              have M3 := MK2.out
              rw [List.drop_eq_getElem_cons hjl, mkB_cons] at M3
              have hw := FM.out _ (List.getElem_mem hjl)
              obtain ⟨rn, hrn, hrk⟩ : ∃ rn : Nat, rf[j] = (rn : Int) ∧ rn < m := ⟨rf[j].toNat, by omega, by omega⟩
              rw [hrn] at y0 M3
              rw [Int.toNat_natCast] at M3
              obtain ⟨bq, c0⟩ : ∃ bq, wr.cell? ⟨w2.heap.size, rn, none⟩ = some (.bool bq) := ⟨_, BR2.out.c (k := rn) (by have := NL2.out; have := HML.out; omega)⟩
              have f0 := BR2.out.f rn
              have BZ := Lib.hid (BR2.out.set rn true)
              have KZ := Lib.hid (bk_set KB2.out ⟨w2.heap.size, rn, none⟩ (.bool true) (Nat.le_refl _))
              have LZ := Lib.hid (show LI (w2.heap.size + 1) (wr.setCell ⟨w2.heap.size, rn, none⟩ (.bool true)) (.slice (some ⟨g4, 0, none⟩) (idx.length + 1) cap4) (idx ++ [(m : Int)]) from LI2.out.at fun k hk => heap_setCell_other wr ⟨w2.heap.size, rn, none⟩ k _ (fun e => by have h1 := (LI2.out.lt k hk).1; have e : k = w2.heap.size := e; omega))
              have M5 := Lib.hid M3
              have ej : IntKind.i64.wrap ((j : Int) + 1) = (j : Int) + 1 := by have := OKS.out; exact IntWalk.i64_in _ (by omega)
              have hji : (j : Int) < (rf.length : Int) := by omega
              have hrl : (rn : Int) < (ss.length : Int) := by have := HML.out; omega
              have JLT := Lib.hid hjl
              clear e hw hrn hrk M3
              go_wp2_with fail
              go_roundw
              case rel => exact ⟨j + 1, nb'.set rn true, by have := JLT.out; omega, by go_num, by rw [List.length_set]; exact NL2.out, M5.out, BZ.out, LZ.out, KZ.out⟩
              case measure => have := JLT.out; simp [intOf]; omega
end Go.Proofs.YtnlpiaejfmdckaaDoor
