/- Numbers that leave a work list: the walk. -/
import Derived.Test.YtkicoaphchpngaaN
namespace Go.Proofs.Ytkicoaphchpngaa
open Go.RowKit Go.Lib Go.Sort Go.Maps
set_option linter.unusedVariables false
set_option linter.unusedSimpArgs false
set_option maxHeartbeats 4000000 in
theorem drains_some (b off c0 : Nat) (zs : List Int) (w : World) (h0 : 0 < zs.length) (hl : zs.length ≤ 300) (hb0 : b < w.heap.size) (hcap : zs.length ≤ c0) (hc : ∀ k, k < zs.length → w.cell? ⟨b, off + k, none⟩ = some (.int .i64 (zs.getD k 0))) (hwf : ∀ n ∈ zs, (Lit.int .i64 n).wf = true) :
    Calls Try.prog 7 #[.slice (some ⟨b, off, none⟩) zs.length c0] w fun e w' => e = .returned (.bool true) ∧ Below w.heap.size w w' := by
  have hrd : Rd w (.slice (some ⟨b, off, none⟩) zs.length c0) zs := Or.inr ⟨b, off, c0, rfl, h0, hcap, hb0, hc⟩
  have hrd' := Lib.hid hrd
  have hc' := Lib.hid hc
  have hwf' := Lib.hid hwf
  clear hrd hc hwf
  go_enter Try.func7, Try.ntmps7
  go_wp2_with fail
  refine (new_any w.heap.size w (Nat.le_refl _)).mono ?_
  rintro e w1 ⟨rfl, hq1, hb1⟩
  generalize w.heap.size + 1 = bq at hq1 ⊢
  have hI1 : In1 w w1 w.heap.size bq w.heap.size zs 0 0 (.slice none 0 0) [] := ⟨hq1, fun y => by simp, Nat.le_refl _, Nat.le_refl _, hb1⟩
  clear hq1 hb1
  go_wp2_with fail
  go_loopw [4] (fun i wr => ∃ (k c : Nat) (sv : Value) (ys : List Int), k ≤ zs.length ∧ i = .int .i64 k ∧ In1 w wr w.heap.size bq w.heap.size zs k c sv ys) (fun i _ => zs.length - (intOf i).toNat)
  case atStart => exact ⟨0, 0, _, _, Nat.zero_le _, rfl, hI1⟩
  case round =>
    obtain ⟨k, c, sv, ys, hk, rfl, hI⟩ := hrel
    by_cases hlt : k < zs.length
    · have hx : wr.cell? ⟨b, off + k, none⟩ = some (.int .i64 (zs.getD k 0)) := (hI.bel.cell (p := ⟨b, off + k, none⟩) hb0).trans (hc'.out k hlt)
      have hin : zs.getD k 0 ∈ zs := by rw [List.getD_eq_getElem?_getD, List.getElem?_eq_getElem hlt]; exact List.getElem_mem hlt
      have hwx := hwf'.out _ hin
      have hhit := Lib.hid (hI.hit hlt)
      have hnew := Lib.hid (fun (w' : World) (sv' : Value) (ys' : List Int) => hI.new (w' := w') (sv' := sv') (ys' := ys') hlt)
      have hkc := hI.hc
      have hkl := hI.hl
      clear hin hI1
      generalize zs.getD k 0 = x at hx hwx hhit hnew
      by_cases hm : x ∈ ys
      · have hpu := Lib.hid (qpush_in _ bq _ c sv ys x wr hwx hI.q hm)
        have hI' := Lib.hid (hhit.out hm)
        clear hI hwx hm
        go_wp2_with (go_at_call 34; refine hpu.out.mono ?_; rintro e w' ⟨rfl, rfl⟩)
        go_roundw
        case rel => exact ⟨k + 1, c, sv, ys, by omega, by go_num, hI'.out⟩
        case measure => simp [intOf]; omega
      · have hpu := Lib.hid (qpush_new _ bq _ c sv ys x wr hwx hI.q hm (by omega) (by omega))
        clear hI hwx hm
        go_wp2_with (go_at_call 34; refine hpu.out.mono ?_; rintro e w' ⟨rfl, sv', ys', hq', hp', hf'⟩; have hI' := Lib.hid (hnew.out w' sv' ys' hq' hp' hf'); clear hq' hp' hf')
        go_roundw
        case rel => exact ⟨k + 1, c + 1, sv', ys', by omega, by go_num, hI'.out⟩
        case measure => simp [intOf]; omega
    · have hI2 := In2.of hI (by omega)
      clear hI hI1
      go_wp2_with fail
      go_loopw [5, 6] (fun v i wr => ∃ (c : Nat) (sv : Value) (ys os : List Int), i = .int .i64 os.length ∧ In2 w wr w.heap.size bq w.heap.size zs c sv ys v os) (fun _ i _ => zs.length + 1 - (intOf i).toNat)
      case atStart => exact ⟨_, _, _, [], rfl, hI2⟩
      case round =>
        clear hI2
        obtain ⟨c, sv, ys, os, rfl, hI⟩ := hrel
        have hle : os.length ≤ zs.length := by have := hI.hl; omega
        by_cases hz : 0 < ys.length
        · have h0 : ys.getD 0 0 ∈ zs := (hI.mem _).2 (.inr (by rw [List.getD_eq_getElem?_getD, List.getElem?_eq_getElem hz]; exact List.getElem_mem hz))
          have hsz : ys.length ≤ 1000 := by have := hI.hl; omega
          have hpo := Lib.hid (qpop_some _ bq _ c sv ys _ hI.q hz hsz (hwf'.out _ h0))
          have hst := Lib.hid (fun (w1 w2 : World) (ys' : List Int) (sv' v' : Value) (o : Obj) => hI.step (w1 := w1) (w2 := w2) (ys' := ys') (sv' := sv') (v' := v') (o := o) hz)
          have hI' := Lib.hid hI
          clear hI h0
          generalize ys.getD 0 0 = x at hpo hst
          go_wp2_with (first
            | (go_at_call 35; refine hpo.out.mono ?_; rintro e wp ⟨rfl, sv', ys', hq', hp', hf'⟩; have hq2 := Lib.hid hq'; have hp2 := Lib.hid hp'; have hf2 := Lib.hid hf'; have hbs : w.heap.size ≤ wp.heap.size := Nat.le_of_lt (Nat.lt_of_le_of_lt hq'.qs.low hq'.qs.lt); clear hq' hp' hf')
            | (at_builtin; go_loud (refine wpList_append_own1 rfl (.tmp 39) (.tmp 41) rfl w.heap.size u5 os.length os (by simp [Act.eval, Act.put]) ((row_frm hI'.out.row hf2.out hI'.out.nq hI'.out.nm hI'.out.ns).alloc _) wp.heap.size x (by simp [Act.eval, Act.put]) (by rw [World.cell?_alloc_new]; rfl) (by omega) (Nat.le_trans hbs (below_alloc _ _).size) ?_; intro v2 w2 hrow hg hv; have hI2 := Lib.hid (hst.out _ w2 ys' sv' v2 _ hq2.out hp2.out hf2.out hrow hg hv); clear hrow hg hv)))
          go_roundw
          case rel => exact ⟨c, sv', ys', os ++ [x], by simp, hI2.out⟩
          case measure => simp [intOf]; omega
        · obtain rfl : ys = [] := List.eq_nil_of_length_eq_zero (by omega)
          have hpo := Lib.hid (qpop_none _ bq _ c sv _ hI.q)
          have hI' := Lib.hid hI
          clear hI
          have hrf := Lib.hid (rof_any _ zs _ (hrd'.out.below hI'.out.bel) (by omega))
          go_wp2_with (first
            | (go_at_call 35; refine hpo.out.mono ?_; rintro e w' ⟨rfl, rfl⟩)
            | (go_at_call 13; refine hrf.out.mono ?_; rintro e w2 ⟨v2, rfl, hown2, hb2⟩; have hs := same_any u5 v2 os (ofL zs) w2 (Rd.own (own_keep hI'.out.row hb2)) (Rd.own hown2) (by omega); rw [hI'.out.done] at hs; have hb2' := Lib.hid hb2; have hs' := Lib.hid hs; clear hown2 hb2 hs)
            | (go_at_call 11; refine hs'.out.mono ?_; rintro e w3 ⟨rfl, hd3⟩; have hb3 := Lib.hid (below_up hb2'.out (drawn_below hd3)); clear hd3)
            | (go_at_call 36; refine (qlen_any _ bq _ c sv [] _ (hI'.out.q.keep hb3.out)).mono ?_; rintro e w' ⟨rfl, rfl⟩)
            | (go_at_call 10; refine (lives_any _).mono ?_; rintro e w4 ⟨rfl, hb4⟩; have hb4' := Lib.hid hb4; clear hb4))
          go_ret
          exact ⟨rfl, hI'.out.bel.trans ((below_up hb3.out hb4'.out).mono hI'.out.bel.size)⟩
end Go.Proofs.Ytkicoaphchpngaa
