/- The table's Nodes. -/
import Derived.Test.YtclefcjojlkcnaaDoorAP
namespace Go.Proofs.YtclefcjojlkcnaaDoor.V
open Go.RowKit Go.Maps
open Go.Proofs.YtclefcjojlkcnaaDoor.G (RowA Step mem dom cN Cs EP Mono memO GL gl_push RowM AtD one_cN info26 cell_at bk_frozen bk_block)
set_option linter.unusedVariables false
set_option linter.unusedSimpArgs false
theorem inc_nodup : ∀ {ms : List Nn}, Inc ms → ms.Nodup
  | [], _ => List.nodup_nil
  | m :: ms, h => by
    have h' := List.pairwise_cons.1 h
    exact List.nodup_cons.2 ⟨fun hm => by have := h'.1 m hm; rw [cmpM_self] at this; omega, inc_nodup h'.2⟩
theorem rg_step {w w' : World} {F F' : Nat → Prop} {b r n cnt : Nat} {D : DataW Value} {left : Lit → Bool} (h : w.ranges Tryd.prog 9 entN b r n D left cnt) (s : Step w w' F F') (hb' : ¬ F b) (hr' : ¬ F r) : w'.ranges Tryd.prog 9 entN b r n D left cnt := by
  have h1 := h.owns.lt
  have h2 := h.lt
  obtain ⟨es, clock, since, seen, c0, hb, F, hs, hD, hr, rest⟩ := h
  exact ⟨es, clock, since, seen, c0, (s.block b h1 hb').trans hb, F, hs, hD, (s.block r h2 hr').trans hr, rest⟩
theorem gl_grown {lo n r : Nat} {v : Value} {done : List Nn} {w w' : World} (h : GL 0 26 5 w v n (PW lo done)) (hg : w.grownBy w' (some r)) (ho : ∀ g, v.ownBlock = some g → lo ≤ g) (hr : r < lo) : GL 0 26 5 w' v n (PW lo done) := by
  obtain ⟨xs, h1, h2⟩ := h.own
  have hb : ∀ i, lo ≤ i → i < w.heap.size → w'.heap[i]? = w.heap[i]? := fun i hi hl => hg.block i hl (fun e => by
    have : i = r := by simpa using e
    omega)
  refine ⟨xs, G.own_at h1 (fun k hk => hb k (ho k hk) (h1.lt k hk).2), fun k hk => ?_⟩
  obtain ⟨cs, a1, a2, m, q, d, a3, a4, a5⟩ := h2 k hk
  refine ⟨cs, a1, a2, m, q, d, a3, a4, a5.keep (fun i hi => ?_)⟩
  have e := hb i hi.2.1 hi.1.2.1
  exact ⟨e, ⟨hi.1.1, Nat.lt_of_lt_of_le hi.1.2.1 hg.size, hi.1.2.2⟩, hi.2.1, fz_at e hi.2.2⟩
theorem own_fresh {w w' : World} {p : Option Addr} {c : Nat} {zs : List Int} (o : w'.ownsRow w.heap.size 3 1 (.slice p zs.length c) zs.length (ints zs)) : RowA (fresh w.heap.size w') w' p zs := fun h0 => by
  obtain ⟨g, off, e1, e2, e3⟩ := Ra.own o h0
  obtain ⟨g', cap, hv, _, _⟩ := o.form h0
  have hg : g = g' ∧ off = 0 := by rw [e1] at hv; simp at hv; exact hv.1
  obtain ⟨rfl, rfl⟩ := hg
  subst e1
  exact ⟨g, 0, rfl, ⟨(o.lt g rfl).1, e2, fun j => by
    have := World.ownsRow.frozenAt o j
    exact this⟩, e3⟩
theorem gl_list {lo : Nat} {v : Value} {done : List Nn} {w : World} (h : GL 0 26 5 w v done.length (PW lo done)) (hpos : 0 < done.length) : ∃ (g cap : Nat) (L : List El), v = .slice (some ⟨g, 0, none⟩) done.length cap ∧ g < w.heap.size ∧ L.map (·.1) = done ∧ (∀ k (hk : k < L.length), Cs w g (k * 5) (eC L[k])) ∧ (∀ e ∈ L, RowA (fun i => (i ≠ g ∧ i < w.heap.size) ∧ lo ≤ i ∧ fz w i) w e.2.1 e.1.zs) ∧ fz w g ∧ done.length ≤ cap := by
  obtain ⟨xs, h1, h2⟩ := h.own
  obtain ⟨g, cap, rfl, _, hlt⟩ := h1.form hpos
  have hcap : done.length ≤ cap := by
    rcases h1.2 with ⟨hv, _⟩ | ⟨g', cap', cur, hv, _, _, h5, _⟩
    · cases hv
    · cases hv; exact h5
  obtain ⟨L, hL1, hL2⟩ := list_of (β := Option Addr × Nat) done (fun k m b => Cs w g (k * 5) (cN m b.1 b.2) ∧ RowA (fun i => (i ≠ g ∧ i < w.heap.size) ∧ lo ≤ i ∧ fz w i) w b.1 m.zs) (fun k hk => by
    obtain ⟨cs, a1, a2, m, q, d, a3, rfl, a5⟩ := h2 k hk
    obtain rfl : done[k] = m := by
      rw [List.getElem?_eq_getElem hk] at a3
      exact Option.some.inj a3
    refine ⟨(q, d), fun j v hj => ?_, a5.mono (fun i hi => ⟨⟨fun e => hi.1.2.2 (by rw [e]; rfl), hi.1.2.1⟩, hi.2⟩)⟩
    have hj5 : j < 5 := (Array.getElem?_eq_some_iff.1 hj).1
    rw [h1.cellAt (g := g) (cap := cap) (k * 5 + j) (by omega), a2 j hj5]
    exact hj)
  refine ⟨g, cap, L, rfl, hlt, hL1, fun k hk => (hL2 k hk).1, fun e he => ?_, fun j => h1.frozenAt j, hcap⟩
  obtain ⟨k, hk, rfl⟩ := List.getElem_of_mem he
  exact (hL2 k hk).2
theorem sorted_row {lo g cap : Nat} {w w' : World} {L L' : List El} {ms : List Nn} (hp : L'.Perm L) (hms : L'.map (·.1) = ms) (hrow : ∀ k (h : k < L'.length), Cs w' g (k * 5) (eC L'[k])) (hst : Step w w' (fun j => j = g) (fun j => j = g)) (hA : ∀ e ∈ L, RowA (fun i => (i ≠ g ∧ i < w.heap.size) ∧ lo ≤ i ∧ fz w i) w e.2.1 e.1.zs) (hg : g < w.heap.size) (hlo : lo ≤ g) (hf : fz w' g) (hc : L'.length ≤ cap) : RowM (fresh lo w') w' (some ⟨g, 0, none⟩) cap ms := by
  subst hms
  refine .inr ⟨g, 0, rfl, ⟨hlo, Nat.lt_of_lt_of_le hg hst.size, hf⟩, fun k hk => ?_, by simpa using hc⟩
  have hk' : k < L'.length := by simpa using hk
  have h1 := hA L'[k] (hp.mem_iff.1 (List.getElem_mem hk'))
  rw [List.getElem_map]
  refine ⟨L'[k].2.1, L'[k].2.2, ?_, ?_⟩
  · rw [Nat.zero_add]; exact hrow k hk'
  · exact h1.keep (fun i hi => ⟨hst.block i hi.1.2 hi.1.1, hi.2.1, Nat.lt_of_lt_of_le hi.1.2 hst.size, fz_at (hst.block i hi.1.2 hi.1.1) hi.2.2⟩)
set_option maxRecDepth 100000 in
set_option maxHeartbeats 2000000 in
theorem nodes33 (S : Nat → Prop) (B tb mb c : Nat) (D : DataW Value) (ms : List Nn) (ids : List Int) (w : World) (h : TB B w tb mb c D) (hm : MV S w D ms ids) (hl : ms.length ≤ 1000) :
    Calls Tryd.prog 33 #[.pointer (some ⟨tb, 0, none⟩)] w fun e w' => ∃ q cap, e = .returned (.slice q ms.length cap) ∧ RowM (fresh w.heap.size w') w' q cap ms ∧ BK w w' := by
  have hu := Lib.hid (usable_any tb w h.c0)
  have c1 := h.c1
  have HM := Lib.hid h.map
  have MV0 := Lib.hid hm
  have HL := Lib.hid hl
  have MLT := Lib.hid h.map.lt
  clear h hm hl
  go_enter Tryd.func33, Tryd.ntmps33
  go_wp2_with (first | (go_at_call 46; refine hu.out.mono ?_; rintro e w' ⟨rfl, rfl⟩) | (at_range; refine wpList_range_own _ rfl _ 56 rfl 9 71 keyLaw Tryd.underlying56 entN mb c D rfl HM.out ?_; intro w0 hrg0 hg0 hs0) | go_in)
  go_frame
  have HR0 := Lib.hid hrg0
  have K0 := Lib.hid (show BK w w0 from (Below.refl w.heap.size w).grown hg0 (Nat.le_refl _) (fun r hr => by cases hr))
  have S0 := Lib.hid hs0
  clear hrg0 hg0 hs0 c1
  go_loopw [3] (fun v wr => ∃ (left : Lit → Bool) (cnt : Nat) (done : List Nn), wr.ranges Tryd.prog 9 entN mb w.heap.size c D left cnt ∧ GL 0 26 5 wr v done.length (PW (w.heap.size + 1) done) ∧ (∀ g, v.ownBlock = some g → w.heap.size + 1 ≤ g) ∧ (done = [] → v = .slice none 0 0) ∧ (BK w wr ∧ w.heap.size + 1 ≤ wr.heap.size) ∧ Done D left done ms) (fun _ wr => wr.rangeLeft mb w.heap.size)
  case atStart => exact ⟨_, _, [], HR0.out, GL.nil _ _ _ _ _, (fun g hg => by cases hg), (fun _ => rfl), ⟨K0.out, by rw [S0.out]; omega⟩, Done.start MV0.out⟩
  case round =>
    obtain ⟨left, cnt, done, hrg, hgl, hown, hnil, ⟨hb, hsz⟩, hdn⟩ := hrel
    have HR := Lib.hid hrg
    have HG := Lib.hid hgl
    have HO := Lib.hid hown
    have HN := Lib.hid hnil
    have KB := Lib.hid hb
    have SZ := Lib.hid hsz
    have DN := Lib.hid hdn
    clear hrg hgl hown hnil hb hdn hsz
    go_wp2_with (at_next; refine wpList_next_ranges _ rfl _ rfl 9 keyLaw entN Value.string mkE inv9 invE mb w.heap.size c D left cnt rfl HR.out ?_ ?_)
    · intro hc0 hl0
      have ME := DN.out.end hl0
      by_cases e : done = []
      · obtain rfl := HN.out e
        obtain rfl : ms = [] := by
          rw [List.eq_nil_iff_forall_not_mem]
          intro z hz
          rw [← ME z, e] at hz
          cases hz
        have HS := Lib.hid (AnyF.slices_SortFunc_none Tryd.sortN none 0 (.func (.func 13) #[] #[]) wr)
        clear ME hc0 hl0
        go_wp2_with (go_at_call 48; refine HS.out.mono ?_; rintro e w' ⟨rfl, rfl⟩)
        go_ret
        exact ⟨none, 0, rfl, .inl ⟨rfl, fun _ => rfl⟩, KB.out⟩
      · have hpos : 0 < done.length := List.length_pos_iff.2 e
        obtain ⟨g, cap, L, hv, hg1, hL1, hL2, hL3, hL4, hL5⟩ := gl_list HG.out hpos
        have HO2 := HO.out
        rw [hv] at HO2
        have hgl := HO2 g rfl
        have hLL : L.length = done.length := by rw [← hL1, List.length_map]
        have hdm : done.length = ms.length := by
          have hp : done.Perm ms := (List.perm_ext_iff_of_nodup DN.out.nd (inc_nodup MV0.out.inc)).2 ME
          exact hp.length_eq
        have HS := Lib.hid (sort48 L (by omega) (by have := HL.out; omega) wr g cap hg1 hL2 hL4 (fun e he => ⟨(hL3 e he).mono (fun i hi => hi.1), by
          have : e.1 ∈ ms := (ME e.1).1 (by rw [← hL1]; exact List.mem_map.2 ⟨e, he, rfl⟩)
          exact (MV0.out.ok _ this).l⟩) (by rw [hL1]; exact DN.out.nd))
        have L3 := Lib.hid hL3
        have L4 := Lib.hid hL4
        have FIN := Lib.hid (And.intro hg1 (And.intro hL1 (And.intro hL5 (And.intro hgl (And.intro hLL hdm)))))
        have ME' := Lib.hid ME
        rw [hLL] at HS
        subst hv
        clear ME hc0 hl0 hL2 hL3 hL4 hL5 hgl hLL hg1 hL1 e HO2 hpos
        rw [hdm] at HS ⊢
        clear hdm
        go_wp2_with (go_at_call 48; refine HS.out.mono ?_; rintro e w' ⟨rfl, L', hp, hinc, hrow, hst, hfr⟩)
        go_ret
        obtain ⟨hg1, hL1, hL5, hgl, hLL, hdm⟩ := FIN.out
        have hms : L'.map (·.1) = ms := inc_ext hinc MV0.out.inc (fun z => by rw [(hp.map (·.1)).mem_iff, hL1]; exact ME'.out z)
        refine ⟨some ⟨g, 0, none⟩, cap, rfl, sorted_row hp hms hrow hst (fun e he => (L3.out e he).mono (fun i hi => ⟨hi.1, by have := hi.2.1; omega, hi.2.2⟩)) hg1 (by omega) (fun j => ?_) (by rw [hp.length_eq, hLL]; exact hL5), Step.bk_new KB.out hst (fun k hk => by rw [hk]; omega)⟩
        exact (hfr j).trans (L4.out j)
    · intro x en kl y1 y2 w1 cnt1 hkey hlk hy hat hrg1 hlt hg1 hs1 hen
      obtain ⟨m, q, d, id, hmm, rfl, hE, hR⟩ := MV0.out.entry (DN.out.has kl hlk) hy hat
      rw [hE] at hen ⊢
      have K1 := Lib.hid (show BK w w1 from KB.out.bl'.grown hg1 (bk_size KB.out) (fun r hr => by cases hr; exact Nat.le_refl _))
      have G1 := Lib.hid (gl_grown HG.out hg1 HO.out (Nat.lt_succ_self _))
      have HR1 := Lib.hid hrg1
      have LT1 := Lib.hid hlt
      have DN1 := Lib.hid (DN.out.next MV0.out hmm hlk)
      have RQ := Lib.hid (show RowA (dom S w1) w1 q m.zs from hR.keep (fun i hi => ⟨bk_block K1.out hi.2, hi.1, Nat.lt_of_lt_of_le hi.2 (bk_size K1.out)⟩))
      have OK := Lib.hid (MV0.out.ok m hmm)
      have SZ1 := Lib.hid (show w.heap.size + 1 ≤ w1.heap.size from by rw [hs1]; exact SZ.out)
      unfold eV at hen ⊢
      clear hkey hlk hy hat hrg1 hlt hg1 hs1 hE hR hmm
      have KA := Lib.hid (bk_alloc (BK.refl w1) (.cells #[.int .i64 m.op, .int .i64 m.wd, .int .u64 m.vl, .string m.nm, .slice q m.zs.length d, .int .i64 id] 71))
      go_wp2_with fail
      generalize w1.alloc (.cells #[.int .i64 m.op, .int .i64 m.wd, .int .u64 m.vl, .string m.nm, .slice q m.zs.length d, .int .i64 id] 71) = w2 at *
      refine (copy_any m.op m.wd m.vl m.nm q d m.zs w2 (RowA.to_ra (show RowA (dom S w2) w2 q m.zs from RQ.out.keep (fun i hi => ⟨bk_block KA.out hi.2, hi.1, Nat.lt_of_lt_of_le hi.2 (bk_size KA.out)⟩)) (fun k hk => hk.2)) OK.out.l).mono ?_
      rintro e w3 ⟨p1, c1, rfl, ho3, hb3⟩
      have K3 := Lib.hid (bk_tr KA.out hb3)
      have F3 := Lib.hid (own_fresh ho3)
      have G3 := Lib.hid (G1.out.bk (PW.mono _ _) K3.out)
      have GLT := Lib.hid G1.out.lt
      have ZA := Lib.hid (bk_size KA.out)
      have HSM := Lib.hid (show done.length ≤ 200000 from by
        have h1 := (List.Nodup.length_le_of_subset DN.out.nd (fun z hz => DN.out.sub z hz) : done.length ≤ ms.length)
        have := HL.out
        omega)
      have PN := Lib.hid (show PW (w.heap.size + 1) (done ++ [m]) (memO 0 w3 u3) w3 done.length (cN m p1 c1) from ⟨m, p1, c1, by rw [List.getElem?_append_right (Nat.le_refl _), Nat.sub_self]; rfl, rfl, F3.out.mono (fun i hi => ⟨⟨Nat.zero_le _, hi.2.1, fun e => by have := (GLT.out i e).2; have := hi.1; have := ZA.out; omega⟩, by have := hi.1; have := ZA.out; have := SZ1.out; omega, hi.2.2⟩)⟩)
      clear ho3 hb3 hen
      go_wp2_with (at_builtin; go_must (refine wpList_plain rfl (fun K9 hK9 => gl_push _ _ 43 26 5 64 _ rfl Tryd.underlying43 info26 rfl (by decide) (by decide) 0 u3 done.length (PW (w.heap.size + 1) done) (PW (w.heap.size + 1) (done ++ [m])) (PW.mono _ _) (PW.mono _ _) (fun D w k cs hk h => PW.snoc _ done m D w k cs hk h) rfl G3.out (cN m p1 c1) rfl (one_cN m p1 c1) rfl (Nat.zero_le _) HSM.out PN.out (fun g9 cap9 w9 hg9 hs9 => hK9 _ _ ?_))))
      have G9 := Lib.hid (show GL 0 26 5 w9 (.slice (some ⟨g9, 0, none⟩) (done.length + 1) cap9) (done ++ [m]).length (PW (w.heap.size + 1) (done ++ [m])) from by rw [List.length_append]; exact hg9)
      have S9 := Lib.hid hs9
      have O9 := Lib.hid (show ∀ g, (Value.slice (some ⟨g9, 0, none⟩) (done.length + 1) cap9).ownBlock = some g → w.heap.size + 1 ≤ g from fun g hg => by
        obtain rfl : g9 = g := by simpa [Value.ownBlock] using hg
        rcases hs9.sub g9 rfl with h | h
        · exact HO.out _ h
        · have := bk_size K3.out; have := SZ1.out; omega)
      have R9 := Lib.hid (rg_step (rg_step HR1.out (Step.bk (F := fun _ => False) K3.out) (fun h => h) (fun h => h)) hs9 (fun h => by have := HO.out _ h; have := MLT.out; omega) (fun h => by have := HO.out _ h; omega))
      clear hg9 hs9
      go_wp2_with fail
      go_roundw
      case rel => exact ⟨_, _, done ++ [m], R9.out, G9.out, O9.out, (fun h => by simp at h), ⟨Step.bk_new (bk_tr K1.out K3.out) S9.out (fun k hk => by have := HO.out k hk; omega), by have := S9.out.size; have := bk_size K3.out; have := SZ1.out; omega⟩, DN1.out⟩
      case measure =>
        rw [R9.out.left_eq, HR.out.left_eq]
        exact LT1.out
end Go.Proofs.YtclefcjojlkcnaaDoor.V
