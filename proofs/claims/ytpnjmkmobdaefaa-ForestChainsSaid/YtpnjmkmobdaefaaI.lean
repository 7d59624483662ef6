/- Path. -/
import Derived.Test.YtpnjmkmobdaefaaH
import Derived.Laws.EntriesVeiled
namespace Go.Proofs.Ytpnjmkmobdaefaa
open Go.RowKit Go.Maps
set_option linter.unusedVariables false
set_option linter.unusedSimpArgs false
def pathL (M : List L3) (a b : Int) : List L3 := (pathO M a b).getD []
theorem lk_len (L : List L3) : ∀ (s : List (Nat × Int)) (y : Int), (lk L y s).length = s.length
  | [], y => rfl
  | (j, y') :: s, y => by show (_ :: lk L y' s).length = _; simp [lk_len L s y']
theorem trail_len {M : List L3} {x : Int} {t : List (Nat × Int)} (h : VT M.reverse x t) (hn : (ix t).Nodup) : t.length ≤ M.length := by
  have := pigeon M.length (ix t) hn (fun k hk => by simpa using ix_lt h k hk)
  simpa [ix] using this
theorem pathL_len (M : List L3) (a b : Int) : (pathL M a b).length ≤ M.length := by
  unfold pathL
  cases e : pathO M a b with
  | none => simp
  | some p =>
    unfold pathO at e
    split at e
    · obtain ⟨t, h1, h2, _, h4⟩ := pr_trail e
      rw [← h4]
      simp only [Option.getD_some, lk_len]
      exact trail_len h1 h2
    · cases e
def PP (w : World) (M : List L3) (a b : Int) (e : Ending) (w' : World) : Prop := ∃ v, e = .returned (.tuple #[v, .bool (sameB M a b)]) ∧ w'.ownsRow w.heap.size 44 3 v (pathL M a b).length (flat3 (pathL M a b)) ∧ BK w w'
theorem boxed (w : World) (u u' : Value) (T : TypeId) : ((w.alloc (.cells #[u] T)).setCell ⟨w.heap.size, 0, none⟩ u').heap[w.heap.size]? = some (.cells #[u'] T (0, 0)) := by
  rw [heap_setCell_same _ w.heap.size 0 #[u] T u' (heap_alloc_new w _)]; rfl
theorem bk_boxed {w0 w : World} (h : BK w0 w) (u u' : Value) (T : TypeId) : BK w0 ((w.alloc (.cells #[u] T)).setCell ⟨w.heap.size, 0, none⟩ u') := bk_set (bk_alloc h _) _ _ (bk_size h)
set_option maxRecDepth 100000 in
set_option maxHeartbeats 2000000 in
theorem path21 (w : World) (B : Nat) (o : FO) (M : List L3) (N : Nat) (h : FS w B o M N) (a b : Int) (ha : okI a) (hb : okI b) (hk : M.length ≤ 1000) : Calls Try.prog 21 #[.pointer (some ⟨o.f, 0, none⟩), .int .i64 a, .int .i64 b] w (PP w M a b) := by
  have k0 := bk_alloc (BK.refl w) (.cells #[.pointer (some ⟨o.f, 0, none⟩)] 23)
  have S23 := Lib.hid (same23 (w.alloc (.cells #[.pointer (some ⟨o.f, 0, none⟩)] 23)) B o M N (h.bk k0) a b ha hb)
  have hf0 : (w.alloc (.cells #[.pointer (some ⟨o.f, 0, none⟩)] 23)).heap[w.heap.size]? = some (.cells #[.pointer (some ⟨o.f, 0, none⟩)] 23 (0, 0)) := heap_alloc_new w _
  have cf0 := one_cell hf0
  by_cases hs : sameB M a b = true
  · have hab : 0 ≤ a ∧ 0 ≤ b := by
      refine ⟨?_, ?_⟩
      · rcases Int.lt_or_le a 0 with q | q
        · rw [same_neg (.inl q)] at hs; cases hs
        · exact q
      · rcases Int.lt_or_le b 0 with q | q
        · rw [same_neg (.inr q)] at hs; cases hs
        · exact q
    have hcr := (same_cr hab.1 hab.2).1 hs
    have M32 := Lib.hid (meeting32 (w.alloc (.cells #[.pointer (some ⟨o.f, 0, none⟩)] 23)) B o M N (h.bk k0).fb h.wf h.u a b ha hb hcr hk)
    obtain ⟨ρ, hr⟩ := h.u.acc
    have HR := Lib.hid hr
    have HF := Lib.hid h
    have HS := Lib.hid hs
    have HAB := Lib.hid hab
    have HA := Lib.hid ha
    have HB := Lib.hid hb
    have K0 := Lib.hid k0
    have HF0 := Lib.hid hf0
    rw [hs] at S23
    clear h hr hs hab hcr ha hb k0 hf0
    go_enter Try.func21, Try.ntmps21
    go_wp2_with fail
    refine S23.out.mono ?_
    rintro e w' ⟨rfl, rfl⟩
    clear S23
    go_wp2_with fail
    refine M32.out.mono ?_
    rintro e w1 ⟨hb1, top, s, t, rfl, htop, hs1, ht1, hes, het, hdis⟩
    clear M32
    have B1 := Lib.hid (bk_tr K0.out hb1)
    have cf1 := cellBk cf0 hb1
    have HF1 := Lib.hid (blk_keep HF0.out hb1)
    have HP := Lib.hid (show pathL M a b = lk M.reverse a s ++ (lk M.reverse b t).reverse.map turnL from by
      unfold pathL pathO
      rw [if_pos HAB.out, ut_path HF.out.wf HF.out.u hs1 ht1 (hes.trans het.symm) hdis]; rfl)
    have hs3 : s.length ≤ 1000 := by have := trail_len (ut_vt HF.out.u hs1) (ut_nodup HF.out.u HR.out hs1); omega
    have ht3 : t.length ≤ 1000 := by have := trail_len (ut_vt HF.out.u ht1) (ut_nodup HF.out.u HR.out ht1); omega
    have US := Lib.hid hs1
    have UTT := Lib.hid ht1
    have ES := Lib.hid hes
    have ET := Lib.hid het
    clear hb1 hs1 ht1 hes het hdis cf0
    have kW := bk_alloc (bk_alloc (BK.refl w1) (.cells #[.int .i64 top] 3)) (.cells #[.slice none 0 0] 26)
    have hT : ((w1.alloc (.cells #[.int .i64 top] 3)).alloc (.cells #[.slice none 0 0] 26)).heap[w1.heap.size]? = some (.cells #[.int .i64 top] 3 (0, 0)) := (heap_alloc_old _ _ (by simp)).trans (heap_alloc_new w1 _)
    have hP : ((w1.alloc (.cells #[.int .i64 top] 3)).alloc (.cells #[.slice none 0 0] 26)).heap[w1.heap.size + 1]? = some (.cells #[.slice none 0 0] 26 (0, 0)) := by
      have := heap_alloc_new (w1.alloc (.cells #[.int .i64 top] 3)) (.cells #[.slice none 0 0] 26)
      rw [sz1] at this; exact this
    have zW : ((w1.alloc (.cells #[.int .i64 top] 3)).alloc (.cells #[.slice none 0 0] 26)).heap.size = w1.heap.size + 2 := by simp
    go_wp2_with fail
    generalize (w1.alloc (.cells #[.int .i64 top] 3)).alloc (.cells #[.slice none 0 0] 26) = w2 at kW hT hP zW ⊢
    have B2 := Lib.hid (bk_tr B1.out kW)
    have P2 := Lib.hid (show PB w2 w.heap.size w1.heap.size w.heap.size (w1.heap.size + 1) top o.f (.slice none 0 0) [] from ⟨hT, blk_keep HF1.out kW, hP, World.ownsRow_nil _ _ _ _, by have := bk_size B1.out; omega⟩)
    have hw1 := bk_size B1.out
    clear kW hT hP zW cf1
    go_loopw [10] (fun i wr => ∃ x r v P, i = .int .i64 x ∧ okI x ∧ UT M o.up x r ∧ en x r = top ∧ P ++ lk M.reverse x r = lk M.reverse a s ∧ PB wr w.heap.size w1.heap.size w.heap.size (w1.heap.size + 1) top o.f v P ∧ BK w wr) (fun i _ => ρ (intOf i))
    case atStart => exact ⟨a, s, _, [], rfl, HA.out, US.out, ES.out, rfl, P2.out, B2.out⟩
    case round =>
      obtain ⟨x, r, v, P, rfl, hx, hr1, hr2, hr3, hpb, hbk⟩ := hrel
      have ct := one_cell hpb.ct
      have cf := one_cell hpb.cf
      have PBH := Lib.hid hpb
      have BB := Lib.hid hbk
      cases r with
      | nil =>
        have hr2 : x = top := hr2
        subst hr2
        have PE := Lib.hid (show P = lk M.reverse a s from by simpa [lk] using hr3)
        clear hr1 hr3 hpb hbk
        have kD := bk_alloc (BK.refl wr) (.cells #[clo w1.heap.size w.heap.size wr.heap.size (w1.heap.size + 1)] 55)
        have hD : (wr.alloc (.cells #[clo w1.heap.size w.heap.size wr.heap.size (w1.heap.size + 1)] 55)).heap[wr.heap.size]? = some (.cells #[clo w1.heap.size w.heap.size wr.heap.size (w1.heap.size + 1)] 55 (0, 0)) := heap_alloc_new wr _
        have hPl : P.length + t.length ≤ 3000 := by rw [PE.out, lk_len]; omega
        have D34 := Lib.hid (desc34 w B o M N HF.out.fb HF.out.u hk w1.heap.size w.heap.size wr.heap.size (w1.heap.size + 1) x t b v P (wr.alloc (.cells #[clo w1.heap.size w.heap.size wr.heap.size (w1.heap.size + 1)] 55)) HB.out UTT.out ET.out hPl (bk_tr BB.out kD) hD (PBH.out.keep kD))
        rw [PE.out, ← HP.out] at D34
        clear kD hD hPl
        unfold clo at D34
        go_wp2_with fail
        refine D34.out.mono ?_
        rintro e w5 ⟨rfl, hb5, hd5, v5, hp5⟩
        have cp5 := one_cell hp5.cp
        have HP5 := Lib.hid hp5
        have HB5 := Lib.hid hb5
        obtain ⟨p5, c5, rfl⟩ := own_shape hp5.own
        clear hb5 hd5 hp5 ct cf
        go_wp2_with fail
        go_ret2
        exact ⟨_, by rw [HS.out]; rfl, HP5.out.own, HB5.out⟩
      | cons q r =>
        obtain ⟨k, z⟩ := q
        obtain ⟨⟨hup, l, hl, hz⟩, hr4⟩ := hr1
        have hr2 : en z r = top := hr2
        have h1 := HR.out x k l hup hl
        have hne : (x != top) = true := by
          have h2 := (ut_rank HR.out hr4).2
          rw [← hz] at h1
          rw [hr2] at h2
          have : x ≠ top := fun e => by subst e; omega
          simpa using this
        have P33 := Lib.hid (parent33 wr B o M N (HF.out.fb.bk hbk) x hx k l hup hl (by omega))
        have zo := Lib.hid (show okI z from by rw [hz]; exact oth_ok HF.out.fb hl x)
        rw [← hz] at P33 h1
        have LT := Lib.hid h1
        have RR := Lib.hid hr4
        have RE := Lib.hid hr2
        have HQ := Lib.hid (show (P ++ [⟨x, z, l.y⟩]) ++ lk M.reverse z r = lk M.reverse a s from by
          rw [← hr3]
          show (P ++ [⟨x, z, l.y⟩]) ++ lk M.reverse z r = P ++ (⟨x, z, whyAt M.reverse k⟩ : L3) :: lk M.reverse z r
          rw [why_at hl, List.append_assoc]; rfl)
        have hPl : P.length ≤ 3000 := by
          have := congrArg List.length hr3
          rw [List.length_append, lk_len, lk_len] at this
          omega
        obtain ⟨la, lb, ly⟩ := l
        dsimp only at P33 HQ
        clear hup hl hz hr4 hr2 hr3 h1 hpb hbk hx
        go_wp2_with fail
        refine P33.out.mono ?_
        rintro e w3 ⟨rfl, hb3⟩
        have P3 := Lib.hid (PBH.out.keep hb3)
        have B3 := Lib.hid (bk_tr BB.out hb3)
        have cp := one_cell P3.out.cp
        clear ct cf hb3
        go_wp2_with (at_builtin; refine wpList_push3 rfl _ _ rfl w.heap.size v P rfl (own_at P3.out.own fun j hj => heap_alloc_old w3 _ (P3.out.own.lt j hj).2) ⟨w3.heap.size, 0, none⟩ 1 ⟨x, z, ly⟩ rfl (news3 w3 ⟨x, z, ly⟩ 44) (by omega) (by have := bk_size B3.out; simp; omega) ?_)
        intro g cap w4 ho4 hg4 hat4
        have S4 := Lib.hid (P3.out.push hg4 ho4 hat4)
        have cfr4 := one_free (push_frame (pb := w1.heap.size + 1) (v' := v) P3.out.own hg4 P3.out.cp (by decide))
        have ce4 := one_cell (push_frame (pb := w1.heap.size + 1) (v' := v) P3.out.own hg4 P3.out.cp (by decide))
        clear ho4 hg4 hat4 cp
        go_wp2_with fail
        go_roundw
        case rel => exact ⟨z, r, _, _, rfl, zo.out, RR.out, RE.out, HQ.out, S4.out.1, S4.out.2.2 w B3.out (Nat.le_refl _)⟩
        case measure => simpa [intOf] using LT.out
  · have hs : sameB M a b = false := by simpa using hs
    have QQ := Lib.hid (show PP w M a b (.returned (.tuple #[.slice none 0 0, .bool false])) (w.alloc (.cells #[.pointer (some ⟨o.f, 0, none⟩)] 23)) from by
      refine ⟨_, by rw [hs], ?_, k0⟩
      have : pathL M a b = [] := by
        unfold pathL
        unfold sameB at hs
        cases e : pathO M a b with
        | none => rfl
        | some p => rw [e] at hs; simp at hs
      rw [this]
      exact World.ownsRow_nil _ _ _ _)
    rw [hs] at S23
    clear h k0 hf0 hs
    go_enter Try.func21, Try.ntmps21
    go_wp2_with fail
    refine S23.out.mono ?_
    rintro e w' ⟨rfl, rfl⟩
    go_wp2_with fail
    go_ret2
    exact QQ.out
end Go.Proofs.Ytpnjmkmobdaefaa
