/- Undo, the loop. -/
import Derived.Test.YtihoegihmgeenaaO
namespace Go.Proofs.Ytihoegihmgeenaa
open Go.RowKit
set_option linter.unusedVariables false
set_option linter.unusedSimpArgs false
theorem op_cells {w : World} {B g m cap : Nat} {x5 : List (Int × Int)} {a l : Int} (o : w.ownsRow B 53 2 (sl g (m + 1) cap) (m + 1) (opv (x5 ++ [(a, l)]))) (hl : x5.length = m) :
    w.cell? ⟨g, m * 2, none⟩ = some (.int .i64 a) ∧ w.cell? ⟨g, m * 2 + 1, none⟩ = some (.int .i64 l) := by
  have h5 := len_opv x5
  constructor
  · rw [World.ownsRow.cellAt o _ (by omega), opv_snoc, List.getElem?_append_right (by omega), show m * 2 - (opv x5).length = 0 by omega]; rfl
  · rw [World.ownsRow.cellAt o _ (by omega), opv_snoc, List.getElem?_append_right (by omega), show m * 2 + 1 - (opv x5).length = 1 by omega]; rfl
theorem take_par (t : List HOp) : (par (none :: t)).take (nE t) = par t := by simp only [par]; exact List.take_left' (len_par t)
theorem take_siz (t : List HOp) : (siz (none :: t)).take (nE t) = siz t := by simp only [siz]; exact List.take_left' (len_siz t)
theorem take_lst (t : List HOp) : (lst (none :: t)).take (nE t) = lst t := by simp only [lst]; exact List.take_left' (len_lst t)
theorem take_nxt (t : List HOp) : (nxt (none :: t)).take (nE t) = nxt t := by simp only [nxt]; exact List.take_left' (len_nxt t)
theorem take_trl (o : HOp) (t : List HOp) : (trl (o :: t)).take t.length = trl t := by
  cases o with
  | none => simp only [trl]; exact List.take_left' (len_trl t)
  | some p => obtain ⟨r, c⟩ := p; simp only [trl]; exact List.take_left' (len_trl t)
set_option maxRecDepth 100000 in
set_option maxHeartbeats 4000000 in
theorem undo_yes (B b : Nat) (h : List HOp) (F : Nat → Prop) (mk : Nat) (w : World) (u : U w B b h F) (hm : mk ≤ h.length) (hs : h.length ≤ 60) :
    Calls Try.prog 15 #[.pointer (some ⟨b, 0, none⟩), .int .i64 mk] w fun e w' => e = .returned (.bool true) ∧ ∃ F', U w' B b (h.drop (h.length - mk)) F' ∧ Step w w' F F' := by
  have hus := Lib.hid (usable_any B b h F w u)
  obtain ⟨p, c, k5⟩ := u.k5
  have hd : decide ((mk : Int) < 0) = false := by simp
  have hd2 : decide (h.length < mk) = false := by simp; omega
  have hu := Lib.hid u
  clear u
  go_enter Try.func15, Try.ntmps15
  go_wp2_with fail
  refine hus.out.mono ?_; rintro e w' ⟨rfl, rfl⟩
  go_wp2_with fail
  go_loopw [5] (fun _ wr => ∃ j F', j ≤ h.length - mk ∧ U wr B b (h.drop j) F' ∧ Step w wr F F') (fun _ wr => trLen b wr)
  case atStart => exact ⟨0, F, by omega, hu.out, Step.refl _ _⟩
  case round =>
    obtain ⟨j, F', hj, u, T⟩ := hrel
    have hlen : (h.drop j).length = h.length - j := List.length_drop
    have htl := u.trLen
    have hok := u.ok
    obtain ⟨p, c, k5⟩ := u.k5
    by_cases hend : j = h.length - mk
    · subst hend
      have hU := Lib.hid (And.intro u T)
      rw [show (h.drop (h.length - mk)).length = mk by omega] at k5
      clear u T htl hok hlen
      go_wp2_with fail
      go_ret
      exact ⟨rfl, F', hU.out.1, hU.out.2⟩
    · obtain ⟨o, t, ht⟩ : ∃ o t, h.drop j = o :: t := by
        cases hd : h.drop j with
        | nil => rw [hd] at hlen; simp at hlen; omega
        | cons o t => exact ⟨o, t, rfl⟩
      have ht' : t = h.drop (j + 1) := by
        have := List.drop_drop (l := h) (i := 1) (j := j)
        rw [ht] at this; simp at this; rw [this]
      have Ht := Lib.hid ht'
      have hjl : j + 1 ≤ h.length - mk := by omega
      have hmk : (mk : Int) < ((t.length + 1 : Nat) : Int) := by
        rw [ht] at hlen; simp at hlen; omega
      have htb : t.length ≤ 60 := by rw [ht] at hlen; simp at hlen; omega
      rw [ht] at u k5 htl hok
      simp only [List.length_cons] at k5 htl
      clear ht hlen ht' hend
      have Q0 : RW wr F' B b (nE (o :: t)) (t.length + 1) (par (o :: t)) (siz (o :: t)) (lst (o :: t)) (nxt (o :: t)) (trl (o :: t)) wr := RW.start u (by cases o with | none => simp [nE] | some p => obtain ⟨r, c⟩ := p; have := hok.2.1; simp only [nE]; omega) 0
      have HQ := Lib.hid Q0
      clear k5 u
      obtain ⟨g1, c1, g2, c2, g3, c3, g4, c4, g5, c5, S, T5⟩ := Q0
      have A := five_fct S
      have k5 : wr.cell? ⟨b, 5, none⟩ = some (sl g5 (t.length + 1) c5) := A.k5
      have hc5 := own_cap A.o5
      have Hh := Lib.hid htl
      have HT := Lib.hid T
      clear htl T
      cases o with
      | none =>
        obtain ⟨o0, o1⟩ := op_cells (x5 := trl t) (a := -1) (l := 0) A.o5 (len_trl t)
        clear A S T5
        go_wp2_with fail
        have Qa := HQ.out.alloc (.cells #[.int .i64 (-1), .int .i64 0] 53) 0
        refine (undoMake_any wr F' B b (nE t) (t.length + 1) _ _ _ _ _ _ Qa (by have := nE_le t; omega)).mono ?_
        rintro e w1 ⟨rfl, Q1⟩
        rw [take_par, take_siz, take_lst, take_nxt] at Q1
        clear Qa HQ k5 hc5 o0 o1
        obtain ⟨g1, c1, g2, c2, g3, c3, g4, c4, g5, c5, S, T5⟩ := Q1
        have A := five_fct S
        have k5 : w1.cell? ⟨b, 5, none⟩ = some (sl g5 (t.length + 1) c5) := A.k5
        have hc5 := own_cap A.o5
        have f5 := A.f 5
        have Q2 := RW.trim5 S T5 0
        rw [take_trl] at Q2
        have HF := Lib.hid (RW.finish (h := t) hok Q2)
        clear A S T5 Q2
        go_wp2_with fail
        obtain ⟨F2, u2, T2⟩ := HF.out
        go_roundw
        case rel => exact ⟨j + 1, F2, hjl, by rw [← Ht.out]; exact u2, HT.out.trans T2⟩
        case measure => rw [Hh.out]; have := U.trLen u2; exact Nat.lt_of_le_of_lt (Nat.le_of_eq this) (Nat.lt_succ_self _)
      | some p =>
        obtain ⟨r, c⟩ := p
        have HOK := Lib.hid hok
        obtain ⟨q1, q2, q3, q4, q5, q6⟩ := hok
        obtain ⟨o0, o1⟩ := op_cells (x5 := trl t) (a := (c : Int)) (l := (((lst t).getD r 0 : Nat) : Int)) A.o5 (len_trl t)
        clear A S T5
        have hm1 : ((c : Int) == -1) = false := by rw [beq_eq_false_iff_ne]; omega
        have hl1 : (par (some (r, c) :: t)).getD c 0 = r := by simp only [par]; exact set_at (by rw [len_par]; exact q3)
        have ha : (siz (some (r, c) :: t)).getD r 0 = (siz t).getD r 0 + (siz t).getD c 0 := by simp only [siz]; exact set_at (by rw [len_siz]; exact q2)
        have hd : (siz (some (r, c) :: t)).getD c 0 = (siz t).getD c 0 := by simp only [siz]; exact set_off q4
        have hb : (siz t).getD r 0 + (siz t).getD c 0 ≤ 2 ^ 62 := by
          have b1 : (siz t).getD r 0 ≤ 2 ^ 61 := Nat.le_trans (siz_le t r) (Nat.pow_le_pow_right (by omega) (by omega))
          have b2 : (siz t).getD c 0 ≤ 2 ^ 61 := Nat.le_trans (siz_le t c) (Nat.pow_le_pow_right (by omega) (by omega))
          omega
        have Qa := HQ.out.alloc (.cells #[.int .i64 c, .int .i64 ((lst t).getD r 0 : Nat)] 53) 0
        have hcon := Lib.hid (undoUnion_raw wr F' B b (nE t) (t.length + 1) r c _ _ ((lst t).getD r 0) _ _ _ _ _ _ Qa (by have := nE_le t; omega) q2 q3 q4 hl1 rfl rfl (by rw [ha, hd]; omega) (by rw [ha]; exact hb))
        generalize hl : (lst t).getD r 0 = l at o1 hcon
        have Hl := Lib.hid hl
        clear hl Qa HQ hl1 ha hd hb q5 q6
        go_wp2_with fail
        refine hcon.out.mono ?_
        rintro e w1 ⟨rfl, Q1⟩
        have OK := HOK.out
        rw [← Hl.out, undo_par t q1 r c q3 OK.2.2.2.2.2, undo_siz t r c q2 q4, undo_lst, undo_nxt t r c q2 q3 q4] at Q1
        clear OK k5 hc5 o0 o1 hcon
        obtain ⟨g1, c1, g2, c2, g3, c3, g4, c4, g5, c5, S, T5⟩ := Q1
        have A := five_fct S
        have k5 : w1.cell? ⟨b, 5, none⟩ = some (sl g5 (t.length + 1) c5) := A.k5
        have hc5 := own_cap A.o5
        have f5 := A.f 5
        have Q2 := RW.trim5 S T5 0
        rw [take_trl] at Q2
        have HF := Lib.hid (RW.finish (h := t) q1 Q2)
        clear A S T5 Q2
        go_wp2_with fail
        obtain ⟨F2, u2, T2⟩ := HF.out
        go_roundw
        case rel => exact ⟨j + 1, F2, hjl, by rw [← Ht.out]; exact u2, HT.out.trans T2⟩
        case measure => rw [Hh.out]; have := U.trLen u2; exact Nat.lt_of_le_of_lt (Nat.le_of_eq this) (Nat.lt_succ_self _)
end Go.Proofs.Ytihoegihmgeenaa
