/- The lists of representatives and of members, of the reference. -/
import Derived.Test.YtihoegihmgeenaaW
import Derived.Deep.DeepMust
namespace Go.Proofs.Ytihoegihmgeenaa
open Go.RowKit
set_option linter.unusedVariables false
set_option linter.unusedSimpArgs false
def fl (P : Nat → Bool) (k : Nat) : List Nat := (List.range k).filter P
theorem fl_yes {P : Nat → Bool} {k : Nat} (h : P k = true) : fl P (k + 1) = fl P k ++ [k] := by simp [fl, List.range_succ, h]
theorem fl_no {P : Nat → Bool} {k : Nat} (h : P k = false) : fl P (k + 1) = fl P k := by simp [fl, List.range_succ, h]
theorem fl_len (P : Nat → Bool) (k : Nat) : (fl P k).length ≤ k := Nat.le_trans (List.length_filter_le _ _) (by simp)
def isRoot (h : List HOp) (x : Nat) : Bool := lab h x == x
def isMem (h : List HOp) (r x : Nat) : Bool := lab h x == r
/-- one more number in a row of the call's own -/
theorem grow_rel {w wr w2 : World} {B g e : Nat} {v : Value} {xs : List Nat} {y : Nat} {L : List Nat} (hb : Below B w wr) (hB : B ≤ wr.heap.size) (ov : wr.ownsRow B 3 1 v xs.length (nums xs))
    (hown : w2.ownsRow B 3 1 (.slice (some ⟨g, 0, none⟩) (xs.length + 1) e) (xs.length + 1) (nums xs ++ [.int .i64 y])) (hgrow : (wr.alloc (.cells #[.int .i64 y] 3)).grownBy w2 v.ownBlock) (hL : L = xs ++ [y]) :
    w2.ownsRow B 3 1 (.slice (some ⟨g, 0, none⟩) (xs.length + 1) e) L.length (nums L) ∧ Below B w w2 := by
  subst hL
  refine ⟨by rw [nums_snoc]; simpa using hown, (hb.alloc hB _).grown hgrow (by simp; omega) (fun j hj => (ov.lt j hj).1)⟩
set_option maxHeartbeats 2000000 in
theorem rroots_any (B : Nat) (lv : Value) (l : List ROp) (h : List HOp) (w : World) (o : OL w B lv l h) (hs : h.length ≤ 1000) :
    Calls Try.prog 24 #[lv] w (LPost w (fl (isRoot h) (nE h))) := by
  have hlab := Lib.hid (o.labels hs)
  have hn := nE_le h
  have hlen := Lib.hid (len_labs h)
  obtain ⟨i3, hi3, hz3, hs3, hb3⟩ := info_parts info3
  go_enter Try.func24, Try.ntmps24
  go_wp2_with fail
  refine hlab.out.mono ?_
  rintro e w1 ⟨v, rfl, ov, hb⟩
  rw [hlen.out] at ov
  obtain ⟨p, c, rfl⟩ := own_shape ov
  have Hov := Lib.hid ov
  have Hb := Lib.hid hb
  have hsz := hb.size
  clear ov hb
  go_wp2_with fail
  go_loopw [3, 10] (fun u i wr => ∃ k : Nat, k ≤ nE h ∧ i = .int .i64 k ∧ wr.ownsRow w.heap.size 3 1 u (fl (isRoot h) k).length (nums (fl (isRoot h) k)) ∧ Below w.heap.size w wr ∧ wr.ownsRow w.heap.size 3 1 (.slice p (nE h) c) (nE h) (nums (labs h)) ∧ (∀ g, u.ownBlock = some g → (Value.slice p (nE h) c).ownBlock ≠ some g)) (fun _ i _ => nE h - (intOf i).toNat)
  case atStart => exact ⟨0, Nat.zero_le _, rfl, World.ownsRow_nil _ _ _ _, Hb.out, Hov.out, by intro g hg; cases hg⟩
  case round =>
    obtain ⟨k, hk, rfl, ou, hb, ov, hne⟩ := hrel
    have hwz : w.heap.size ≤ wr.heap.size := hb.size
    by_cases hkl : k < nE h
    · obtain ⟨g, c', hpv, _⟩ := World.ownsRow.form ov (by omega)
      cases hpv
      have ck := int_cell ov k hkl
      rw [labs_at h k hkl] at ck
      have hki : (k : Int) < (nE h : Int) := by omega
      have hfl := fl_len (isRoot h) k
      obtain ⟨q, e, rfl⟩ := own_shape ou
      have Hou := Lib.hid ou
      have Hov2 := Lib.hid ov
      have Hb2 := Lib.hid hb
      have Hne := Lib.hid hne
      have hP : isRoot h k = (lab h k == k) := rfl
      have hyes := Lib.hid (@fl_yes (isRoot h) k)
      have hno := Lib.hid (@fl_no (isRoot h) k)
      have HP := Lib.hid hP
      clear ou ov hb hne hP
      generalize lab h k = z at ck HP
      by_cases hz : z = k
      · have hroot := hyes.out (by rw [HP.out]; simp [hz])
        have Hroot := Lib.hid hroot
        subst hz
        clear hroot
        generalize fl (isRoot h) z = xs at Hou hfl Hroot Hne ⊢
        go_wp2_with (at_builtin; go_must (refine wpList_append_lies _ rfl (.tmp 19) (.tmp 21) 42 rfl w.heap.size 3 i3 (.int .i64 0) 1 8 Try.underlying42 hi3 hz3 hs3 hb3 rfl (by decide) _ _ _ rfl (Hou.out.alloc _) ⟨wr.heap.size, 0, none⟩ 1 1 [.int .i64 z] rfl rfl (lit_cells_at wr #[.int .i64 z] 3 _ rfl) (by simp [Value.oneCell']) (by decide) (by unfold maxLen; omega) (by omega) (by simp; omega) (wr.heap.size + 1) (by simp) ?_))
        intro g2 e2 w2 hown hgrow hat hlt2
        have R := Lib.hid (grow_rel Hb2.out hwz Hou.out hown hgrow Hroot.out)
        have keep : w2.ownsRow w.heap.size 3 1 (.slice (some ⟨g, 0, none⟩) (nE h) c) (nE h) (nums (labs h)) :=
          (Hov2.out.alloc _).kept hgrow (.inr (fun e => Hne.out g e.symm rfl))
        have hgl := (Hov2.out.lt g rfl).2
        have hd2 : ∀ j, (Value.slice (some ⟨g2, 0, none⟩) (xs.length + 1) e2).ownBlock = some j → (Value.slice (some ⟨g, 0, none⟩) (nE h) c).ownBlock ≠ some j := by
          intro j hj e; simp only [Value.ownBlock, Option.some.injEq] at hj e
          subst hj; subst e
          rcases hat with q | q
          · exact Hne.out g q rfl
          · omega
        have K := Lib.hid (And.intro keep hd2)
        clear hown hgrow hat hlt2 keep hd2
        go_wp2_with fail
        go_roundw
        case rel => exact ⟨z + 1, by omega, by go_num, R.out.1, R.out.2, K.out.1, K.out.2⟩
        case measure => simp [intOf]; omega
      · have hroot := hno.out (by rw [HP.out]; simp [hz])
        have Hroot := Lib.hid hroot
        have hzi : ((z : Int) == (k : Int)) = false := by rw [beq_eq_false_iff_ne]; omega
        clear hroot
        go_wp2_with fail
        go_roundw
        case rel => exact ⟨k + 1, by omega, by go_num, by rw [Hroot.out]; exact Hou.out, Hb2.out, Hov2.out, Hne.out⟩
        case measure => simp [intOf]; omega
    · have hke : k = nE h := by omega
      subst hke
      have Hou := Lib.hid ou
      have Hb2 := Lib.hid hb
      clear ou hb hne ov
      go_wp2_with fail
      go_ret
      exact ⟨_, rfl, Hou.out, Hb2.out⟩
theorem own_weak {w : World} {B B' e sz n : Nat} {v : Value} {xs : List Value} (h : w.ownsRow B' e sz v n xs) (hb : B ≤ B') : w.ownsRow B e sz v n xs :=
  ⟨h.1, h.2.imp id fun ⟨g, cap, cur, a1, a2, a3⟩ => ⟨g, cap, cur, a1, Nat.le_trans hb a2, a3⟩⟩
set_option maxHeartbeats 2000000 in
theorem rmem_yes (B : Nat) (lv : Value) (l : List ROp) (h : List HOp) (x : Nat) (w : World) (o : OL w B lv l h) (hs : h.length ≤ 1000) (hx : x < nE h) :
    Calls Try.prog 25 #[lv, .int .i64 x] w (LPost w (fl (isMem h (lab h x)) (nE h))) := by
  have hfnd := Lib.hid (rfind_any B lv l h x w o hs)
  rw [find_nat h x hx] at hfnd
  have hlab := Lib.hid (fun w' (hb : Below w.heap.size w w') => (o.below hb).labels hs)
  generalize lab h x = rr at hfnd ⊢
  have hrr : decide ((0 : Int) ≤ (rr : Int)) = true := by simp
  have hn := nE_le h
  have hlen := Lib.hid (len_labs h)
  obtain ⟨i3, hi3, hz3, hs3, hb3⟩ := info_parts info3
  go_enter Try.func25, Try.ntmps25
  go_wp2_with fail
  refine hfnd.out.mono ?_
  rintro e w0 ⟨rfl, hb0⟩
  have hl0 := Lib.hid (hlab.out w0 hb0)
  have Hb0 := Lib.hid hb0
  clear hb0
  go_wp2_with fail
  refine hl0.out.mono ?_
  rintro e w1 ⟨v, rfl, ov', hb'⟩
  have ov := own_weak ov' Hb0.out.size
  have hb := below_chain Hb0.out hb'
  clear ov' hb'
  rw [hlen.out] at ov
  obtain ⟨p, c, rfl⟩ := own_shape ov
  have Hov := Lib.hid ov
  have Hb := Lib.hid hb
  have hsz := hb.size
  clear ov hb
  go_wp2_with fail
  go_loopw [6, 16] (fun u i wr => ∃ k : Nat, k ≤ nE h ∧ i = .int .i64 k ∧ wr.ownsRow w.heap.size 3 1 u (fl (isMem h rr) k).length (nums (fl (isMem h rr) k)) ∧ Below w.heap.size w wr ∧ wr.ownsRow w.heap.size 3 1 (.slice p (nE h) c) (nE h) (nums (labs h)) ∧ (∀ g, u.ownBlock = some g → (Value.slice p (nE h) c).ownBlock ≠ some g)) (fun _ i _ => nE h - (intOf i).toNat)
  case atStart => exact ⟨0, Nat.zero_le _, rfl, World.ownsRow_nil _ _ _ _, Hb.out, Hov.out, by intro g hg; cases hg⟩
  case round =>
    obtain ⟨k, hk, rfl, ou, hb, ov, hne⟩ := hrel
    have hwz : w.heap.size ≤ wr.heap.size := hb.size
    by_cases hkl : k < nE h
    · obtain ⟨g, c', hpv, _⟩ := World.ownsRow.form ov (by omega)
      cases hpv
      have ck := int_cell ov k hkl
      rw [labs_at h k hkl] at ck
      have hki : (k : Int) < (nE h : Int) := by omega
      have hfl := fl_len (isMem h rr) k
      obtain ⟨q, e, rfl⟩ := own_shape ou
      have Hou := Lib.hid ou
      have Hov2 := Lib.hid ov
      have Hb2 := Lib.hid hb
      have Hne := Lib.hid hne
      have hP : isMem h rr k = (lab h k == rr) := rfl
      have hyes := Lib.hid (@fl_yes (isMem h rr) k)
      have hno := Lib.hid (@fl_no (isMem h rr) k)
      have HP := Lib.hid hP
      clear ou ov hb hne hP
      generalize lab h k = z at ck HP
      by_cases hz : z = rr
      · have hroot := hyes.out (by rw [HP.out]; simp [hz])
        have Hroot := Lib.hid hroot
        subst hz
        clear hroot
        generalize fl (isMem h z) k = xs at Hou hfl Hroot Hne ⊢
        go_wp2_with (at_builtin; go_must (refine wpList_append_lies _ rfl (.tmp 29) (.tmp 31) 42 rfl w.heap.size 3 i3 (.int .i64 0) 1 8 Try.underlying42 hi3 hz3 hs3 hb3 rfl (by decide) _ _ _ rfl (Hou.out.alloc _) ⟨wr.heap.size, 0, none⟩ 1 1 [.int .i64 k] rfl rfl (lit_cells_at wr #[.int .i64 k] 3 _ rfl) (by simp [Value.oneCell']) (by decide) (by unfold maxLen; omega) (by omega) (by simp; omega) (wr.heap.size + 1) (by simp) ?_))
        intro g2 e2 w2 hown hgrow hat hlt2
        have R := Lib.hid (grow_rel Hb2.out hwz Hou.out hown hgrow Hroot.out)
        have keep : w2.ownsRow w.heap.size 3 1 (.slice (some ⟨g, 0, none⟩) (nE h) c) (nE h) (nums (labs h)) :=
          (Hov2.out.alloc _).kept hgrow (.inr (fun e => Hne.out g e.symm rfl))
        have hgl := (Hov2.out.lt g rfl).2
        have hd2 : ∀ j, (Value.slice (some ⟨g2, 0, none⟩) (xs.length + 1) e2).ownBlock = some j → (Value.slice (some ⟨g, 0, none⟩) (nE h) c).ownBlock ≠ some j := by
          intro j hj e; simp only [Value.ownBlock, Option.some.injEq] at hj e
          subst hj; subst e
          rcases hat with q | q
          · exact Hne.out g q rfl
          · omega
        have K := Lib.hid (And.intro keep hd2)
        clear hown hgrow hat hlt2 keep hd2
        go_wp2_with fail
        go_roundw
        case rel => exact ⟨k + 1, by omega, by go_num, R.out.1, R.out.2, K.out.1, K.out.2⟩
        case measure => simp [intOf]; omega
      · have hroot := hno.out (by rw [HP.out]; simp [hz])
        have Hroot := Lib.hid hroot
        have hzi : ((z : Int) == (rr : Int)) = false := by rw [beq_eq_false_iff_ne]; omega
        clear hroot
        go_wp2_with fail
        go_roundw
        case rel => exact ⟨k + 1, by omega, by go_num, by rw [Hroot.out]; exact Hou.out, Hb2.out, Hov2.out, Hne.out⟩
        case measure => simp [intOf]; omega
    · have hke : k = nE h := by omega
      subst hke
      have Hou := Lib.hid ou
      have Hb2 := Lib.hid hb
      clear ou hb hne ov
      go_wp2_with fail
      go_ret
      exact ⟨_, rfl, Hou.out, Hb2.out⟩
set_option maxHeartbeats 2000000 in
theorem rmem_no (B : Nat) (lv : Value) (l : List ROp) (h : List HOp) (x : Int) (w : World) (o : OL w B lv l h) (hs : h.length ≤ 1000) (hx : hasB h x = false) :
    Calls Try.prog 25 #[lv, .int .i64 x] w (LPost w []) := by
  have hfnd := rfind_any B lv l h x w o hs
  rw [show findI h x = -1 by unfold findI; rw [if_neg]; simp [hasB] at hx; omega] at hfnd
  have Hf := Lib.hid hfnd
  have hlab := Lib.hid (fun w' (hb : Below w.heap.size w w') => (o.below hb).labels hs)
  have hn := nE_le h
  have hlen := Lib.hid (len_labs h)
  clear hfnd hx
  go_enter Try.func25, Try.ntmps25
  go_wp2_with fail
  refine Hf.out.mono ?_
  rintro e w0 ⟨rfl, hb0⟩
  have hl0 := Lib.hid (hlab.out w0 hb0)
  have Hb0 := Lib.hid hb0
  clear hb0
  go_wp2_with fail
  refine hl0.out.mono ?_
  rintro e w1 ⟨v, rfl, ov', hb'⟩
  have Hb := Lib.hid (below_chain Hb0.out hb')
  rw [hlen.out] at ov'
  obtain ⟨p, c, rfl⟩ := own_shape ov'
  clear ov' hb'
  go_wp2_with fail
  go_loop [6, 16] (fun u i => ∃ k : Nat, k ≤ nE h ∧ i = .int .i64 k ∧ u = .slice none 0 0) (fun _ i => nE h - (intOf i).toNat)
  case atStart => exact ⟨0, Nat.zero_le _, rfl, rfl⟩
  case round =>
    obtain ⟨k, hk, rfl, rfl⟩ := hrel
    by_cases hkl : k < nE h
    · have hki : (k : Int) < (nE h : Int) := by omega
      go_wp2_with fail
      go_round
      case rel => exact ⟨k + 1, by omega, by go_num, rfl⟩
      case measure => simp [intOf]; omega
    · go_wp2_with fail
      go_ret
      exact ⟨_, rfl, World.ownsRow_nil _ _ _ _, Hb.out⟩
end Go.Proofs.Ytihoegihmgeenaa
