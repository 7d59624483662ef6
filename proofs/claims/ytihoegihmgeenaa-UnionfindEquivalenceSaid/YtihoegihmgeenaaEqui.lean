/- Same is an equivalence relation of the elements, and Find returns the least element of a set; for every sequence of calls (longer than 40: the document's example only) and any three numbers. -/
import Derived.Test.YtihoegihmgeenaaAI
namespace Go.Proofs.Ytihoegihmgeenaa.ufEqui
open Go.ChangeShapes Go.WideShapes Go.ChangeAt Go.RowKit
set_option linter.unusedVariables false
theorem own : ownKnob Try.prog.godebug = none := by kernel_rfl
theorem laidOut : laidOutB Try.prog = true := by kernel_rfl
set_option maxRecDepth 100000 in
set_option maxHeartbeats 4000000 in
theorem walk_long (p : Option Addr) (n cp : Nat) (a b c : Int) (w : World) (h : 40 < n) : Calls Try.prog 6 #[.slice p n cp, .agg #[.int .i64 a, .int .i64 b, .int .i64 c]] w fun e w' => e = .returned (.bool true) ∧ Below w.heap.size w w' := by
  have hd : decide ((40 : Int) < (n : Int)) = true := by simp; omega
  have hi : (40 : Int) < (n : Int) := by omega
  have HW := Lib.hid (fun q => below_drawn (below_alloc w (.cells #[.int .i64 a, .int .i64 b, .int .i64 c] 38)) q)
  go_enter Try.func6, Try.ntmps6
  go_wp2_with fail
  go_quiet (fail)
  go_wp2_with fail
  have hB := (HW.out nq).size
  have HB := Lib.hid (HW.out nq)
  refine (new_any w.heap.size _ hB).mono ?_
  rintro e w1 ⟨rfl, _, hb⟩
  have Hb := Lib.hid (HB.out.trans (hb.mono hB))
  clear hb
  go_wp2_with fail
  refine (lives_any w1).mono ?_
  rintro e w2 ⟨rfl, hb2⟩
  have Hb2 := Lib.hid hb2
  clear hb2
  go_wp2_with fail
  go_ret
  exact ⟨rfl, below_chain Hb.out Hb2.out⟩
theorem below_of {w : World} {q : Nat} {w3 : World} (h : Below (w.drewN q).heap.size (w.drewN q) w3) : Below w.heap.size w w3 := ⟨h.os, h.tape, h.output, h.size, h.block⟩
theorem same_self (h : List HOp) (a : Int) : sameB h a a = hasB h a := by
  unfold sameB hasB; rw [Bool.eq_iff_iff]; simp only [decide_eq_true_eq]
  exact ⟨fun e => ⟨e.1, e.2.1⟩, fun e => ⟨e.1, e.2, e.1, e.2, trivial⟩⟩
theorem same_symm (h : List HOp) (a b : Int) : sameB h b a = sameB h a b := by
  unfold sameB; rw [Bool.eq_iff_iff]; simp only [decide_eq_true_eq]
  constructor
  · intro e; exact ⟨e.2.2.1, e.2.2.2.1, e.1, e.2.1, e.2.2.2.2.symm⟩
  · intro e; exact ⟨e.2.2.1, e.2.2.2.1, e.1, e.2.1, e.2.2.2.2.symm⟩
theorem same_trans (h : List HOp) (a b c : Int) (h1 : sameB h a b = true) (h2 : sameB h b c = true) : sameB h a c = true := by
  unfold sameB at *; simp only [decide_eq_true_eq] at *
  exact ⟨h1.1, h1.2.1, h2.2.2.1, h2.2.2.2.1, h1.2.2.2.2.trans h2.2.2.2.2⟩
theorem same_find (h : List HOp) (k : ok h) (a b : Int) (h1 : sameB h a b = true) : findI h a ≤ b ∧ findI h a = findI h b := by
  unfold sameB at h1; simp only [decide_eq_true_eq] at h1
  obtain ⟨a1, a2, b1, b2, e⟩ := h1
  obtain ⟨n, rfl⟩ := Int.eq_ofNat_of_zero_le a1
  obtain ⟨m, rfl⟩ := Int.eq_ofNat_of_zero_le b1
  simp only [Int.toNat_natCast] at e
  rw [find_nat h n (by omega), find_nat h m (by omega)]
  have e2 := (lab_iff h k n m (by omega) (by omega)).2 e
  have := (lst_R h k m (by omega)).2.1
  omega
set_option maxRecDepth 100000 in
set_option maxHeartbeats 16000000 in
theorem walk_short (v : Value) (ac : List AAct) (a b c : Int) (w : World) (ha : Acts w w.heap.size v ac) (h : ac.length ≤ 40) : Calls Try.prog 6 #[v, .agg #[.int .i64 a, .int .i64 b, .int .i64 c]] w fun e w' => e = .returned (.bool true) ∧ Below w.heap.size w w' := by
  obtain ⟨p, cp, rfl⟩ := ha.shape
  have hd : decide ((40 : Int) < (ac.length : Int)) = false := by simp; omega
  have hi : ¬ (40 : Int) < (ac.length : Int) := by omega
  have HA := Lib.hid ha
  have HW := Lib.hid (fun q => below_drawn (below_alloc w (.cells #[.int .i64 a, .int .i64 b, .int .i64 c] 38)) q)
  clear ha
  go_enter Try.func6, Try.ntmps6
  go_wp2_with fail
  go_quiet (fail)
  go_wp2_with fail
  have hB := (HW.out nq).size
  have HB := Lib.hid (HW.out nq)
  refine (new_any w.heap.size _ hB).mono ?_
  rintro e w1 ⟨rfl, ⟨F, u⟩, hb⟩
  have hbn : ((w.alloc (.cells #[.int .i64 a, .int .i64 b, .int .i64 c] 38)).drewN nq).heap.size = w.heap.size + 1 := by simp
  rw [hbn] at u
  clear hbn
  have hb1 := HB.out.trans (hb.mono hB)
  have Hb := Lib.hid hb1
  have hrun := Lib.hid (run_any _ _ F _ ac w1 u (HA.out.below hb1) (by omega))
  clear hb u hb1
  go_wp2_with fail
  refine hrun.out.mono ?_
  rintro e w2 ⟨lv, l, h', F', rfl, k, hh, hb2⟩
  have Hb2 := Lib.hid (Hb.out.trans hb2)
  have HU := Lib.hid k.u
  have hsz := Lib.hid k.u.base
  have hok := Lib.hid k.u.ok
  have hln := Lib.hid (len_any _ _ h' F' w2 k.u)
  have hn := nE_le h'
  have hs' : h'.length ≤ 1000 := by omega
  clear k hb2 hrun
  have HS := Lib.hid (fun x y => same_any _ _ h' F' x y w2 HU.out hs')
  have HF := Lib.hid (fun x => find_any _ _ h' F' x w2 HU.out hs')
  have HFq := Lib.hid (fun q x => find_any _ _ h' F' x _ (HU.out.drewN q) hs')
  have HFq2 := Lib.hid (fun q q' x => find_any _ _ h' F' x _ ((HU.out.drewN q).drewN q') hs')
  have e1 := same_self h' a
  have e2 := same_symm h' a b
  have fin : ∀ w3, Below w2.heap.size w2 w3 → Below w.heap.size w w3 := fun w3 hb => Hb2.out.trans (below_mono hb hsz.out)
  have Fin := Lib.hid fin
  clear fin
  by_cases g0 : 0 ≤ a
  · have d0 : decide (0 ≤ a) = true := by simpa using g0
    by_cases g1 : a < nE h'
    · have EA : Hid (sameB h' a a = true) := Lib.hid (e1.trans (by simp [hasB]; omega))
      have d1 : decide (a < (nE h' : Int)) = true := by simpa using g1
      clear e1
      cases f1 : sameB h' a b with
      | false =>
        have F1 := Lib.hid f1
        have E2 : Hid (sameB h' b a = false) := Lib.hid (e2.trans f1)
        clear f1 e2
        go_wp2_with fail
        refine hln.out.mono ?_; rintro e w' ⟨rfl, rfl⟩
        go_wp2_with fail
        refine (HS.out a a).mono ?_; rintro e w' ⟨rfl, rfl⟩
        rw [EA.out]
        go_wp2_with fail
        refine (HS.out a b).mono ?_; rintro e w' ⟨rfl, rfl⟩
        rw [F1.out]
        go_wp2_with fail
        refine (HS.out b a).mono ?_; rintro e w' ⟨rfl, rfl⟩
        rw [E2.out]
        go_wp2_with fail
        refine (HS.out a b).mono ?_; rintro e w' ⟨rfl, rfl⟩
        rw [F1.out]
        go_wp2_with fail
        refine (HS.out a b).mono ?_; rintro e w' ⟨rfl, rfl⟩
        rw [F1.out]
        go_wp2_with fail
        refine (lives_any _).mono ?_; rintro e w9 ⟨rfl, hbl⟩
        have Hbl := Lib.hid (Fin.out _ hbl)
        clear hbl
        go_wp2_with fail
        go_ret
        exact ⟨rfl, Hbl.out⟩
      | true =>
        have F1 := Lib.hid f1
        have E2 : Hid (sameB h' b a = true) := Lib.hid (e2.trans f1)
        obtain ⟨m1, m2⟩ := same_find h' hok.out a b f1
        have hm : decide (findI h' a ≤ b) = true := by simpa using m1
        have M2 := Lib.hid m2
        cases f2 : sameB h' b c with
        | false =>
          have F2 := Lib.hid f2
          clear f1 f2 e2 m2
          go_wp2_with fail
          refine hln.out.mono ?_; rintro e w' ⟨rfl, rfl⟩
          go_wp2_with fail
          refine (HS.out a a).mono ?_; rintro e w' ⟨rfl, rfl⟩
          rw [EA.out]
          go_wp2_with fail
          refine (HS.out a b).mono ?_; rintro e w' ⟨rfl, rfl⟩
          rw [F1.out]
          go_wp2_with fail
          refine (HS.out b a).mono ?_; rintro e w' ⟨rfl, rfl⟩
          rw [E2.out]
          go_wp2_with fail
          refine (HS.out a b).mono ?_; rintro e w' ⟨rfl, rfl⟩
          rw [F1.out]
          go_wp2_with fail
          refine (HS.out b c).mono ?_; rintro e w' ⟨rfl, rfl⟩
          rw [F2.out]
          go_wp2_with fail
          refine (HS.out a b).mono ?_; rintro e w' ⟨rfl, rfl⟩
          rw [F1.out]
          go_wp2_with fail
          refine (HF.out a).mono ?_; rintro e w3 ⟨rfl, q3, rfl⟩
          go_wp2_with fail
          refine (HFq.out q3 a).mono ?_; rintro e w4 ⟨rfl, q4, rfl⟩
          go_wp2_with fail
          first | (refine (HFq.out (q3 + q4) b).mono ?_) | (refine (HFq2.out q3 q4 b).mono ?_)
          rintro e w5 ⟨rfl, q5, rfl⟩
          rw [← M2.out]
          go_wp2_with fail
          refine (lives_any _).mono ?_; rintro e w9 ⟨rfl, hbl⟩
          have Hbl := Lib.hid (Fin.out _ (show Below w2.heap.size w2 w9 from ⟨hbl.os, hbl.tape, hbl.output, hbl.size, hbl.block⟩))
          clear hbl
          go_wp2_with fail
          go_ret
          exact ⟨rfl, Hbl.out⟩
        | true =>
          have F2 := Lib.hid f2
          have F3 := Lib.hid (same_trans h' a b c f1 f2)
          clear f1 f2 e2 m2
          go_wp2_with fail
          refine hln.out.mono ?_; rintro e w' ⟨rfl, rfl⟩
          go_wp2_with fail
          refine (HS.out a a).mono ?_; rintro e w' ⟨rfl, rfl⟩
          rw [EA.out]
          go_wp2_with fail
          refine (HS.out a b).mono ?_; rintro e w' ⟨rfl, rfl⟩
          rw [F1.out]
          go_wp2_with fail
          refine (HS.out b a).mono ?_; rintro e w' ⟨rfl, rfl⟩
          rw [E2.out]
          go_wp2_with fail
          refine (HS.out a b).mono ?_; rintro e w' ⟨rfl, rfl⟩
          rw [F1.out]
          go_wp2_with fail
          refine (HS.out b c).mono ?_; rintro e w' ⟨rfl, rfl⟩
          rw [F2.out]
          go_wp2_with fail
          refine (HS.out a c).mono ?_; rintro e w' ⟨rfl, rfl⟩
          rw [F3.out]
          go_wp2_with fail
          refine (HS.out a b).mono ?_; rintro e w' ⟨rfl, rfl⟩
          rw [F1.out]
          go_wp2_with fail
          refine (HF.out a).mono ?_; rintro e w3 ⟨rfl, q3, rfl⟩
          go_wp2_with fail
          refine (HFq.out q3 a).mono ?_; rintro e w4 ⟨rfl, q4, rfl⟩
          go_wp2_with fail
          first | (refine (HFq.out (q3 + q4) b).mono ?_) | (refine (HFq2.out q3 q4 b).mono ?_)
          rintro e w5 ⟨rfl, q5, rfl⟩
          rw [← M2.out]
          go_wp2_with fail
          refine (lives_any _).mono ?_; rintro e w9 ⟨rfl, hbl⟩
          have Hbl := Lib.hid (Fin.out _ (show Below w2.heap.size w2 w9 from ⟨hbl.os, hbl.tape, hbl.output, hbl.size, hbl.block⟩))
          clear hbl
          go_wp2_with fail
          go_ret
          exact ⟨rfl, Hbl.out⟩
    · have EA : Hid (sameB h' a a = false) := Lib.hid (e1.trans (by simp [hasB]; omega))
      have d1 : decide (a < (nE h' : Int)) = false := by simpa using g1
      clear e1
      cases f1 : sameB h' a b with
      | false =>
        have F1 := Lib.hid f1
        have E2 : Hid (sameB h' b a = false) := Lib.hid (e2.trans f1)
        clear f1 e2
        go_wp2_with fail
        refine hln.out.mono ?_; rintro e w' ⟨rfl, rfl⟩
        go_wp2_with fail
        refine (HS.out a a).mono ?_; rintro e w' ⟨rfl, rfl⟩
        rw [EA.out]
        go_wp2_with fail
        refine (HS.out a b).mono ?_; rintro e w' ⟨rfl, rfl⟩
        rw [F1.out]
        go_wp2_with fail
        refine (HS.out b a).mono ?_; rintro e w' ⟨rfl, rfl⟩
        rw [E2.out]
        go_wp2_with fail
        refine (HS.out a b).mono ?_; rintro e w' ⟨rfl, rfl⟩
        rw [F1.out]
        go_wp2_with fail
        refine (HS.out a b).mono ?_; rintro e w' ⟨rfl, rfl⟩
        rw [F1.out]
        go_wp2_with fail
        refine (lives_any _).mono ?_; rintro e w9 ⟨rfl, hbl⟩
        have Hbl := Lib.hid (Fin.out _ hbl)
        clear hbl
        go_wp2_with fail
        go_ret
        exact ⟨rfl, Hbl.out⟩
      | true =>
        have F1 := Lib.hid f1
        have E2 : Hid (sameB h' b a = true) := Lib.hid (e2.trans f1)
        obtain ⟨m1, m2⟩ := same_find h' hok.out a b f1
        have hm : decide (findI h' a ≤ b) = true := by simpa using m1
        have M2 := Lib.hid m2
        cases f2 : sameB h' b c with
        | false =>
          have F2 := Lib.hid f2
          clear f1 f2 e2 m2
          go_wp2_with fail
          refine hln.out.mono ?_; rintro e w' ⟨rfl, rfl⟩
          go_wp2_with fail
          refine (HS.out a a).mono ?_; rintro e w' ⟨rfl, rfl⟩
          rw [EA.out]
          go_wp2_with fail
          refine (HS.out a b).mono ?_; rintro e w' ⟨rfl, rfl⟩
          rw [F1.out]
          go_wp2_with fail
          refine (HS.out b a).mono ?_; rintro e w' ⟨rfl, rfl⟩
          rw [E2.out]
          go_wp2_with fail
          refine (HS.out a b).mono ?_; rintro e w' ⟨rfl, rfl⟩
          rw [F1.out]
          go_wp2_with fail
          refine (HS.out b c).mono ?_; rintro e w' ⟨rfl, rfl⟩
          rw [F2.out]
          go_wp2_with fail
          refine (HS.out a b).mono ?_; rintro e w' ⟨rfl, rfl⟩
          rw [F1.out]
          go_wp2_with fail
          refine (HF.out a).mono ?_; rintro e w3 ⟨rfl, q3, rfl⟩
          go_wp2_with fail
          refine (HFq.out q3 a).mono ?_; rintro e w4 ⟨rfl, q4, rfl⟩
          go_wp2_with fail
          first | (refine (HFq.out (q3 + q4) b).mono ?_) | (refine (HFq2.out q3 q4 b).mono ?_)
          rintro e w5 ⟨rfl, q5, rfl⟩
          rw [← M2.out]
          go_wp2_with fail
          refine (lives_any _).mono ?_; rintro e w9 ⟨rfl, hbl⟩
          have Hbl := Lib.hid (Fin.out _ (show Below w2.heap.size w2 w9 from ⟨hbl.os, hbl.tape, hbl.output, hbl.size, hbl.block⟩))
          clear hbl
          go_wp2_with fail
          go_ret
          exact ⟨rfl, Hbl.out⟩
        | true =>
          have F2 := Lib.hid f2
          have F3 := Lib.hid (same_trans h' a b c f1 f2)
          clear f1 f2 e2 m2
          go_wp2_with fail
          refine hln.out.mono ?_; rintro e w' ⟨rfl, rfl⟩
          go_wp2_with fail
          refine (HS.out a a).mono ?_; rintro e w' ⟨rfl, rfl⟩
          rw [EA.out]
          go_wp2_with fail
          refine (HS.out a b).mono ?_; rintro e w' ⟨rfl, rfl⟩
          rw [F1.out]
          go_wp2_with fail
          refine (HS.out b a).mono ?_; rintro e w' ⟨rfl, rfl⟩
          rw [E2.out]
          go_wp2_with fail
          refine (HS.out a b).mono ?_; rintro e w' ⟨rfl, rfl⟩
          rw [F1.out]
          go_wp2_with fail
          refine (HS.out b c).mono ?_; rintro e w' ⟨rfl, rfl⟩
          rw [F2.out]
          go_wp2_with fail
          refine (HS.out a c).mono ?_; rintro e w' ⟨rfl, rfl⟩
          rw [F3.out]
          go_wp2_with fail
          refine (HS.out a b).mono ?_; rintro e w' ⟨rfl, rfl⟩
          rw [F1.out]
          go_wp2_with fail
          refine (HF.out a).mono ?_; rintro e w3 ⟨rfl, q3, rfl⟩
          go_wp2_with fail
          refine (HFq.out q3 a).mono ?_; rintro e w4 ⟨rfl, q4, rfl⟩
          go_wp2_with fail
          first | (refine (HFq.out (q3 + q4) b).mono ?_) | (refine (HFq2.out q3 q4 b).mono ?_)
          rintro e w5 ⟨rfl, q5, rfl⟩
          rw [← M2.out]
          go_wp2_with fail
          refine (lives_any _).mono ?_; rintro e w9 ⟨rfl, hbl⟩
          have Hbl := Lib.hid (Fin.out _ (show Below w2.heap.size w2 w9 from ⟨hbl.os, hbl.tape, hbl.output, hbl.size, hbl.block⟩))
          clear hbl
          go_wp2_with fail
          go_ret
          exact ⟨rfl, Hbl.out⟩
  · have EA : Hid (sameB h' a a = false) := Lib.hid (e1.trans (by simp [hasB]; omega))
    have g0' : decide (0 ≤ a) = false := by simpa using g0
    clear e1
    cases f1 : sameB h' a b with
    | false =>
      have F1 := Lib.hid f1
      have E2 : Hid (sameB h' b a = false) := Lib.hid (e2.trans f1)
      clear f1 e2
      go_wp2_with fail
      refine (HS.out a a).mono ?_; rintro e w' ⟨rfl, rfl⟩
      rw [EA.out]
      go_wp2_with fail
      refine (HS.out a b).mono ?_; rintro e w' ⟨rfl, rfl⟩
      rw [F1.out]
      go_wp2_with fail
      refine (HS.out b a).mono ?_; rintro e w' ⟨rfl, rfl⟩
      rw [E2.out]
      go_wp2_with fail
      refine (HS.out a b).mono ?_; rintro e w' ⟨rfl, rfl⟩
      rw [F1.out]
      go_wp2_with fail
      refine (HS.out a b).mono ?_; rintro e w' ⟨rfl, rfl⟩
      rw [F1.out]
      go_wp2_with fail
      refine (lives_any _).mono ?_; rintro e w9 ⟨rfl, hbl⟩
      have Hbl := Lib.hid (Fin.out _ hbl)
      clear hbl
      go_wp2_with fail
      go_ret
      exact ⟨rfl, Hbl.out⟩
    | true =>
      have F1 := Lib.hid f1
      have E2 : Hid (sameB h' b a = true) := Lib.hid (e2.trans f1)
      obtain ⟨m1, m2⟩ := same_find h' hok.out a b f1
      have hm : decide (findI h' a ≤ b) = true := by simpa using m1
      have M2 := Lib.hid m2
      cases f2 : sameB h' b c with
      | false =>
        have F2 := Lib.hid f2
        clear f1 f2 e2 m2
        go_wp2_with fail
        refine (HS.out a a).mono ?_; rintro e w' ⟨rfl, rfl⟩
        rw [EA.out]
        go_wp2_with fail
        refine (HS.out a b).mono ?_; rintro e w' ⟨rfl, rfl⟩
        rw [F1.out]
        go_wp2_with fail
        refine (HS.out b a).mono ?_; rintro e w' ⟨rfl, rfl⟩
        rw [E2.out]
        go_wp2_with fail
        refine (HS.out a b).mono ?_; rintro e w' ⟨rfl, rfl⟩
        rw [F1.out]
        go_wp2_with fail
        refine (HS.out b c).mono ?_; rintro e w' ⟨rfl, rfl⟩
        rw [F2.out]
        go_wp2_with fail
        refine (HS.out a b).mono ?_; rintro e w' ⟨rfl, rfl⟩
        rw [F1.out]
        go_wp2_with fail
        refine (HF.out a).mono ?_; rintro e w3 ⟨rfl, q3, rfl⟩
        go_wp2_with fail
        refine (HFq.out q3 a).mono ?_; rintro e w4 ⟨rfl, q4, rfl⟩
        go_wp2_with fail
        first | (refine (HFq.out (q3 + q4) b).mono ?_) | (refine (HFq2.out q3 q4 b).mono ?_)
        rintro e w5 ⟨rfl, q5, rfl⟩
        rw [← M2.out]
        go_wp2_with fail
        refine (lives_any _).mono ?_; rintro e w9 ⟨rfl, hbl⟩
        have Hbl := Lib.hid (Fin.out _ (show Below w2.heap.size w2 w9 from ⟨hbl.os, hbl.tape, hbl.output, hbl.size, hbl.block⟩))
        clear hbl
        go_wp2_with fail
        go_ret
        exact ⟨rfl, Hbl.out⟩
      | true =>
        have F2 := Lib.hid f2
        have F3 := Lib.hid (same_trans h' a b c f1 f2)
        clear f1 f2 e2 m2
        go_wp2_with fail
        refine (HS.out a a).mono ?_; rintro e w' ⟨rfl, rfl⟩
        rw [EA.out]
        go_wp2_with fail
        refine (HS.out a b).mono ?_; rintro e w' ⟨rfl, rfl⟩
        rw [F1.out]
        go_wp2_with fail
        refine (HS.out b a).mono ?_; rintro e w' ⟨rfl, rfl⟩
        rw [E2.out]
        go_wp2_with fail
        refine (HS.out a b).mono ?_; rintro e w' ⟨rfl, rfl⟩
        rw [F1.out]
        go_wp2_with fail
        refine (HS.out b c).mono ?_; rintro e w' ⟨rfl, rfl⟩
        rw [F2.out]
        go_wp2_with fail
        refine (HS.out a c).mono ?_; rintro e w' ⟨rfl, rfl⟩
        rw [F3.out]
        go_wp2_with fail
        refine (HS.out a b).mono ?_; rintro e w' ⟨rfl, rfl⟩
        rw [F1.out]
        go_wp2_with fail
        refine (HF.out a).mono ?_; rintro e w3 ⟨rfl, q3, rfl⟩
        go_wp2_with fail
        refine (HFq.out q3 a).mono ?_; rintro e w4 ⟨rfl, q4, rfl⟩
        go_wp2_with fail
        first | (refine (HFq.out (q3 + q4) b).mono ?_) | (refine (HFq2.out q3 q4 b).mono ?_)
        rintro e w5 ⟨rfl, q5, rfl⟩
        rw [← M2.out]
        go_wp2_with fail
        refine (lives_any _).mono ?_; rintro e w9 ⟨rfl, hbl⟩
        have Hbl := Lib.hid (Fin.out _ (show Below w2.heap.size w2 w9 from ⟨hbl.os, hbl.tape, hbl.output, hbl.size, hbl.block⟩))
        clear hbl
        go_wp2_with fail
        go_ret
        exact ⟨rfl, Hbl.out⟩
theorem cells38 : Try.prog.cellsOf 38 = 3 := by kernel_rfl
theorem arr_open {H : Type} {enc : TypeId × Value → H} {w : World} {base : Nat} {spare : Nat → Bool} {held : Bool} {n : Nat} {cs : List Value} {x : DataW H × List MemPlace} (h : DataW.trod enc Try.prog w base spare held n 38 cs = some x) : ∃ a b c : Int, cs = [.int .i64 a, .int .i64 b, .int .i64 c] := by
  obtain ⟨xs, m, _, _, hlen, hxl, hf⟩ := DataW.trod_array Try.underlying38 h
  rw [cells38] at hlen
  match cs, hlen with
  | [c0, c1, c2], _ =>
    have val : ∀ i (hi : i < 3), ∃ v, ([c0, c1, c2].drop i).take 1 = [v] ∧ ∃ k : Int, v = .int .i64 k := by
      intro i hi
      have h4 := hf i hi
      rw [cells3, Nat.mul_one] at h4
      have hxi : xs[i]? = some (xs[i]'(by omega)) := List.getElem?_eq_getElem (by omega)
      rw [hxi] at h4
      obtain ⟨k, h5, _⟩ := DataW.trod_int Try.underlying3 h4
      exact ⟨_, h5, k, rfl⟩
    obtain ⟨v0, e0, k0, rfl⟩ := val 0 (by omega)
    obtain ⟨v1, e1, k1, rfl⟩ := val 1 (by omega)
    obtain ⟨v2, e2, k2, rfl⟩ := val 2 (by omega)
    simp at e0 e1 e2
    exact ⟨k0, k1, k2, by rw [e0, e1, e2]⟩
theorem okWide_arr {w : World} {r : Reach} {b : Nat} {v : Value} (h : Value.okWide Try.prog w r b 38 v) : ∃ cs, v = .agg cs := by
  simp only [Value.okWide, Try.underlying38] at h
  obtain ⟨cs, h1, _⟩ := h
  exact ⟨cs, h1⟩
set_option maxRecDepth 100000 in
theorem lifted (os : Os) (started : os.Started) (H : Type) (enc : TypeId × Value → H) :
    ReturnsInHanded {} Try.checked os 6 .any (Rows.unionfindEquivalenceSpec.pre6 enc Try.prog Try.f6 Rows.unionfindEquivalenceRow.domain false) (Rows.unionfindEquivalenceSpec.post enc Try.prog Try.f6 false true false false) := by
  refine returnsInHanded_of_change (C := Try.checked) own started (by kernel_rfl) Try.func6
    (ChangeSpec.witness6 (enc := enc) (C := Try.checked) false ⟨#[], #[.slice none 0 0, .agg #[.int .i64 0, .int .i64 0, .int .i64 0]], []⟩ 8 (by kernel_rfl) (by kernel_rfl) (by kernel_rfl) (by kernel_rfl)) ?_
  intro W base args ds gs before hval0 hW hcnd _
  have hval : ∀ (j : Nat) t v, Try.f6.params[j]? = some t → args[j]? = some v → Value.okWide Try.prog W .any base t v := hval0
  have hW' := hW
  obtain ⟨p, q, hA0, hV, rfl, hfz, hnd⟩ := hW
  have hA : DataW.TrodAll enc Try.prog W 0 (fun _ => true) true Try.f6.params.toList args.toList ds p := hA0
  rw [Try.params6] at hA hval
  obtain ⟨v0, vs0, d0, ds0, p0, q0, hargs, rfl, rfl, h0, r0⟩ := trodAll_cons hA
  obtain ⟨v1, vs1, d1, ds1, p1, q1, hargs1, rfl, rfl, h1, r1⟩ := trodAll_cons r0
  obtain ⟨rfl, rfl, rfl⟩ := trodAll_nil r1
  obtain rfl : args = #[v0, v1] := by cases args; simp_all
  obtain ⟨rfl, rfl⟩ := trodVars_none hV
  obtain ⟨a0, len0, cap0, rfl⟩ := okWide_slice Try.underlying22 (hval 0 22 v0 rfl rfl)
  obtain ⟨cs, rfl⟩ := okWide_arr (hval 1 38 v1 rfl rfl)
  have k0 := h0
  have k1 := h1
  have lt0 : ∀ x ∈ p0, x.block < W.heap.size := by obtain ⟨m, hm⟩ := k0; exact DataW.trod_lt m _ _ _ hm
  have lt1 : ∀ x ∈ p1, x.block < W.heap.size := by obtain ⟨m, hm⟩ := k1; exact DataW.trod_lt m _ _ _ hm
  obtain ⟨ac, w0⟩ : ∃ ac, Acts W W.heap.size (.slice a0 len0 cap0) ac := by
    obtain ⟨fuel, hf⟩ := h0
    exact acts_open hf
  obtain ⟨a, b, c, hcs⟩ : ∃ a b c : Int, cs = #[.int .i64 a, .int .i64 b, .int .i64 c] := by
    obtain ⟨fuel, hf⟩ := h1
    obtain ⟨a, b, c, e⟩ := arr_open hf
    simp [Value.cells] at e
    exact ⟨a, b, c, by apply Array.ext'; simpa using e⟩
  clear hA0 hval0
  have hwalk : Calls Try.prog 6 #[.slice a0 len0 cap0, .agg cs] W fun e w' => e = .returned (.bool true) ∧ Below W.heap.size W w' := by
    rw [hcs]
    by_cases hl : 40 < len0
    · exact walk_long a0 len0 cap0 a b c W hl
    · have hlen : ac.length = len0 := by
        obtain ⟨p, c, e⟩ := w0.shape
        injection e with _ e2 _
        exact e2.symm
      exact walk_short _ ac a b c W w0 (by omega)
  refine hwalk.mono fun e W' ⟨he, bel⟩ => ?_
  subst he
  exact ⟨_, rfl, _, _, _, [], _, [], hW', trodAll_mk1 (shut_bool Try.underlying4 _), (trodAll_cons_mk (Below.trod laidOut (by kernel_rfl) (of_decide_eq_true (by kernel_rfl)) k0 bel lt0) (trodAll_cons_mk (Below.trod laidOut (by kernel_rfl) (of_decide_eq_true (by kernel_rfl)) k1 bel lt1) trodAll_mk0)), rfl, bel.frame _, fun h => by cases h⟩
theorem over : Rows.unionfindEquivalenceRow.holds Try.pinned (OpenSpec.ofChange Rows.unionfindEquivalenceSpec) :=
  OpenClaim.holds_of_wide 6 Try.f6 rfl rfl rfl rfl rfl rfl rfl ⟨rfl, rfl, rfl, rfl, rfl⟩ rfl rfl rfl rfl rfl (by kernel_rfl) Try.func6 (by kernel_rfl)
    (of_decide_eq_true (by kernel_rfl)) (by unfold Func.isWrapper; first | (rw [if_pos (by decide +kernel)]; kernel_rfl) | (rw [if_neg (by decide +kernel)]; exact ⟨rfl, rfl⟩))
    (fun os started H enc _ => lifted os started H enc)
/-- The statement. -/
theorem proved : Rows.UnionfindEquivalenceSaid := over
#print axioms proved
end Go.Proofs.Ytihoegihmgeenaa.ufEqui
