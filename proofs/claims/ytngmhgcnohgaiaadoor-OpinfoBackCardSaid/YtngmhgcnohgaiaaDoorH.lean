/- The two laws on names, walked. -/
import Derived.Test.YtngmhgcnohgaiaaDoorG
namespace Go.Proofs.YtngmhgcnohgaiaaDoor
open Go.RowKit
set_option linter.unusedVariables false
theorem Tab.below {w w' : World} (h : Tab w) (hw : 0 < w.heap.size) (hb : Below w.heap.size w w') : Tab w' := fun k hk => by
  rw [hb.cell (p := ⟨0, k, none⟩) hw]; exact h k hk
theorem names_differ : ∀ i, i < 27 → ∀ j, j < 27 → tab.getD i [] = tab.getD j [] → i = j := by decide
theorem nameAt_inj {i j : Nat} (hi : i < 27) (hj : j < 27) (h : nameAt i = nameAt j) : i = j := by
  apply names_differ i hi j hj
  unfold nameAt at h
  have := congrArg (fun b => b.data.toList) h
  simpa using this
theorem of_name (op : Int) (h1 : 1 ≤ op) (h2 : op ≤ 26) : ofL (nameB op) = (op, true) := by
  obtain ⟨n, rfl⟩ := Int.eq_ofNat_of_zero_le (show 0 ≤ op by omega)
  obtain ⟨k, rfl⟩ : ∃ k, n = k + 1 := ⟨n - 1, by omega⟩
  have e : nameB ((k + 1 : Nat) : Int) = nameAt (k + 1) := nameB_at k (by omega)
  rw [e, of_hit (k := k) (by omega) (fun j hj he => by have := nameAt_inj (by omega) (by omega) he; omega) rfl]; simp
theorem name_of (s : ByteArray) (h : (ofL s).2 = true) : nameB (ofL s).1 = s := by
  unfold ofL at h ⊢
  cases hf : (List.range 26).find? (fun j => decide (nameAt (j + 1) = s)) with
  | none => rw [hf] at h; simp at h
  | some j =>
    have h1 := List.find?_some hf
    have h2 := List.mem_of_find?_eq_some hf
    simp at h1 h2
    show nameB ((j : Int) + 1) = s
    rw [nameB_at j h2, h1]
theorem name_differs (op other : Int) (h1 : 1 ≤ op) (h2 : op ≤ 26) (hne : op ≠ other) : ¬ nameB op = nameB other := by
  intro he
  obtain ⟨n, rfl⟩ := Int.eq_ofNat_of_zero_le (show 0 ≤ op by omega)
  have e1 : nameB (n : Int) = nameAt n := by unfold nameB isOpB; rw [if_pos (by apply decide_eq_true; omega)]; rfl
  by_cases ho : isOpB other = true
  · have hr : 0 < other ∧ other < 27 := by unfold isOpB at ho; exact of_decide_eq_true ho
    have e2 : nameB other = nameAt other.toNat := by unfold nameB; rw [if_pos ho]
    rw [e1, e2] at he
    have := nameAt_inj (by omega) (by omega) he
    omega
  · have e2 : nameB other = nameAt 0 := by unfold nameB; rw [if_neg ho]; rfl
    rw [e1, e2] at he
    have := nameAt_inj (by omega) (by omega) he
    omega
theorem toList_ne {a b : ByteArray} (h : ¬ a = b) : (a.toList == b.toList) = false := by
  cases hc : (a.toList == b.toList) with
  | false => rfl
  | true => exact absurd (str_eq hc) h
set_option maxHeartbeats 1000000 in
theorem names_walk (op : Int) (s : ByteArray) (w : World) (ht : Tab w) (hw : 0 < w.heap.size) : Calls Tryd.prog 3 #[.int .i64 op, .string s] w fun e w' => e = .returned (.bool true) ∧ Below w.heap.size w w' := by
  have ht' := Lib.hid ht
  clear ht
  go_enter Tryd.func3, Tryd.ntmps3
  go_wp2_with fail
  refine (of_any s w ht' hw).mono ?_
  rintro e w1 ⟨rfl, hb1⟩
  go_wp2_with fail
  refine (rof_any s _).mono ?_
  rintro e w2 ⟨rfl, hu2⟩
  have hb2 := hb1.trans (hu2.b.mono hb1.size)
  have ht2 := Lib.hid (ht'.out.below hw hb2)
  go_wp2_with fail
  refine (name_any op _ ht2).mono ?_
  rintro e w3 ⟨rfl, rfl⟩
  go_wp2_with fail
  refine (rname_any op _).mono ?_
  rintro e w4 ⟨rfl, hu4⟩
  go_wp2_with fail
  refine (lives_any _).mono ?_
  rintro e w5 ⟨rfl, hu5⟩
  have hb4 := hb2.trans (hu4.b.mono hb2.size)
  go_wp2_with fail
  go_ret
  exact ⟨rfl, hb4.trans (hu5.b.mono hb4.size)⟩
set_option maxHeartbeats 2000000 in
theorem back_walk (op other : Int) (s : ByteArray) (w : World) (ht : Tab w) (hw : 0 < w.heap.size) : Calls Tryd.prog 4 #[.int .i64 op, .int .i64 other, .string s] w fun e w' => e = .returned (.bool true) ∧ Below w.heap.size w w' := by
  have ht' := Lib.hid ht
  clear ht
  by_cases h1 : 1 ≤ op
  · by_cases h2 : op ≤ 26
    · have hof := Lib.hid (of_name op h1 h2)
      by_cases h3 : op = other
      · subst h3
        go_enter Tryd.func4, Tryd.ntmps4
        go_wp2_with fail
        refine (name_any op _ ht').mono ?_
        rintro e w3 ⟨rfl, rfl⟩
        go_wp2_with fail
        refine (of_any _ w ht' hw).mono ?_
        rintro e w1 ⟨rfl, hb1⟩
        have ht1 : Hid (Tab w1) := Lib.hid (ht'.out.below hw hb1)
        have hw1 : 0 < w1.heap.size := Nat.lt_of_lt_of_le hw hb1.size
        rw [hof.out]
        go_wp2_with fail
        refine (of_any s w1 ht1 hw1).mono ?_
        rintro e w2 ⟨rfl, hb2⟩
        have hb3 : Below w.heap.size w w2 := hb1.trans (hb2.mono hb1.size)
        have ht2 : Hid (Tab w2) := Lib.hid (ht1.out.below hw1 hb2)
        rcases Bool.eq_false_or_eq_true (ofL s).2 with ho | ho
        · have hname := Lib.hid (name_of s ho)
          go_wp2_with fail
          refine (name_any _ _ ht2).mono ?_
          rintro e w3 ⟨rfl, rfl⟩
          rw [hname.out]
          go_wp2_with fail
          refine (lives_any _).mono ?_
          rintro e w5 ⟨rfl, hu5⟩
          go_wp2_with fail
          go_ret
          exact ⟨rfl, hb3.trans (hu5.b.mono hb3.size)⟩
        · go_wp2_with fail
          refine (lives_any _).mono ?_
          rintro e w5 ⟨rfl, hu5⟩
          go_wp2_with fail
          go_ret
          exact ⟨rfl, hb3.trans (hu5.b.mono hb3.size)⟩
      · have hd := Lib.hid (toList_ne (name_differs op other h1 h2 h3))
        have h3' : (op != other) = true := by rw [bne_iff_ne]; exact h3
        clear h3
        go_enter Tryd.func4, Tryd.ntmps4
        go_wp2_with fail
        refine (name_any op _ ht').mono ?_
        rintro e w3 ⟨rfl, rfl⟩
        go_wp2_with fail
        refine (of_any _ w ht' hw).mono ?_
        rintro e w1 ⟨rfl, hb1⟩
        have ht1 : Hid (Tab w1) := Lib.hid (ht'.out.below hw hb1)
        have hw1 : 0 < w1.heap.size := Nat.lt_of_lt_of_le hw hb1.size
        rw [hof.out]
        go_wp2_with fail
        refine (name_any op _ ht1).mono ?_
        rintro e w3 ⟨rfl, rfl⟩
        go_wp2_with fail
        refine (name_any other _ ht1).mono ?_
        rintro e w3 ⟨rfl, rfl⟩
        have hd' := hd.out
        go_wp2_with fail
        clear hd'
        refine (of_any s w1 ht1 hw1).mono ?_
        rintro e w2 ⟨rfl, hb2⟩
        have hb3 : Below w.heap.size w w2 := hb1.trans (hb2.mono hb1.size)
        have ht2 : Hid (Tab w2) := Lib.hid (ht1.out.below hw1 hb2)
        rcases Bool.eq_false_or_eq_true (ofL s).2 with ho | ho
        · have hname := Lib.hid (name_of s ho)
          go_wp2_with fail
          refine (name_any _ _ ht2).mono ?_
          rintro e w3 ⟨rfl, rfl⟩
          rw [hname.out]
          go_wp2_with fail
          refine (lives_any _).mono ?_
          rintro e w5 ⟨rfl, hu5⟩
          go_wp2_with fail
          go_ret
          exact ⟨rfl, hb3.trans (hu5.b.mono hb3.size)⟩
        · go_wp2_with fail
          refine (lives_any _).mono ?_
          rintro e w5 ⟨rfl, hu5⟩
          go_wp2_with fail
          go_ret
          exact ⟨rfl, hb3.trans (hu5.b.mono hb3.size)⟩
    · 
      go_enter Tryd.func4, Tryd.ntmps4
      go_wp2_with fail
      refine (name_any op _ ht').mono ?_
      rintro e w3 ⟨rfl, rfl⟩
      go_wp2_with fail
      refine (of_any _ w ht' hw).mono ?_
      rintro e w1 ⟨rfl, hb1⟩
      have ht1 : Hid (Tab w1) := Lib.hid (ht'.out.below hw hb1)
      have hw1 : 0 < w1.heap.size := Nat.lt_of_lt_of_le hw hb1.size
      go_wp2_with fail
      refine (of_any s w1 ht1 hw1).mono ?_
      rintro e w2 ⟨rfl, hb2⟩
      have hb3 : Below w.heap.size w w2 := hb1.trans (hb2.mono hb1.size)
      have ht2 : Hid (Tab w2) := Lib.hid (ht1.out.below hw1 hb2)
      rcases Bool.eq_false_or_eq_true (ofL s).2 with ho | ho
      · have hname := Lib.hid (name_of s ho)
        go_wp2_with fail
        refine (name_any _ _ ht2).mono ?_
        rintro e w3 ⟨rfl, rfl⟩
        rw [hname.out]
        go_wp2_with fail
        refine (lives_any _).mono ?_
        rintro e w5 ⟨rfl, hu5⟩
        go_wp2_with fail
        go_ret
        exact ⟨rfl, hb3.trans (hu5.b.mono hb3.size)⟩
      · go_wp2_with fail
        refine (lives_any _).mono ?_
        rintro e w5 ⟨rfl, hu5⟩
        go_wp2_with fail
        go_ret
        exact ⟨rfl, hb3.trans (hu5.b.mono hb3.size)⟩
  · 
    go_enter Tryd.func4, Tryd.ntmps4
    go_wp2_with fail
    refine (name_any op _ ht').mono ?_
    rintro e w3 ⟨rfl, rfl⟩
    go_wp2_with fail
    refine (of_any _ w ht' hw).mono ?_
    rintro e w1 ⟨rfl, hb1⟩
    have ht1 : Hid (Tab w1) := Lib.hid (ht'.out.below hw hb1)
    have hw1 : 0 < w1.heap.size := Nat.lt_of_lt_of_le hw hb1.size
    go_wp2_with fail
    refine (of_any s w1 ht1 hw1).mono ?_
    rintro e w2 ⟨rfl, hb2⟩
    have hb3 : Below w.heap.size w w2 := hb1.trans (hb2.mono hb1.size)
    have ht2 : Hid (Tab w2) := Lib.hid (ht1.out.below hw1 hb2)
    rcases Bool.eq_false_or_eq_true (ofL s).2 with ho | ho
    · have hname := Lib.hid (name_of s ho)
      go_wp2_with fail
      refine (name_any _ _ ht2).mono ?_
      rintro e w3 ⟨rfl, rfl⟩
      rw [hname.out]
      go_wp2_with fail
      refine (lives_any _).mono ?_
      rintro e w5 ⟨rfl, hu5⟩
      go_wp2_with fail
      go_ret
      exact ⟨rfl, hb3.trans (hu5.b.mono hb3.size)⟩
    · go_wp2_with fail
      refine (lives_any _).mono ?_
      rintro e w5 ⟨rfl, hu5⟩
      go_wp2_with fail
      go_ret
      exact ⟨rfl, hb3.trans (hu5.b.mono hb3.size)⟩
end Go.Proofs.YtngmhgcnohgaiaaDoor
