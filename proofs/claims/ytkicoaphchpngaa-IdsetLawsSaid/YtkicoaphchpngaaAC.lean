/- The forms: the walk. -/
import Derived.Test.YtkicoaphchpngaaAB
import Derived.Test.YtkicoaphchpngaaQ
namespace Go.Proofs.Ytkicoaphchpngaa
open Go.RowKit Go.Lib Go.Sort
set_option linter.unusedVariables false
set_option linter.unusedSimpArgs false
theorem sameB_self (l : List Int) : sameB l l = true := by unfold sameB; exact decide_eq_true rfl
set_option maxHeartbeats 1000000 in
theorem short_nil (a : Option Addr) (n c : Nat) (w : World) (hn : n ≤ 300) : Calls Try.prog 9 #[.slice a n c, .slice none 0 0] w fun e w' => e = .returned (.bool true) ∧ w = w' := by
  go_enter Try.func9, Try.ntmps9
  go_wp2_with fail
  go_ret
  exact ⟨rfl, rfl⟩
set_option maxHeartbeats 1000000 in
theorem short_long (a : Option Addr) (n c : Nat) (w : World) (hn : 300 < n) : Calls Try.prog 9 #[.slice a n c, .slice none 0 0] w fun e w' => e = .returned (.bool false) ∧ w = w' := by
  go_enter Try.func9, Try.ntmps9
  go_wp2_with fail
  go_ret
  exact ⟨rfl, rfl⟩
set_option maxHeartbeats 1000000 in
theorem forms_long (a : Option Addr) (n c : Nat) (x : Int) (w : World) (hn : 300 < n) : Calls Try.prog 3 #[.slice a n c, .int .i64 x] w fun e w' => e = .returned (.bool true) ∧ Below w.heap.size w w' := by
  have hs := Lib.hid (short_long a n c w hn)
  go_enter Try.func3, Try.ntmps3
  go_wp2_with (first | (go_at_call 9; refine hs.out.mono ?_; rintro e w' ⟨rfl, rfl⟩) | (go_at_call 10; refine (lives_any _).mono ?_; rintro e w4 ⟨rfl, hb4⟩))
  go_ret
  exact ⟨rfl, hb4⟩
set_option maxRecDepth 100000 in
set_option maxHeartbeats 8000000 in
theorem forms_short (a : Option Addr) (c : Nat) (zs : List Int) (x : Int) (w : World) (hn : zs.length ≤ 300) (h : Rd w (.slice a zs.length c) zs) (p : Pr (.slice a zs.length c)) : Calls Try.prog 3 #[.slice a zs.length c, .int .i64 x] w fun e w' => e = .returned (.bool true) ∧ Below w.heap.size w w' := by
  have hs := Lib.hid (short_nil a zs.length c w hn)
  have hr := Lib.hid h
  have hp := Lib.hid p
  have hol := ofL_len zs
  have hol2 := ofL_len (zs ++ [x])
  have hdl := drop_len x (ofL zs)
  have hl2 : (zs ++ [x]).length = zs.length + 1 := by simp
  rw [hl2] at hol2
  clear h p
  generalize (.slice a zs.length c : Value) = sv at hs hr hp ⊢
  clear hl2
  go_enter Try.func3, Try.ntmps3
  go_wp2_with (first
    | (go_at_call 10; refine (lives_any _).mono ?_; rintro e w14 ⟨rfl, hb⟩; have hB14 := Lib.hid (below_up hB13.out hb); clear hb)
    | (go_at_call 11; refine (same_any v11 v12 (dropL x (ofL zs)) (dropL x (ofL zs)) w12 (Rd.own (own_keep hO11.out hK12.out)) (Rd.own hO12.out) (by omega)).mono ?_; rw [sameB_self]; rintro e w13 ⟨rfl, hd⟩; have hB13 := Lib.hid (below_up hB12.out (drawn_below hd)); clear hd)
    | (go_at_call 23; refine (rremove_any sv x zs w11 (hr.out.below hB11.out) (by omega)).mono ?_; rintro e w12 ⟨v12, rfl, ho, hb⟩; have hO12 := Lib.hid ho; have hK12 := Lib.hid hb; have hB12 := Lib.hid (below_up hB11.out hb); clear ho hb)
    | (go_at_call 22; refine (remove_any sv x zs w10 (hr.out.below hB10.out) (by omega)).mono ?_; rintro e w11 ⟨v11, rfl, ho, hb⟩; have hO11 := Lib.hid ho; have hB11 := Lib.hid (below_up hB10.out hb); clear ho hb)
    | (go_at_call 11; refine (same_any v8 v9 (ofL (zs ++ [x])) (ofL (zs ++ [x])) w9 (Rd.own (own_keep hO8.out hK9.out)) (Rd.own hO9.out) (by omega)).mono ?_; rw [sameB_self]; rintro e w10 ⟨rfl, hd⟩; have hB10 := Lib.hid (below_up hB9.out (drawn_below hd)); clear hd)
    | (go_at_call 21; refine (radd_any sv x zs w8 (hr.out.below hB8.out) hp.out (by omega)).mono ?_; rintro e w9 ⟨v9, rfl, ho, hb⟩; have hO9 := Lib.hid ho; have hK9 := Lib.hid hb; have hB9 := Lib.hid (below_up hB8.out hb); clear ho hb)
    | (go_at_call 20; refine (add_any sv x zs w7 (hr.out.below hB7.out) (by omega)).mono ?_; rintro e w8 ⟨v8, rfl, ho, hb⟩; have hO8 := Lib.hid ho; have hB8 := Lib.hid (below_up hB7.out hb); clear ho hb)
    | (go_at_call 19; refine (rindex_any v7 x (ofL zs) w7 (Rd.own hO7.out) (by omega)).mono ?_; rintro e w' ⟨rfl, rfl⟩)
    | (go_at_call 13; refine (rof_any sv zs w6 (hr.out.below hB6.out) (by omega)).mono ?_; rintro e w7 ⟨v7, rfl, ho, hb⟩; have hO7 := Lib.hid ho; have hB7 := Lib.hid (below_up hB6.out hb); clear ho hb)
    | (go_at_call 18; refine (index_any sv x zs w5 (hr.out.below hB5.out) (by omega)).mono ?_; rintro e w6 ⟨rfl, hb⟩; have hB6 := Lib.hid (below_up hB5.out hb); clear hb)
    | (go_at_call 17; refine (rhas_any sv x zs w5 (hr.out.below hB5.out) (by omega)).mono ?_; rintro e w' ⟨rfl, rfl⟩)
    | (go_at_call 16; refine (has_any sv x zs w5 (hr.out.below hB5.out) (by omega)).mono ?_; rintro e w' ⟨rfl, rfl⟩)
    | (go_at_call 15; refine (rvalid_any sv zs w4 (hr.out.below hB4.out) (by omega)).mono ?_; rintro e w5 ⟨rfl, hd⟩; have hB5 := Lib.hid (below_up hB4.out (drawn_below hd)); clear hd)
    | (go_at_call 14; refine (valid_any sv zs w3 (hr.out.below hB3.out) (by omega)).mono ?_; rintro e w4 ⟨rfl, hd⟩; have hB4 := Lib.hid (below_up hB3.out (drawn_below hd)); clear hd)
    | (go_at_call 11; refine (same_any v1 v2 (ofL zs) (ofL zs) w2 (Rd.own (own_keep hO1.out hK2.out)) (Rd.own hO2.out) (by omega)).mono ?_; rw [sameB_self]; rintro e w3 ⟨rfl, hd⟩; have hB3 := Lib.hid (below_up hB2.out (drawn_below hd)); clear hd)
    | (go_at_call 13; refine (rof_any sv zs w1 (hr.out.below hB1.out) (by omega)).mono ?_; rintro e w2 ⟨v2, rfl, ho2, hb2⟩; have hO2 := Lib.hid ho2; have hK2 := Lib.hid hb2; have hB2 := Lib.hid (below_up hB1.out hb2); clear ho2 hb2)
    | (go_at_call 12; refine (of_any sv zs w hr.out (by omega)).mono ?_; rintro e w1 ⟨v1, rfl, ho1, hb1⟩; have hO1 := Lib.hid ho1; have hB1 := Lib.hid hb1; clear ho1 hb1)
    | (go_at_call 9; refine hs.out.mono ?_; rintro e w' ⟨rfl, rfl⟩))
  go_ret
  exact ⟨rfl, hB14.out⟩
theorem forms_row {w : World} {a : Option Addr} {len cap : Nat} {zs : List Int} {x : Int}
    (h : (a = none ∧ len = 0 ∧ cap = 0 ∧ zs = []) ∨ ∃ x, a = some x ∧ len ≤ cap ∧ cap ≤ maxLen ∧ zs.length = cap ∧ (∀ i, i < zs.length → w.cell? (x.add i) = some (.int .i64 (zs.getD i 0))) ∧ ∀ n ∈ zs, (Lit.int .i64 n).wf = true) :
    Calls Try.prog 3 #[.slice a len cap, .int .i64 x] w fun e w' => e = .returned (.bool true) ∧ Below w.heap.size w w' := by
  by_cases hl : 300 < len
  · exact forms_long a len cap x w hl
  · have hp : Pr (.slice a len cap) := by
      intro c e
      simp only [Value.slice.injEq] at e
      obtain ⟨rfl, rfl, rfl⟩ := e
      rcases h with ⟨_, _, h, _⟩ | ⟨_, h, _⟩
      · exact h
      · cases h
    rcases rd_row h with rfl | ⟨b, off, rfl, ys, rfl, h0, hc, hb, hcell, hwf⟩
    · exact forms_short a cap [] x w (by simp) (Or.inl ⟨a, cap, rfl, rfl⟩) hp
    · exact forms_short _ cap ys x w (by omega) (Or.inr ⟨b, off, cap, rfl, h0, hc, hb, hcell⟩) hp
end Go.Proofs.Ytkicoaphchpngaa
