/- The law Parses. -/
import Derived.Test.YtgiheheakgigkaaAS
import Derived.Test.YtgiheheakgigkaaAG
namespace Go.Proofs.Ytgiheheakgigkaa
open Go.RowKit
set_option linter.unusedVariables false
set_option linter.unusedSimpArgs false
/-- what ParseAll leaves, as one shape -/
def LP (w : World) (l : List T) (j c : Nat) (e : Ending) (w' : World) : Prop := (∃ p d, e = .returned (.tuple #[.slice p l.length d, .int .i64 (j : Int), .int .i64 (c : Int)]) ∧ RowD (mem w.heap.size w') w' p d l) ∧ BK w w'
theorem pap_ok {w w' : World} {l : List T} {j : Nat} {e : Ending} (h : PAP w (.ok l j) e w') : LP w l 0 0 e w' := h
theorem pap_err {w w' : World} {j c : Nat} {e : Ending} (h : PAP w (.err j c) e w') : LP w [] j c e w' := ⟨⟨none, 0, h.1, .inl ⟨rfl, fun _ => rfl⟩⟩, h.2⟩
theorem zero_ok : okT zeroT := by unfold zeroT; rw [okT_mk, okL]; exact ⟨by decide, by decide, trivial⟩
theorem good_ok {t : T} {n : Nat} (h : riT t = true ∧ dpT t ≤ 64 ∧ szT t) (hn : nd t ≤ n) (hs : n ≤ 100000) : okT t := ok_of t (by omega) h.2.2
theorem parse_okT {s : ByteArray} (hs : s.size ≤ 65536) : okT (parseR (xo s)).1 := by
  cases h : allR (xo s) with
  | err j c => rw [parse_err h]; exact zero_ok
  | ok l j =>
    match l, h with
    | [], h => rw [parse_nil h]; exact zero_ok
    | [e], h =>
      rw [parse_one h]
      obtain ⟨h1, h2, h3⟩ := all_good (by omega) h
      rw [ndL_cons] at h2
      show okT e
      exact good_ok (h1 e (by simp)) (n := s.size) (by omega) (by omega)
    | e :: f :: l, h => rw [parse_two h]; exact zero_ok
theorem all_okT {s : ByteArray} (hs : s.size ≤ 65536) {l : List T} {j : Nat} (h : allR (xo s) = .ok l j) : (∀ t ∈ l, okT t) ∧ l.length ≤ maxLen := by
  obtain ⟨h1, h2, h3⟩ := all_good (by omega) h
  refine ⟨fun t ht => good_ok (h1 t ht) (n := s.size) (Nat.le_trans (ndL_mem ht) h2) (by omega), ?_⟩
  have := ndL_len l
  unfold maxLen
  omega
set_option maxRecDepth 100000 in
set_option maxHeartbeats 8000000 in
theorem parses_walk (s : ByteArray) (w : World) (t : T) (j c : Nat) (l : List T) (m d : Nat) (hz : s.size ≤ 3000 ∨ 65536 < s.size) (hm : s.size ≤ maxLen) (ht : okT t) (hl : (∀ t ∈ l, okT t) ∧ l.length ≤ maxLen)
    (h11 : ∀ w, Calls Try.prog 11 #[.string s] w (ONE w (t, j, c))) (h12 : ∀ w, Calls Try.prog 12 #[.string s] w (ONE w (t, j, c)))
    (h13 : ∀ w, Calls Try.prog 13 #[.string s] w (LP w l m d)) (h14 : ∀ w, Calls Try.prog 14 #[.string s] w (LP w l m d)) : Calls Try.prog 3 #[.string s] w fun e w' => e = .returned (.bool true) ∧ BK w w' := by
  have H11 := Lib.hid h11
  have H12 := Lib.hid h12
  have H13 := Lib.hid h13
  have H14 := Lib.hid h14
  have LV := Lib.hid live10
  have S15 := Lib.hid (same15 t ht)
  have S16 := Lib.hid (all16 l l hl.2 (fun t ht => same15 t (hl.1 t ht)))
  have ST := Lib.hid (sameT_refl t)
  have SL := Lib.hid (sameL_self l)
  unfold ONE at H11 H12
  unfold LP at H13 H14
  dsimp only at H11 H12 H13 H14
  clear h11 h12 h13 h14 ht hl
  have G : ((3000 : Int) < (s.size : Int) ∧ ¬ (s.size : Int) ≤ 65536) ∨ ¬ (3000 : Int) < (s.size : Int) := by omega
  generalize hn : s.size = n at *
  rcases G with ⟨g1, g2⟩ | g1
  all_goals
    clear hz hm
    go_enter Try.func3, Try.ntmps3
    go_wp2_with fail
    refine (H11.out _).mono ?_
    rintro e w1 ⟨⟨p1, c1, rfl, hr1⟩, hb1⟩
    have K1 := Lib.hid hb1
    have R1 := Lib.hid hr1
    clear hb1 hr1
    have KA := Lib.hid (bk_alloc (BK.refl w1) (.cells #[.string t.a, .slice p1 t.ts.length c1] 25))
    have NA := Lib.hid (heap_alloc_new w1 (.cells #[.string t.a, .slice p1 t.ts.length c1] 25))
    go_wp2_with fail
    refine (H12.out _).mono ?_
    rintro e w2 ⟨⟨p2, c2, rfl, hr2⟩, hb2⟩
    have K2 := Lib.hid hb2
    have R2 := Lib.hid hr2
    clear hb2 hr2
    have KB := Lib.hid (bk_alloc (BK.refl w2) (.cells #[.string t.a, .slice p2 t.ts.length c2] 25))
    have NB := Lib.hid (heap_alloc_new w2 (.cells #[.string t.a, .slice p2 t.ts.length c2] 25))
    go_wp2_with fail
    refine (H13.out _).mono ?_
    rintro e w3 ⟨⟨p3, c3, rfl, hr3⟩, hb3⟩
    have K3 := Lib.hid hb3
    have R3 := Lib.hid hr3
    clear hb3 hr3
    go_wp2_with fail
    refine (H14.out _).mono ?_
    rintro e w4 ⟨⟨p4, c4, rfl, hr4⟩, hb4⟩
    have K4 := Lib.hid hb4
    have R4 := Lib.hid hr4
    clear hb4 hr4
    have KB4 := Lib.hid (bk_tr KB.out (bk_tr K3.out K4.out))
    have KA4 := Lib.hid (bk_tr KA.out (bk_tr K2.out KB4.out))
    have NA4 := Lib.hid ((bk_block (bk_tr K2.out KB4.out) (Array.getElem?_eq_some_iff.1 NA.out).1).trans NA.out)
    have NB4 := Lib.hid ((bk_block (bk_tr K3.out K4.out) (Array.getElem?_eq_some_iff.1 NB.out).1).trans NB.out)
    have x0 := cell_of_row w4 w1.heap.size 0 _ 25 (0, 0) NA4.out
    have x1 := cell_of_row w4 w1.heap.size 1 _ 25 (0, 0) NA4.out
    have y0 := cell_of_row w4 w2.heap.size 0 _ 25 (0, 0) NB4.out
    have y1 := cell_of_row w4 w2.heap.size 1 _ 25 (0, 0) NB4.out
    have C15 := Lib.hid (S15.out t w4 p1 p2 c1 c2 (R1.out.bk KA4.out (Nat.zero_le _)) (R2.out.bk KB4.out (Nat.zero_le _)))
    rw [ST.out] at C15
    go_wp2_with fail
    refine C15.out.mono ?_
    rintro e w5 ⟨rfl, hb5⟩
    have K5 := Lib.hid hb5
    clear hb5
    have C16 := Lib.hid (S16.out w5 p3 p4 c3 c4 (R3.out.bk (bk_tr K4.out K5.out) (Nat.zero_le _)) (R4.out.bk K5.out (Nat.zero_le _)))
    rw [SL.out] at C16
    go_wp2_with fail
    refine C16.out.mono ?_
    rintro e w6 ⟨rfl, hb6⟩
    have K6 := Lib.hid hb6
    clear hb6
    have C10 := Lib.hid (LV.out w6)
    go_wp2_with fail
    refine C10.out.mono ?_
    rintro e w7 ⟨rfl, hb7⟩
    have K7 := Lib.hid hb7
    clear hb7
    go_wp2_with fail
    go_ret
    exact ⟨rfl, bk_tr K1.out (bk_tr KA4.out (bk_tr K5.out (bk_tr K6.out K7.out)))⟩
set_option maxRecDepth 100000 in
set_option maxHeartbeats 4000000 in
theorem parses_law (s : ByteArray) (hm : s.size ≤ maxLen) (w : World) : Calls Try.prog 3 #[.string s] w fun e w' => e = .returned (.bool true) ∧ BK w w' := by
  by_cases h1 : s.size ≤ 3000
  · have hs : s.size ≤ 65536 := by omega
    have h11 := fun w => p11 s hs w
    have h12 := fun w => ref12 s hs w
    have h13 := fun w => parse13 s hs w
    have h14 := fun w => ref14 s hs w
    have hok := parse_okT hs
    generalize hp : parseR (xo s) = P at *
    obtain ⟨t, j, c⟩ := P
    cases h : allR (xo s) with
    | ok l i =>
      rw [h] at h13 h14
      exact parses_walk s w t j c l 0 0 (.inl h1) hm hok (all_okT hs h) h11 h12 (fun w => (h13 w).mono fun e w' h => pap_ok h) (fun w => (h14 w).mono fun e w' h => pap_ok h)
    | err i d =>
      rw [h] at h13 h14
      exact parses_walk s w t j c [] i d (.inl h1) hm hok ⟨fun t ht => by simp at ht, Nat.zero_le _⟩ h11 h12 (fun w => (h13 w).mono fun e w' h => pap_err h) (fun w => (h14 w).mono fun e w' h => pap_err h)
  · by_cases h2 : s.size ≤ 65536
    · have LV := Lib.hid (live10 w)
      have g1 : (3000 : Int) < (s.size : Int) := by omega
      have g2 : (s.size : Int) ≤ 65536 := by omega
      clear h1 h2 hm
      generalize hn : s.size = n at *
      go_enter Try.func3, Try.ntmps3
      go_wp2_with fail
      refine LV.out.mono ?_
      rintro e w7 ⟨rfl, hb7⟩
      have K7 := Lib.hid hb7
      clear hb7
      go_wp2_with fail
      go_ret
      exact ⟨rfl, K7.out⟩
    · have hl : 65536 < s.size := by omega
      exact parses_walk s w zeroT 0 7 [] 0 7 (.inr hl) hm zero_ok ⟨fun t ht => by simp at ht, Nat.zero_le _⟩ (fun w => p11_long s hl hm w) (fun w => ref12_long s hl hm w) (fun w => (parse13_long s hl hm w).mono fun e w' h => pap_err h) (fun w => (ref14_long s hl hm w).mono fun e w' h => pap_err h)
end Go.Proofs.Ytgiheheakgigkaa
