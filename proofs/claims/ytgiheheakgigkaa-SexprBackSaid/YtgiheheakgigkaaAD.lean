/- live. -/
import Derived.Test.YtgiheheakgigkaaAC
namespace Go.Proofs.Ytgiheheakgigkaa
open Go.RowKit
set_option linter.unusedVariables false
set_option linter.unusedSimpArgs false
theorem p11 (s : ByteArray) (hs : s.size ≤ 65536) (w : World) : Calls Try.prog 11 #[.string s] w (ONE w (parseR (xo s))) := parse11 s hs w (fun w => parse13 s hs w)
theorem l1 (w : World) : Calls Try.prog 11 #[.string ⟨#[40, 97, 100, 100, 32, 120, 58, 56, 32, 59, 32, 115, 117, 109, 10, 32, 49, 58, 56, 41]⟩] w fun e w' => (∃ p c, e = .returned (.tuple #[.agg #[.string ⟨#[]⟩, .slice p 3 c], .int .i64 0, .int .i64 0]) ∧ RowD (mem w.heap.size w') w' p c [lf ⟨#[97, 100, 100]⟩, lf ⟨#[120, 58, 56]⟩, lf ⟨#[49, 58, 56]⟩]) ∧ BK w w' := by
  have h := p11 s1 (by decide) w
  rw [q1] at h
  exact h
theorem l2 (w : World) : Calls Try.prog 11 #[.string ⟨#[40, 97, 41, 41]⟩] w fun e w' => (∃ p c, e = .returned (.tuple #[.agg #[.string ⟨#[]⟩, .slice p 0 c], .int .i64 3, .int .i64 6])) ∧ BK w w' := by
  have h := p11 s2 (by decide) w
  rw [q2] at h
  exact h.mono fun e w' ⟨⟨p, c, h1, _⟩, h2⟩ => ⟨⟨p, c, h1⟩, h2⟩
theorem l3 (w : World) : Calls Try.prog 11 #[.string ⟨#[97, 32, 98]⟩] w fun e w' => (∃ p c, e = .returned (.tuple #[.agg #[.string ⟨#[]⟩, .slice p 0 c], .int .i64 2, .int .i64 6])) ∧ BK w w' := by
  have h := p11 s3 (by decide) w
  rw [q3] at h
  exact h.mono fun e w' ⟨⟨p, c, h1, _⟩, h2⟩ => ⟨⟨p, c, h1⟩, h2⟩
theorem l4 (w : World) : Calls Try.prog 13 #[.string ⟨#[97, 32, 98]⟩] w fun e w' => (∃ p c, e = .returned (.tuple #[.slice p 2 c, .int .i64 0, .int .i64 0])) ∧ BK w w' := by
  have h := parse13 s3 (by decide) w
  rw [q4] at h
  exact h.mono fun e w' ⟨⟨p, c, h1, _⟩, h2⟩ => ⟨⟨p, c, h1⟩, h2⟩
def pc : Obj := .cells #[.string ⟨#[97]⟩, .slice none 0 0, .string ⟨#[]⟩, .slice none 0 0] 25
theorem l5 (w : World) : Calls Try.prog 18 #[.agg #[.string ⟨#[]⟩, .slice (some ⟨w.heap.size, 0, none⟩) 2 2]] (w.alloc pc) fun e w' => e = .returned (.string ⟨#[40, 97, 32, 40, 41, 41]⟩) ∧ BK (w.alloc pc) w' := by
  have hn : (w.alloc pc).heap[w.heap.size]? = some (.cells #[.string ⟨#[97]⟩, .slice none 0 0, .string ⟨#[]⟩, .slice none 0 0] 25 (0, 0)) := heap_alloc_new w pc
  have c0 := cell_of_row _ w.heap.size 0 _ 25 (0, 0) hn
  have c1 := cell_of_row _ w.heap.size 1 _ 25 (0, 0) hn
  have c2 := cell_of_row _ w.heap.size 2 _ 25 (0, 0) hn
  have c3 := cell_of_row _ w.heap.size 3 _ 25 (0, 0) hn
  have hr : RowD (mem 0 (w.alloc pc)) (w.alloc pc) (some ⟨w.heap.size, 0, none⟩) 2 [lf ⟨#[97]⟩, zeroT] := by
    refine .inr ⟨_, _, rfl, ⟨Nat.zero_le _, by rw [sz1]; omega⟩, ?_, Nat.le_refl _⟩
    rw [AtDL, AtDL, AtDL]
    refine ⟨atD_mk.2 ⟨none, 0, c0, c1, .inl ⟨rfl, fun _ => rfl⟩⟩, atD_mk.2 ⟨none, 0, c2, c3, .inl ⟨rfl, fun _ => rfl⟩⟩, trivial⟩
  have h := print18 (.mk ⟨#[]⟩ [lf ⟨#[97]⟩, zeroT]) (w.alloc pc) _ 2 hr (by rw [q5]; decide)
  rw [q5] at h
  exact h
set_option maxRecDepth 100000 in
set_option maxHeartbeats 4000000 in
theorem live10 (w : World) : Calls Try.prog 10 #[] w fun e w' => e = .returned (.bool true) ∧ BK w w' := by
  have L1 := Lib.hid l1
  have L2 := Lib.hid l2
  have L3 := Lib.hid l3
  have L4 := Lib.hid l4
  have L5 := Lib.hid l5
  unfold pc at L5
  go_enter Try.func10, Try.ntmps10
  go_wp2_with fail
  refine (L1.out _).mono ?_
  rintro e w1 ⟨⟨p, c, rfl, hr⟩, hb1⟩
  have KA := Lib.hid (bk_alloc (BK.refl w1) (.cells #[.string ⟨#[]⟩, .slice p 3 c] 25))
  have NA := Lib.hid (heap_alloc_new w1 (.cells #[.string ⟨#[]⟩, .slice p 3 c] 25))
  have HR := Lib.hid hr
  have K1 := Lib.hid hb1
  clear hr hb1
  go_wp2_with fail
  refine (L2.out _).mono ?_
  rintro e w2 ⟨⟨p2, c2, rfl⟩, hb2⟩
  have K2 := Lib.hid hb2
  clear hb2
  have KB := Lib.hid (bk_alloc (BK.refl w2) (.cells #[.string ⟨#[]⟩, .slice p2 0 c2] 25))
  go_wp2_with fail
  refine (L3.out _).mono ?_
  rintro e w3 ⟨⟨p3, c3, rfl⟩, hb3⟩
  have K3 := Lib.hid (bk_tr K2.out (bk_tr KB.out hb3))
  clear hb3
  have KC := Lib.hid (bk_alloc (BK.refl w3) (.cells #[.string ⟨#[]⟩, .slice p3 0 c3] 25))
  go_wp2_with fail
  refine (L4.out _).mono ?_
  rintro e w4 ⟨⟨p4, c4, rfl⟩, hb4⟩
  have K4 := Lib.hid (bk_tr K3.out (bk_tr KC.out hb4))
  clear hb4
  have NA4 := Lib.hid ((bk_block K4.out (Array.getElem?_eq_some_iff.1 NA.out).1).trans NA.out)
  have RX := Lib.hid ((HR.out.bk KA.out (Nat.le_refl _)).bk K4.out (Nat.le_refl _))
  obtain ⟨b, o, a, us, q, d, rfl, -, he, z0, -, -⟩ := RX.out.get (k := 1) (by simp)
  have ha : a = ⟨#[120, 58, 56]⟩ := by
    have : lf ⟨#[120, 58, 56]⟩ = T.mk a us := he
    unfold lf at this
    injection this with h1 h2
    exact h1.symm
  subst ha
  simp only [Nat.one_mul] at z0
  have x0 := cell_of_row w4 w1.heap.size 0 _ 25 (0, 0) NA4.out
  have x1 := cell_of_row w4 w1.heap.size 1 _ 25 (0, 0) NA4.out
  have C5 := Lib.hid (L5.out w4)
  clear he
  go_wp2_with fail
  refine C5.out.mono ?_
  rintro e w5 ⟨rfl, hb5⟩
  have K5 := Lib.hid hb5
  clear hb5
  go_wp2_with fail
  go_ret
  exact ⟨rfl, bk_tr K1.out (bk_tr KA.out (bk_tr K4.out (bk_tr (bk_alloc (BK.refl w4) _) K5.out)))⟩
end Go.Proofs.Ytgiheheakgigkaa
