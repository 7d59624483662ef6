/- The document's example. -/
import Derived.Test.YtpnjmkmobdaefaaR
import Derived.Test.YtpnjmkmobdaefaaTC
namespace Go.Proofs.Ytpnjmkmobdaefaa
open Go.RowKit Go.Maps
set_option linter.unusedVariables false
set_option linter.unusedSimpArgs false
def ex1 : List L3 := [⟨1, 2, 7⟩]
def ex2 : List L3 := [⟨1, 2, 7⟩, ⟨3, 2, 8⟩]
theorem ex_same5 : sameB [] 5 5 = true := by rfl
theorem ex_same1 : sameB [] (-1) (-1) = false := by rfl
theorem ex_cr (M : List L3) (a b : Int) (h : (PR M.reverse a b).isSome = false) : ¬ CR M.reverse a b := fun hc => by
  obtain ⟨p, hp⟩ := (cr_iff _ _ _).1 hc
  rw [hp] at h; cases h
theorem ex_c1 : ¬ CR ([] : List L3).reverse 1 2 := ex_cr _ _ _ rfl
theorem ex_c2 : ¬ CR ex1.reverse 3 2 := ex_cr _ _ _ rfl
theorem ex_c3 : CR ex2.reverse 1 3 := (cr_iff _ _ _).2 ⟨[⟨1, 2, 7⟩, ⟨2, 3, 8⟩], rfl⟩
theorem ex_p : pathL ex2 1 3 = [⟨1, 2, 7⟩, ⟨2, 3, 8⟩] := rfl
theorem ex_s : sameB ex2 1 3 = true := rfl
theorem okI_small {x : Int} (h : -100 ≤ x ∧ x ≤ 100) : okI x := by unfold okI; omega
set_option maxRecDepth 100000 in
set_option maxHeartbeats 2000000 in
theorem live12 (w : World) : Calls Try.prog 12 #[] w fun e w' => e = .returned (.bool true) ∧ BK w w' := by
  have HN := Lib.hid (new11 w)
  go_enter Try.func12, Try.ntmps12
  go_wp2_with fail
  refine HN.out.mono ?_
  rintro e w1 ⟨o, rfl, hF, hb⟩
  have HF := Lib.hid hF
  have HB := Lib.hid hb
  have C5 := Lib.hid (same23 w1 w.heap.size o [] 0 hF 5 5 (okI_small (by omega)) (okI_small (by omega)))
  have C1 := Lib.hid (same23 w1 w.heap.size o [] 0 hF (-1) (-1) (okI_small (by omega)) (okI_small (by omega)))
  rw [ex_same5] at C5
  rw [ex_same1] at C1
  have L1 := Lib.hid (link16_new w1 w.heap.size o [] 0 hF (bk_size hb) (by simp) (by omega) (by simp) 1 2 7 (okI_small (by omega)) (okI_small (by omega)) (okI_small (by omega)) (by omega) (by omega) ex_c1)
  have ST0 := Lib.hid (Step.refl w1 o.foot)
  clear hF hb HN
  go_wp2_with fail
  refine C5.out.mono ?_
  rintro e w' ⟨rfl, rfl⟩
  go_wp2_with fail
  refine C1.out.mono ?_
  rintro e w' ⟨rfl, rfl⟩
  go_wp2_with fail
  refine L1.out.mono ?_
  rintro e w2 ⟨rfl, o2, e2, hF2, hs2⟩
  have HF2 := Lib.hid hF2
  have HS2 := Lib.hid hs2
  have L2 := Lib.hid (link16_new w2 w.heap.size o2 ex1 3 hF2 (Nat.le_trans (bk_size HB.out) hs2.size) (by simp [ex1]) (by omega) (by simp [ex1]) 3 2 8 (okI_small (by omega)) (okI_small (by omega)) (okI_small (by omega)) (by omega) (by omega) ex_c2)
  rw [e2] at L2
  have E2 := Lib.hid e2
  clear hF2 hs2 e2 L1 C5 C1
  go_wp2_with fail
  refine L2.out.mono ?_
  rintro e w3 ⟨rfl, o3, e3, hF3, hs3⟩
  have HF3 := Lib.hid (show FS w3 w.heap.size o3 ex2 6 from hF3)
  have HS3 := Lib.hid (HS2.out.trans hs3)
  have B3 := Lib.hid (show BK w w3 from Step.bk_new HB.out HS3.out (HF.out.fb.lo))
  have E3 := e3.trans E2.out
  have L3' := Lib.hid (link16_same w3 w.heap.size o3 ex2 6 HF3.out 1 3 9 (okI_small (by omega)) (okI_small (by omega)) (by omega) (by omega) ex_c3)
  have P3 := Lib.hid (path21 w3 w.heap.size o3 ex2 6 HF3.out 1 3 (okI_small (by omega)) (okI_small (by omega)) (by simp [ex2]))
  rw [E3] at L3' P3
  have EE := Lib.hid E3
  clear hF3 hs3 e3 E3 L2
  go_wp2_with fail
  refine L3'.out.mono ?_
  rintro e w' ⟨rfl, rfl⟩
  go_wp2_with fail
  refine P3.out.mono ?_
  rintro e w4 ⟨v, rfl, ho, hb4⟩
  rw [ex_p] at ho
  rw [ex_s]
  have B4 := Lib.hid (bk_tr B3.out hb4)
  have N4 := Lib.hid (len17 w4 w.heap.size o3 ex2 6 (HF3.out.fb.bk hb4))
  rw [EE.out] at N4
  obtain ⟨g, cc, hv, _, _⟩ := ho.form (by decide)
  have hr : RL w4 (some ⟨g, 0, none⟩) cc [⟨1, 2, 7⟩, ⟨2, 3, 8⟩] := RL.own (n := 2) (by rw [hv] at ho; exact ho)
  obtain ⟨b0, p0, q0, x0, x1, x2⟩ := hr.get 0 (by decide)
  obtain ⟨b1, p1, q1, y0, y1, y2⟩ := hr.get 1 (by decide)
  cases q0
  cases q1
  simp only [List.getElem_cons_zero, List.getElem_cons_succ, Nat.zero_mul, Nat.zero_add, Nat.one_mul] at x0 x1 x2 y0 y1 y2
  subst hv
  clear ho hb4 hr L3' P3
  go_wp2_with fail
  refine N4.out.mono ?_
  rintro e w' ⟨rfl, rfl⟩
  have hex : (ex2.length : Int) = 2 := rfl
  rw [hex]
  go_wp2_with fail
  go_ret
  exact ⟨rfl, B4.out⟩
end Go.Proofs.Ytpnjmkmobdaefaa
