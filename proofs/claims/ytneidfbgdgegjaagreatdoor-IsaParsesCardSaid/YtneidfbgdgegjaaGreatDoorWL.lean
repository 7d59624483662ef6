/- lives. -/
import Derived.Test.YtneidfbgdgegjaaGreatDoorWB
namespace Go.Proofs.YtneidfbgdgegjaaGreatDoor
open Go.RowKit
set_option linter.unusedVariables false
set_option linter.unusedSimpArgs false
def txA : List UInt8 := [119, 105, 100, 116, 104, 32, 56, 32, 114, 101, 103, 115, 32, 50, 10, 97, 100, 100, 32, 114, 48, 32, 114, 48, 32, 114, 49, 10, 111, 117, 116, 32, 114, 48, 10]
def txB : List UInt8 := [119, 105, 100, 116, 104, 32, 56, 32, 114, 101, 103, 115, 32, 50, 10, 97, 100, 100, 32, 114, 48, 32, 114, 48, 32, 114, 50, 10, 111, 117, 116, 32, 114, 48]
def txC : List UInt8 := [119, 105, 100, 116, 104, 32, 56, 32, 114, 101, 103, 115, 32, 50, 10, 97, 100, 100, 32, 114, 48, 32, 32, 114, 49, 10, 111, 117, 116]
def addI : I6 := ⟨8, 0, 0, 1, 0, 0⟩
set_option maxRecDepth 100000 in
theorem pA : parseT txA = ⟨8, 2, [addI], [0], 0, 0⟩ := by rfl
set_option maxRecDepth 100000 in
theorem pB : parseT txB = ⟨0, 0, [], [], 2, 18⟩ := by rfl
set_option maxRecDepth 100000 in
theorem pC : parseT txC = ⟨0, 0, [], [], 2, 6⟩ := by rfl
theorem itoa_d (n : Nat) (h : n < 10) : Lib.itoa (n : Int) = [hx n] := by
  rw [itoa_wr, if_neg (by omega), Int.toNat_natCast, wrn_lt h]
theorem prtA : printP 8 2 [addI] [0] = txA := by
  have e0 : Lib.itoa 0 = [48] := itoa_d 0 (by omega)
  have e1 : Lib.itoa 1 = [49] := itoa_d 1 (by omega)
  have e2 : Lib.itoa 2 = [50] := itoa_d 2 (by omega)
  have e8 : Lib.itoa 8 = [56] := itoa_d 8 (by omega)
  have h1 : insW addI = [[97, 100, 100], 114 :: Lib.itoa 0, 114 :: Lib.itoa 0, 114 :: Lib.itoa 1] := by rfl
  unfold printP headW outW
  rw [List.flatMap_cons, List.flatMap_nil, List.map_cons, List.map_nil, h1]
  unfold regT
  rw [e0, e1, e2, e8]
  rfl
theorem live_pA (W : World) (ht : Tb W) : Calls Tryz.prog 37 #[.string { data := #[119, 105, 100, 116, 104, 32, 56, 32, 114, 101, 103, 115, 32, 50, 10, 97, 100, 100, 32, 114, 48, 32, 114, 48, 32, 114, 49, 10, 111, 117, 116, 32, 114, 48, 10] }] W fun e w' => ∃ b o q pc qc, e = .returned (.tuple #[.agg #[.int .i64 8, .int .i64 2, .slice (some ⟨b, o, none⟩) 1 pc, .slice q 1 qc], .int .i64 0, .int .i64 0]) ∧ RI w' (some ⟨b, o, none⟩) pc [addI] ∧ RO w' q qc [0] ∧ BK W w' := by
  have h := parse37 (sB txA) (by decide) W ht
  rw [show bl (sB txA) = txA from rfl, pA] at h
  refine h.mono ?_
  rintro e w' ⟨p, q, pc, qc, rfl, hi, ho, hb⟩
  obtain ⟨b, o, rfl, -⟩ := hi.get 0 (by simp)
  exact ⟨b, o, q, pc, qc, rfl, hi, ho, hb⟩
theorem live_pB (W : World) (ht : Tb W) : Calls Tryz.prog 37 #[.string { data := #[119, 105, 100, 116, 104, 32, 56, 32, 114, 101, 103, 115, 32, 50, 10, 97, 100, 100, 32, 114, 48, 32, 114, 48, 32, 114, 50, 10, 111, 117, 116, 32, 114, 48] }] W fun e w' => ∃ p q pc qc, e = .returned (.tuple #[.agg #[.int .i64 0, .int .i64 0, .slice p 0 pc, .slice q 0 qc], .int .i64 2, .int .i64 18]) ∧ BK W w' := by
  have h := parse37 (sB txB) (by decide) W ht
  rw [show bl (sB txB) = txB from rfl, pB] at h
  refine h.mono ?_
  rintro e w' ⟨p, q, pc, qc, rfl, hi, ho, hb⟩
  exact ⟨p, q, pc, qc, rfl, hb⟩
theorem live_pC (W : World) (ht : Tb W) : Calls Tryz.prog 37 #[.string { data := #[119, 105, 100, 116, 104, 32, 56, 32, 114, 101, 103, 115, 32, 50, 10, 97, 100, 100, 32, 114, 48, 32, 32, 114, 49, 10, 111, 117, 116] }] W fun e w' => ∃ p q pc qc, e = .returned (.tuple #[.agg #[.int .i64 0, .int .i64 0, .slice p 0 pc, .slice q 0 qc], .int .i64 2, .int .i64 6]) ∧ BK W w' := by
  have h := parse37 (sB txC) (by decide) W ht
  rw [show bl (sB txC) = txC from rfl, pC] at h
  refine h.mono ?_
  rintro e w' ⟨p, q, pc, qc, rfl, hi, ho, hb⟩
  exact ⟨p, q, pc, qc, rfl, hb⟩
theorem live_of (W : World) (ht : Tb W) : Calls Tryz.prog 11 #[.string { data := #[115, 101, 108] }] W fun e w' => e = .returned (.tuple #[.int .i64 19, .bool true]) ∧ W = w' := by
  have h := of11 (sB [115, 101, 108]) W ht
  rw [show ofV (sB [115, 101, 108]) = .tuple #[.int .i64 19, .bool true] from rfl] at h
  exact h
theorem live_pr (p q : Option Addr) (pc qc : Nat) (W : World) (ht : Tb W) (hi : RI W p pc [addI]) (ho : RO W q qc [0]) : Calls Tryz.prog 33 #[.agg #[.int .i64 8, .int .i64 2, .slice p 1 pc, .slice q 1 qc]] W fun e w' => e = .returned (.string { data := #[119, 105, 100, 116, 104, 32, 56, 32, 114, 101, 103, 115, 32, 50, 10, 97, 100, 100, 32, 114, 48, 32, 114, 48, 32, 114, 49, 10, 111, 117, 116, 32, 114, 48, 10] }) ∧ BK W w' := by
  have h := print33 8 2 p q pc qc [addI] [0] W ht hi ho (by unfold In64; omega) (by unfold In64; omega) (by
    intro i hi
    obtain rfl : i = addI := by simpa using hi
    exact ⟨by unfold addI In64; simp, by unfold addI In64; simp, by unfold addI In64; simp, by unfold addI In64; simp, by unfold addI; simp, by unfold addI; simp⟩) (by
    intro x hx
    obtain rfl : x = 0 := by simpa using hx
    unfold In64; omega) (by simp) (by simp)
  rw [prtA] at h
  exact h
set_option maxRecDepth 100000 in
set_option maxHeartbeats 4000000 in
theorem live10 (w : World) (ht : Tb w) : Calls Tryz.prog 10 #[] w fun e w' => e = .returned (.bool true) ∧ BK w w' := by
  have HT := Lib.hid ht
  have A := Lib.hid (live_pA w ht)
  clear ht
  go_enter Tryz.func10, Tryz.ntmps10
  go_upto_region 2 with (go_at_call 37; refine A.out.mono ?_; rintro e w1 ⟨b, o, q, pc, qc, rfl, hi, ho, hb⟩)
  have NA := Lib.hid (show C4 (w1.alloc (.cells #[.int .i64 8, .int .i64 2, .slice (some ⟨b, o, none⟩) 1 pc, .slice q 1 qc] 34)) w1.heap.size 8 2 (.slice (some ⟨b, o, none⟩) 1 pc) (.slice q 1 qc) from heap_alloc_new w1 _)
  have KA := Lib.hid (bk_tr hb (bk_alloc (BK.refl w1) (.cells #[.int .i64 8, .int .i64 2, .slice (some ⟨b, o, none⟩) 1 pc, .slice q 1 qc] 34)))
  have IA := Lib.hid (hi.keep (bk_alloc (BK.refl w1) (.cells #[.int .i64 8, .int .i64 2, .slice (some ⟨b, o, none⟩) 1 pc, .slice q 1 qc] 34)))
  have OA := Lib.hid (ho.keep (bk_alloc (BK.refl w1) (.cells #[.int .i64 8, .int .i64 2, .slice (some ⟨b, o, none⟩) 1 pc, .slice q 1 qc] 34)))
  clear hi ho hb A
  generalize w1.alloc (.cells #[.int .i64 8, .int .i64 2, .slice (some ⟨b, o, none⟩) 1 pc, .slice q 1 qc] 34) = w2 at NA KA IA OA ⊢
  generalize w1.heap.size = c at NA ⊢
  have B := Lib.hid (live_pB w2 (HT.out.keep KA.out))
  go_upto_region 3 with (go_at_call 37; refine B.out.mono ?_; rintro e w3 ⟨p3, q3, pc3, qc3, rfl, hb⟩)
  have KB := Lib.hid (bk_tr hb (bk_alloc (BK.refl w3) (.cells #[.int .i64 0, .int .i64 0, .slice p3 0 pc3, .slice q3 0 qc3] 34)))
  clear hb B
  generalize w3.alloc (.cells #[.int .i64 0, .int .i64 0, .slice p3 0 pc3, .slice q3 0 qc3] 34) = w4 at KB ⊢
  have C := Lib.hid (live_pC w4 (HT.out.keep (bk_tr KA.out KB.out)))
  go_upto_region 4 with (go_at_call 37; refine C.out.mono ?_; rintro e w5 ⟨p5, q5, pc5, qc5, rfl, hb⟩)
  have KC := Lib.hid (bk_tr KB.out (bk_tr hb (bk_alloc (BK.refl w5) (.cells #[.int .i64 0, .int .i64 0, .slice p5 0 pc5, .slice q5 0 qc5] 34))))
  clear hb C
  generalize w5.alloc (.cells #[.int .i64 0, .int .i64 0, .slice p5 0 pc5, .slice q5 0 qc5] 34) = w6 at KC ⊢
  have D := Lib.hid (live_of w6 (HT.out.keep (bk_tr KA.out KC.out)))
  go_upto_region 5 with (go_at_call 11; refine D.out.mono ?_; rintro e w7 ⟨rfl, rfl⟩)
  clear D
  have N6 := NA.out.keep KC.out
  have I6' := Lib.hid (IA.out.keep KC.out)
  have O6 := Lib.hid (OA.out.keep KC.out)
  have K6 := Lib.hid (bk_tr KA.out KC.out)
  obtain ⟨c0, c1, c2, c3⟩ := N6.b4
  obtain ⟨b', o', hp, a0, a1, a2, a3, a4, a5⟩ := I6'.out.get 0 (by simp)
  simp only [Option.some.injEq, Addr.mk.injEq] at hp
  obtain ⟨rfl, rfl, _⟩ := hp
  have CO := Lib.hid (show Calls Tryz.prog 25 #[.agg #[.int .i64 8, .int .i64 2, .slice (some ⟨b, o, none⟩) 1 pc, .slice q 1 qc]] w6 fun e w' => e = .returned (.int .i64 1) ∧ BK w6 w' from cost25 8 2 _ pc [addI] q 1 qc w6 I6'.out (by simp))
  have b0 : w6.cell? ⟨b, o, none⟩ = some (.int .i64 8) := a0
  have b1 : w6.cell? ⟨b, o + 1, none⟩ = some (.int .i64 0) := by have h := a1; rw [show o + 0 * 6 + 1 = o + 1 by omega] at h; exact h
  have b2 : w6.cell? ⟨b, o + 2, none⟩ = some (.int .i64 0) := by have h := a2; rw [show o + 0 * 6 + 2 = o + 2 by omega] at h; exact h
  have b3 : w6.cell? ⟨b, o + 3, none⟩ = some (.int .i64 1) := by have h := a3; rw [show o + 0 * 6 + 3 = o + 3 by omega] at h; exact h
  have b4 : w6.cell? ⟨b, o + 4, none⟩ = some (.int .i64 0) := by have h := a4; rw [show o + 0 * 6 + 4 = o + 4 by omega] at h; exact h
  have b5 : w6.cell? ⟨b, o + 5, none⟩ = some (.int .u64 0) := by have h := a5; rw [show o + 0 * 6 + 5 = o + 5 by omega] at h; exact h
  clear N6 a0 a1 a2 a3 a4 a5
  go_wp2_with fail
  refine CO.out.mono ?_
  rintro e w8 ⟨rfl, hb⟩
  have K8 := Lib.hid (bk_tr K6.out hb)
  have N8 := NA.out.keep (bk_tr KC.out hb)
  have PR := Lib.hid (live_pr (some ⟨b, o, none⟩) q pc qc w8 (HT.out.keep K8.out) (I6'.out.keep hb) (O6.out.keep hb))
  clear c0 c1 c2 c3 b0 b1 b2 b3 b4 b5 CO hb
  obtain ⟨c0, c1, c2, c3⟩ := N8.b4
  clear N8
  go_wp2_with fail
  refine PR.out.mono ?_
  rintro e w9 ⟨rfl, hb⟩
  have K9 := Lib.hid (bk_tr K8.out hb)
  have S1 := Lib.hid (show Calls Tryz.prog 16 #[.int .i64 19] w9 fun e w' => e = .returned (.int .i64 3) ∧ w9 = w' from src86 19 w9)
  have S2 := Lib.hid (show Calls Tryz.prog 16 #[.int .i64 (-1)] w9 fun e w' => e = .returned (.int .i64 (-1)) ∧ w9 = w' from src86 (-1) w9)
  clear c0 c1 c2 c3 PR hb
  go_wp2_with fail
  refine S1.out.mono ?_
  rintro e w10 ⟨rfl, rfl⟩
  go_wp2_with fail
  refine S2.out.mono ?_
  rintro e w10 ⟨rfl, rfl⟩
  go_wp2_with fail
  go_ret
  exact ⟨rfl, K9.out⟩
end Go.Proofs.YtneidfbgdgegjaaGreatDoor
