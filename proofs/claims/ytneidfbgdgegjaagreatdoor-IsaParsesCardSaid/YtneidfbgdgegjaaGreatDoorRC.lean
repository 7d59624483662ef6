/- The reader: the first line. -/
import Derived.Test.YtneidfbgdgegjaaGreatDoorRB
namespace Go.Proofs.YtneidfbgdgegjaaGreatDoor
open Go.RowKit
set_option linter.unusedVariables false
set_option linter.unusedSimpArgs false
def two (r c : Nat) : Nat → Prop := fun k => k = r ∨ k = c
theorem two_l (r c k : Nat) (h : isB r k) : two r c k := .inl h
theorem two_r (r c k : Nat) (h : isB c k) : two r c k := .inr h
theorem one_ne {r c : Nat} (h : r ≠ c) : ¬ isB r c := fun e => h e.symm
theorem st_blk {F : Nat → Prop} {w w' : World} {b : Nat} {o : Obj} (h : w.heap[b]? = some o) (s : St F w w') (hn : ¬ F b) : w'.heap[b]? = some o :=
  (s.block b (Array.getElem?_eq_some_iff.1 h).1 hn).trans h
/-- a code's block -/
def C4 (w : World) (c : Nat) (x0 x1 : Int) (vi vo : Value) : Prop := w.heap[c]? = some (.cells #[.int .i64 x0, .int .i64 x1, vi, vo] 34 (0, 0))
theorem C4.st {F : Nat → Prop} {w w' : World} {c : Nat} {x0 x1 : Int} {vi vo : Value} (h : C4 w c x0 x1 vi vo) (s : St F w w') (hn : ¬ F c) : C4 w' c x0 x1 vi vo := st_blk h s hn
theorem C4.keep {w w' : World} {c : Nat} {x0 x1 : Int} {vi vo : Value} (h : C4 w c x0 x1 vi vo) (hb : BK w w') : C4 w' c x0 x1 vi vo := (bk_block hb (Array.getElem?_eq_some_iff.1 h).1).trans h
theorem C4.set0 {w : World} {c : Nat} {x0 x1 : Int} {vi vo : Value} (h : C4 w c x0 x1 vi vo) (x : Int) : C4 (w.setCell ⟨c, 0, none⟩ (.int .i64 x)) c x x1 vi vo := by
  unfold C4 at *; rw [heap_setCell_same w c 0 _ 34 _ h]; rfl
theorem C4.set1 {w : World} {c : Nat} {x0 x1 : Int} {vi vo : Value} (h : C4 w c x0 x1 vi vo) (x : Int) : C4 (w.setCell ⟨c, 1, none⟩ (.int .i64 x)) c x0 x vi vo := by
  unfold C4 at *; rw [heap_setCell_same w c 1 _ 34 _ h]; rfl
theorem C4.set2 {w : World} {c : Nat} {x0 x1 : Int} {vi vo : Value} (h : C4 w c x0 x1 vi vo) (x : Value) : C4 (w.setCell ⟨c, 2, none⟩ x) c x0 x1 x vo := by
  unfold C4 at *; rw [heap_setCell_same w c 2 _ 34 _ h]; rfl
theorem C4.set3 {w : World} {c : Nat} {x0 x1 : Int} {vi vo : Value} (h : C4 w c x0 x1 vi vo) (x : Value) : C4 (w.setCell ⟨c, 3, none⟩ x) c x0 x1 vi x := by
  unfold C4 at *; rw [heap_setCell_same w c 3 _ 34 _ h]; rfl
theorem C4.tag {w : World} {c : Nat} {x0 x1 : Int} {vi vo : Value} (h : C4 w c x0 x1 vi vo) : ∀ k cs, w.heap[k]? = some (.cells cs 9 (0, 0)) → ¬ isB c k := isB_tag h (by decide)
/-- a store into the code's block leaves the reader -/
theorem RS.code {w : World} {r c : Nat} {ts : List ByteArray} {bad : Bool} (h : RS w r ts bad) (hrc : r ≠ c) {x0 x1 : Int} {vi vo : Value} (hc : C4 w c x0 x1 vi vo) (j : Nat) (v : Value) : RS (w.setCell ⟨c, j, none⟩ v) r ts bad :=
  h.st (st_set w c j v) (fun e => hrc e) hc.tag
def headBad (ts : List ByteArray) : Bool := !((hdB ts).toList == [119, 105, 100, 116, 104]) || (whO (bl (hdB ts.tail))).isNone || !((hdB ts.tail.tail).toList == [114, 101, 103, 115]) || (whO (bl (hdB ts.tail.tail.tail))).isNone
theorem whO_nil : whO [] = none := rfl
theorem bl_eqL (s : ByteArray) (l : List UInt8) : (s.toList == l) = decide (bl s = l) := by
  rw [ByteArray.toList_eq, Bool.eq_iff_iff, beq_iff_eq, decide_eq_true_eq]
theorem head_ok (ts : List ByteArray) : (headBad ts = false ∧ ts.drop 4 = []) ↔ (headO (ts.map bl)).isSome = true := by
  unfold headBad
  rw [bl_eqL, bl_eqL]
  match ts with
  | [] => simp [headO, hdB, bl]
  | [a] => simp [headO, hdB, bl, whO_nil]
  | [a, b] => simp [headO, hdB, bl]
  | [a, b, c] => simp [headO, hdB, bl, whO_nil]
  | [a, b, c, d] =>
    simp only [headO, hdB, List.headD_cons, List.tail_cons, List.map_cons, List.map_nil, List.drop_succ_cons, List.drop_zero, and_true]
    by_cases h1 : bl a = widthL <;> by_cases h2 : bl c = regsL
    · have e1 : bl a = [119, 105, 100, 116, 104] := h1
      have e2 : bl c = [114, 101, 103, 115] := h2
      rw [if_pos ⟨h1, h2⟩]
      cases whO (bl b) <;> cases whO (bl d) <;> simp [e1, e2]
    · have e2 : ¬ bl c = [114, 101, 103, 115] := h2
      rw [if_neg (fun h => h2 h.2)]
      simp [e2]
    · have e1 : ¬ bl a = [119, 105, 100, 116, 104] := h1
      rw [if_neg (fun h => h1 h.1)]
      simp [e1]
    · have e1 : ¬ bl a = [119, 105, 100, 116, 104] := h1
      rw [if_neg (fun h => h1 h.1)]
      simp [e1]
  | a :: b :: c :: d :: e :: r => simp [headO]
theorem head_val {ts : List ByteArray} {p : Int × Int} (h : headO (ts.map bl) = some p) : whO (bl (hdB ts.tail)) = some p.1 ∧ whO (bl (hdB ts.tail.tail.tail)) = some p.2 := by
  match ts with
  | [] => cases h
  | [a] => cases h
  | [a, b] => cases h
  | [a, b, c] => cases h
  | [a, b, c, d] =>
    simp only [headO, List.map_cons, List.map_nil] at h
    split at h
    · split at h
      · cases h
      · rename_i x hx
        split at h
        · cases h
        · rename_i y hy
          cases h
          exact ⟨hx, hy⟩
    · cases h
  | a :: b :: c :: d :: e :: r => simp [headO] at h
theorem isNone_iff {α : Type} (o : Option α) : o.isNone = !o.isSome := by cases o <;> rfl
def HP (w : World) (r c : Nat) (ts : List ByteArray) (bad : Bool) (vi vo : Value) (e : Ending) (w' : World) : Prop :=
  e = .returned (.tuple #[]) ∧ ∃ W R : Int, RS w' r (ts.drop 4) (bad || headBad ts) ∧ C4 w' c W R vi vo ∧ In64 W ∧ In64 R ∧ (∀ m, whO (bl (hdB ts.tail)) = some m → W = m) ∧ (∀ m, whO (bl (hdB ts.tail.tail.tail)) = some m → R = m) ∧ St (two r c) w w'
theorem tail4 (ts : List ByteArray) : ts.tail.tail.tail.tail = ts.drop 4 := by
  match ts with
  | [] => rfl
  | [_] => rfl
  | [_, _] => rfl
  | [_, _, _] => rfl
  | _ :: _ :: _ :: _ :: _ => rfl
set_option maxRecDepth 100000 in
set_option maxHeartbeats 2000000 in
theorem head77 (w : World) (r c : Nat) (ts : List ByteArray) (bad : Bool) (h : RS w r ts bad) (hs : Sm ts) (hr : 9 ≤ r) (hc9 : 9 ≤ c) (hrc : r ≠ c) (ht : Tb w) (x0 x1 : Int) (vi vo : Value) (hc : C4 w c x0 x1 vi vo) :
    Calls Tryz.prog 77 #[.pointer (some ⟨r, 0, none⟩), .pointer (some ⟨c, 0, none⟩)] w (HP w r c ts bad vi vo) := by
  have HF := Lib.hid (show ∀ k, k < 9 → ¬ isB r k from fun k hk e => by have e : k = r := e; omega)
  have HF2 := Lib.hid (show ∀ k, k < 9 → ¬ two r c k from fun k hk e => by rcases e with e | e <;> omega)
  have HN := Lib.hid (one_ne hrc)
  have HRC := Lib.hid hrc
  have HS := Lib.hid hs
  have HT := Lib.hid ht
  have HC := Lib.hid hc
  have H := Lib.hid h
  have HB := Lib.hid (show headBad ts = (!((hdB ts).toList == [119, 105, 100, 116, 104]) || (whO (bl (hdB ts.tail))).isNone || !((hdB ts.tail.tail).toList == [114, 101, 103, 115]) || (whO (bl (hdB ts.tail.tail.tail))).isNone) from rfl)
  have S0 := Lib.hid hs.hd
  have S1 := Lib.hid hs.tl.hd
  have S3 := Lib.hid hs.tl.tl.tl.hd
  clear h hs ht hc hr hc9 hrc
  unfold HP
  rw [HB.out, ← tail4]
  clear HB
  have N1 := Lib.hid (fun (W : World) (b : Bool) (h : RS W r ts b) => next96 W r ts b h)
  have N2 := Lib.hid (fun (W : World) (b : Bool) (h : RS W r ts.tail b) => next96 W r ts.tail b h)
  have N3 := Lib.hid (fun (W : World) (b : Bool) (h : RS W r ts.tail.tail b) => next96 W r ts.tail.tail b h)
  have N4 := Lib.hid (fun (W : World) (b : Bool) (h : RS W r ts.tail.tail.tail b) => next96 W r ts.tail.tail.tail b h)
  generalize hdB ts = t0 at N1 S0 ⊢
  generalize hdB ts.tail = t1 at N2 S1 ⊢
  generalize hdB ts.tail.tail = t2 at N3 ⊢
  generalize hdB ts.tail.tail.tail = t3 at N4 S3 ⊢
  generalize ts.tail.tail.tail.tail = ts4 at *
  generalize ts.tail.tail.tail = ts3 at *
  generalize ts.tail.tail = ts2 at *
  generalize ts.tail = ts1 at *
  obtain ⟨b0, hb0⟩ : ∃ b : Bool, b = (t0.toList == [119, 105, 100, 116, 104]) := ⟨_, rfl⟩
  obtain ⟨b2, hb2⟩ : ∃ b : Bool, b = (t2.toList == [114, 101, 103, 115]) := ⟨_, rfl⟩
  have HB0 := Lib.hid hb0
  have HB2 := Lib.hid hb2
  clear hb0 hb2
  go_enter Tryz.func77, Tryz.ntmps77
  go_wp2_with fail
  have C := N1.out w bad H.out
  refine C.mono ?_
  clear C
  rintro e w1 ⟨rfl, r1, s1⟩
  have R1 := Lib.hid r1
  have Z1 := Lib.hid s1
  clear r1 s1
  go_wp2_with fail
  have C := require78 w1 r ts1 bad R1.out (t0.toList == [119, 105, 100, 116, 104])
  refine C.mono ?_
  clear C
  rintro e w2 ⟨rfl, r2, s2⟩
  have R2 := Lib.hid (show RS w2 r ts1 (bad || !b0) by rw [HB0.out]; exact r2)
  have Z2 := Lib.hid (Z1.out.trans s2)
  clear r2 s2
  go_wp2_with fail
  have C := N2.out w2 (bad || !b0) R2.out
  refine C.mono ?_
  clear C
  rintro e w3 ⟨rfl, r3, s3⟩
  have R3 := Lib.hid r3
  have Z3 := Lib.hid (Z2.out.trans s3)
  clear r3 s3
  go_wp2_with fail
  have C := number97 w3 r ts2 (bad || !b0) R3.out t1 S1.out (HT.out.st Z3.out HF.out)
  refine C.mono ?_
  clear C
  rintro e w4 ⟨n, rfl, hi, hm, r4, s4⟩
  have HI := Lib.hid hi
  have HM := Lib.hid hm
  have R4 := Lib.hid r4
  have Z4 := Lib.hid (Z3.out.trans s4)
  have C4w := Lib.hid (HC.out.st Z4.out HN.out)
  clear r4 s4 hi hm
  have c0 := cell_of_row w4 c 0 _ 34 (0, 0) C4w.out
  have f0 := frozen_of_row w4 c 0 _ 34 C4w.out
  go_upto_region 2 with (fail)
  have R5 := Lib.hid (R4.out.code HRC.out C4w.out 0 (.int .i64 n))
  have C5w := Lib.hid (C4w.out.set0 n)
  have Z5 := Lib.hid ((Z4.out.mono (two_l r c)).trans ((st_set w4 c 0 (.int .i64 n)).mono (two_r r c)))
  generalize w4.setCell ⟨c, 0, none⟩ (.int .i64 n) = w5 at R5 C5w Z5 ⊢
  clear c0 f0
  go_wp2_with fail
  have C := N3.out w5 _ R5.out
  refine C.mono ?_
  clear C
  rintro e w6 ⟨rfl, r6, s6⟩
  have R6 := Lib.hid r6
  have Z6 := Lib.hid s6
  clear r6 s6
  go_wp2_with fail
  have C := require78 w6 r ts3 _ R6.out (t2.toList == [114, 101, 103, 115])
  refine C.mono ?_
  clear C
  rintro e w7 ⟨rfl, r7, s7⟩
  have R7 := Lib.hid (show RS w7 r ts3 (bad || !b0 || (whO (bl t1)).isNone || !b2) by rw [HB2.out]; exact r7)
  have Z7 := Lib.hid (Z6.out.trans s7)
  clear r7 s7
  go_wp2_with fail
  have C := N4.out w7 _ R7.out
  refine C.mono ?_
  clear C
  rintro e w8 ⟨rfl, r8, s8⟩
  have R8 := Lib.hid r8
  have Z8 := Lib.hid (Z7.out.trans s8)
  clear r8 s8
  go_wp2_with fail
  have C := number97 w8 r ts4 _ R8.out t3 S3.out (HT.out.st (Z5.out.trans (Z8.out.mono (two_l r c))) HF2.out)
  refine C.mono ?_
  clear C
  rintro e w9 ⟨n', rfl, hi, hm, r9, s9⟩
  have HI' := Lib.hid hi
  have HM' := Lib.hid hm
  have R9 := Lib.hid r9
  have Z9 := Lib.hid (Z8.out.trans s9)
  have C9w := Lib.hid (C5w.out.st Z9.out HN.out)
  clear r9 s9 hi hm
  have c1 := cell_of_row w9 c 1 _ 34 (0, 0) C9w.out
  have f1 := frozen_of_row w9 c 1 _ 34 C9w.out
  go_wp2_with fail
  go_end0
  have RF : RS (w9.setCell ⟨c, 1, none⟩ (.int .i64 n')) r ts4 (bad || (!(t0.toList == [119, 105, 100, 116, 104]) || (whO (bl t1)).isNone || !(t2.toList == [114, 101, 103, 115]) || (whO (bl t3)).isNone)) := by
    have := R9.out.code HRC.out C9w.out 1 (.int .i64 n')
    rw [HB0.out, HB2.out] at this
    rw [← Bool.or_assoc, ← Bool.or_assoc, ← Bool.or_assoc]
    exact this
  exact ⟨rfl, n, n', RF, C9w.out.set1 n', HI.out, HI'.out, HM.out, HM'.out, Z5.out.trans ((Z9.out.mono (two_l r c)).trans ((st_set w9 c 1 (.int .i64 n')).mono (two_r r c)))⟩
end Go.Proofs.YtneidfbgdgegjaaGreatDoor
