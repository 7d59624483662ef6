/- strings.Builder: what a write leaves as it was; WriteString. -/
import Derived.Test.YtgiheheakgigkaaY
namespace Go.Proofs.Ytgiheheakgigkaa
open Go.RowKit
set_option linter.unusedVariables false
set_option linter.unusedSimpArgs false
/-- what a write into the builder at b leaves as it was: all below it, and every block that is no row of bytes -/
structure Fr (b : Nat) (w w' : World) : Prop where
  os : w'.os = w.os
  tape : w'.tape = w.tape
  output : w'.output = w.output
  size : w.heap.size ≤ w'.heap.size
  low : ∀ k, k < w.heap.size → k < b → w'.heap[k]? = w.heap[k]?
  far : ∀ k, k < w.heap.size → k ≠ b → (∀ cs fr, w.heap[k]? ≠ some (.cells cs 5 fr)) → w'.heap[k]? = w.heap[k]?
theorem Fr.refl (b : Nat) (w : World) : Fr b w w := ⟨rfl, rfl, rfl, Nat.le_refl _, fun _ _ _ => rfl, fun _ _ _ _ => rfl⟩
theorem Fr.trans {b : Nat} {x y z : World} (h : Fr b x y) (k : Fr b y z) : Fr b x z :=
  ⟨k.os.trans h.os, k.tape.trans h.tape, k.output.trans h.output, Nat.le_trans h.size k.size, fun i hi hb => (k.low i (Nat.lt_of_lt_of_le hi h.size) hb).trans (h.low i hi hb),
   fun i hi hb hn => by
    have e := h.far i hi hb hn
    exact (k.far i (Nat.lt_of_lt_of_le hi h.size) hb (fun cs fr => by rw [e]; exact hn cs fr)).trans e⟩
theorem Fr.bk {b : Nat} {w w' : World} (h : BK w w') : Fr b w w' := ⟨h.bl.os, h.bl.tape, h.bl.output, h.bl.size, fun k hk _ => bk_block h hk, fun k hk _ _ => bk_block h hk⟩
theorem Fr.step {b : Nat} {w w' : World} {x v : Value} {l : List UInt8} {G : Nat → Prop} (h : BU w b x v l) (s : Step w w' (bF b v) G) : Fr b w w' := by
  refine ⟨s.os, s.tape, s.output, s.size, fun k hk hb => s.block k hk ?_, fun k hk hb hn => s.block k hk ?_⟩
  · rintro (e | e)
    · omega
    · have := (h.own.lt k e).1; omega
  · rintro (e | e)
    · exact hb e
    · obtain ⟨cur, hc⟩ := own_tag h.own e
      exact hn _ _ hc
/-- below the builder's block all is as it was -/
theorem Fr.bk_of {w0 w w' : World} {b : Nat} (h : BK w0 w) (f : Fr b w w') (hb : w0.heap.size ≤ b) : BK w0 w' :=
  ⟨f.os.trans h.bl.os, f.tape.trans h.bl.tape, f.output.trans h.bl.output, Nat.le_trans h.bl.size f.size, fun k hk => (f.low k (Nat.lt_of_lt_of_le hk h.bl.size) (Nat.lt_of_lt_of_le hk hb)).trans (h.bl.block k hk)⟩
theorem strCells_eq (s : ByteArray) : Lib.strCells s = Lib.byteCells s.data.toList := by
  simp [Lib.strCells, Lib.byteCells]
set_option maxRecDepth 100000 in
set_option maxHeartbeats 4000000 in
theorem str51 (w : World) (b : Nat) (x v : Value) (l : List UInt8) (h : BU w b x v l) (hx : adr b x) (s : ByteArray) (hl : l.length ≤ 1000000) (hsz : s.size ≤ 1000000) : Calls Try.prog 51 #[.pointer (some ⟨b, 0, none⟩), .string s] w fun e w' => e = .returned (.tuple #[.int .i64 (s.size : Int), .nilIface]) ∧ ∃ v', BU w' b (.pointer (some ⟨b, 0, none⟩)) v' (l ++ s.data.toList) ∧ Fr b w w' := by
  have CC := Lib.hid (copy52 w b x v l h hx)
  have HW := Lib.hid h
  obtain ⟨i0, hi, hz0, hz1, hz2⟩ := info_parts info5
  clear h hx
  go_enter Try.func51, Try.ntmps51
  go_wp2_with fail
  refine CC.out.mono ?_
  rintro e w1 ⟨rfl, h1, hs1⟩
  have H1 := Lib.hid h1
  have S1 := Lib.hid hs1
  have c0 := cell_of_row w1 b 0 _ 56 (0, 0) h1.h
  have c1 := cell_of_row w1 b 1 _ 56 (0, 0) h1.h
  have LT := Lib.hid (show b < w1.heap.size from (Array.getElem?_eq_some_iff.1 h1.h).1)
  clear h1 hs1
  go_wp2_with (at_builtin; go_must (refine Lib.wpList_append_own_string _ rfl _ _ 42 9 rfl (b + 1) 5 i0 Try.underlying42 Try.underlying9 hi hz0 hz1 hz2 v l.length (Lib.byteCells l) rfl H1.out.own s rfl ?c3 ?c4 ?c5 ?_))
  case c3 => unfold maxLen; omega
  case c4 => omega
  case c5 => have := LT.out; omega
  intro v' w2 ho hg _
  have hll : (l ++ s.data.toList).length = l.length + s.size := by rw [List.length_append]; rfl
  have hb2 : w2.heap[b]? = some (.cells #[.pointer (some ⟨b, 0, none⟩), v] 56 (0, 0)) := (hg.block b LT.out (fun e => by have := (H1.out.own.lt b e.symm).1; omega)).trans H1.out.h
  have HO := Lib.hid (show w2.ownsRow (b + 1) 5 1 v' (l ++ s.data.toList).length (Lib.byteCells (l ++ s.data.toList)) from by
    rw [hll, show Lib.byteCells (l ++ s.data.toList) = Lib.byteCells l ++ Lib.strCells s by rw [strCells_eq]; simp [Lib.byteCells]]; exact ho)
  have FR := Lib.hid (show Fr b w1 w2 from ⟨hg.os, hg.tape, hg.output, hg.size, fun k hk hb => hg.block k hk (fun e => by have := (H1.out.own.lt k e.symm).1; omega), fun k hk hb hn => hg.block k hk (fun e => by obtain ⟨cur, hc⟩ := own_tag H1.out.own e.symm; exact hn _ _ hc)⟩)
  have HB2 := Lib.hid hb2
  have d1 := cell_of_row w2 b 1 _ 56 (0, 0) hb2
  have f1 := frozen_of_row w2 b 1 _ 56 hb2
  clear ho hg hb2 c0 c1 hll
  obtain ⟨p9, n9, c9, rfl⟩ : ∃ p9 n9 c9, v' = .slice p9 n9 c9 := by
    obtain ⟨p9, c9, e⟩ := own_shape HO.out
    exact ⟨_, _, _, e⟩
  go_wp2_with fail
  go_ret2
  have f0 : Fr b w w1 := ⟨S1.out.os, S1.out.tape, S1.out.output, S1.out.size, fun k hk hb => S1.out.block k hk (fun e => by unfold oneF at e; omega), fun k hk hb _ => S1.out.block k hk (fun e => hb e)⟩
  have f3 : Fr b w2 (w2.setCell ⟨b, 1, none⟩ (.slice p9 n9 c9)) := ⟨rfl, rfl, rfl, by simp [World.setCell], fun k hk hb => heap_setCell_other w2 ⟨b, 1, none⟩ k _ (fun e => by have e : k = b := e; omega), fun k hk hb _ => heap_setCell_other w2 ⟨b, 1, none⟩ k _ (fun e => hb e)⟩
  exact ⟨rfl, _, ⟨by rw [heap_setCell_same w2 b 1 _ 56 _ HB2.out]; rfl, own_at HO.out fun k hk => heap_setCell_other w2 ⟨b, 1, none⟩ k _ (fun e => by have := (HO.out.lt k hk).1; have e : k = b := e; omega)⟩, f0.trans (FR.out.trans f3)⟩
end Go.Proofs.Ytgiheheakgigkaa
