/- Print. -/
import Derived.Test.YtgiheheakgigkaaAA
namespace Go.Proofs.Ytgiheheakgigkaa
open Go.RowKit
set_option linter.unusedVariables false
set_option linter.unusedSimpArgs false
theorem BU.is {w : World} {b : Nat} {x v : Value} {l : List UInt8} (h : BU w b x v l) (hx : adr b x) : Lib.IsBuilder 56 5 b b (Lib.byteCells l) w := by
  have hat : Lib.BuilderAt 56 5 b b x (Lib.byteCells l) w := ⟨Nat.le_refl _, v, h.h, by rw [Lib.byteCells_length]; exact own_mono h.own (by omega), fun e => by have := (h.own.lt b e).1; omega⟩
  rcases hx with rfl | rfl
  · exact .inl hat
  · exact .inr hat
theorem bs_back (s : ByteArray) : (⟨(bs s).toArray⟩ : ByteArray) = s := by
  obtain ⟨a⟩ := s
  unfold bs
  simp
set_option maxRecDepth 100000 in
set_option maxHeartbeats 4000000 in
theorem print18 (t : T) (w : World) (p : Option Addr) (c : Nat) (hr : RowD (mem 0 w) w p c t.ts) (hz : (prT t).size ≤ 1000000) : Calls Try.prog 18 #[.agg #[.string t.a, .slice p t.ts.length c]] w fun e w' => e = .returned (.string (prT t)) ∧ BK w w' := by
  have KX := Lib.hid (bk_alloc (BK.refl w) (.cells #[.string t.a, .slice p t.ts.length c] 25))
  have NX := Lib.hid (heap_alloc_new w (.cells #[.string t.a, .slice p t.ts.length c] 25))
  have HR := Lib.hid hr
  have SZ := Lib.hid (sz1 w (.cells #[.string t.a, .slice p t.ts.length c] 25))
  clear hr
  go_enter Try.func18, Try.ntmps18
  go_upto_region 1 with (fail)
  generalize w.alloc (.cells #[.string t.a, .slice p t.ts.length c] 25) = w1 at *
  have KY := Lib.hid (bk_alloc (BK.refl w1) (.cells #[.pointer none, .slice none 0 0] 56))
  have NY := Lib.hid (heap_alloc_new w1 (.cells #[.pointer none, .slice none 0 0] 56))
  have HX := Lib.hid ((bk_block KY.out (Array.getElem?_eq_some_iff.1 NX.out).1).trans NX.out)
  have x0 := cell_of_row _ w.heap.size 0 _ 25 (0, 0) HX.out
  have x1 := cell_of_row _ w.heap.size 1 _ 25 (0, 0) HX.out
  have C38 := Lib.hid (write38 w1.heap.size t (w1.alloc (.cells #[.pointer none, .slice none 0 0] 56)) p c (.pointer none) (.slice none 0 0) [] ⟨NY.out, World.ownsRow_nil _ _ _ _⟩ (.inl rfl) (HR.out.keep fun k hk => ⟨(bk_block KY.out (by have := hk.2; have := SZ.out; omega)).trans (bk_block KX.out hk.2), by have := hk.2; have := SZ.out; show k < w1.heap.size; omega⟩) (by simpa using hz))
  go_wp2_with fail
  refine C38.out.mono ?_
  rintro e w2 ⟨rfl, ⟨v2, hb2⟩, hf2⟩
  have C39 := Lib.hid (Try.Builder_String_any w1.heap.size w1.heap.size _ w2 (hb2.is (.inr rfl)) (Nat.le_of_lt hb2.lt))
  have F2 := Lib.hid hf2
  rw [List.nil_append, bs_back] at C39
  clear hb2 hf2
  go_wp2_with fail
  refine C39.out.mono ?_
  rintro e w3 ⟨rfl, hb3⟩
  have K3 := Lib.hid hb3
  clear hb3
  go_wp2_with fail
  go_ret
  exact ⟨rfl, Below.trans (Fr.bk_of (bk_tr KX.out KY.out) F2.out (by have := SZ.out; omega)) (Below.mono K3.out (by have := SZ.out; omega))⟩
end Go.Proofs.Ytgiheheakgigkaa
