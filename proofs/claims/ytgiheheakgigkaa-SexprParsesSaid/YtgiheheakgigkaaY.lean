/- strings.Builder: copyCheck. -/
import Derived.Test.YtgiheheakgigkaaX
import Derived.Test.YtgiheheakgigkaaShelf
namespace Go.Proofs.Ytgiheheakgigkaa
open Go.RowKit
set_option linter.unusedVariables false
set_option linter.unusedSimpArgs false
/-- a builder of the call's own: its block, what its address holds, its bytes -/
structure BU (w : World) (b : Nat) (x : Value) (v : Value) (l : List UInt8) : Prop where
  h : w.heap[b]? = some (.cells #[x, v] 56 (0, 0))
  own : w.ownsRow (b + 1) 5 1 v l.length (Lib.byteCells l)
/-- fresh, or used -/
def adr (b : Nat) (x : Value) : Prop := x = .pointer none ∨ x = .pointer (some ⟨b, 0, none⟩)
set_option maxRecDepth 100000 in
set_option maxHeartbeats 4000000 in
theorem copy52 (w : World) (b : Nat) (x v : Value) (l : List UInt8) (h : BU w b x v l) (hx : adr b x) : Calls Try.prog 52 #[.pointer (some ⟨b, 0, none⟩)] w fun e w' => e = .returned (.tuple #[]) ∧ BU w' b (.pointer (some ⟨b, 0, none⟩)) v l ∧ Step w w' (oneF b) (oneF b) := by
  have H := Lib.hid h
  have c0 := cell_of_row w b 0 _ 56 (0, 0) h.h
  have f0 := frozen_of_row w b 0 _ 56 h.h
  have hsh : w.shape? b = some (56, 2) := by simp [World.shape?, h.h]
  obtain ⟨j, hj, hjs⟩ := Option.map_eq_some_iff.1 Try.Builder_Extra_169.sizeBuilder
  have HL := Lib.hid Try.Builder_Extra_169.liesBuilder
  clear h
  rcases hx with rfl | rfl
  · go_enter Try.func52, Try.ntmps52
    go_wp2_with fail
    rw [Lib.run_to_unsafe w ⟨b, 0, none⟩ Try.underlying54 Try.underlying70 hj (by rw [hjs]; decide) hsh (Nat.zero_lt_succ 1)]
    simp only [Result.andThen]
    rw [Oper.upon_value]
    go_wp2_with fail
    rw [run_callFunc_extern Try.func55 (by kernel_rfl) (by kernel_rfl) (by kernel_rfl) (e := Extern.AbiNoEscape.same) (by kernel_rfl)]
    rw [Lib.run_noEscape]
    simp only [Result.andThen]
    rw [Oper.upon_value]
    go_wp2_with fail
    rw [Lib.run_from_unsafe w ⟨b, 0, none⟩ Try.underlying70 Try.underlying54 hj hsh HL.out]
    simp only [Result.andThen]
    rw [Oper.upon_value]
    go_wp2_with fail
    go_end0
    exact ⟨rfl, ⟨by rw [heap_setCell_same w b 0 _ 56 _ H.out.h]; rfl, own_at H.out.own fun k hk => heap_setCell_other w ⟨b, 0, none⟩ k _ (fun e => by have := (H.out.own.lt k hk).1; have e : k = b := e; omega)⟩, step_set 0 _⟩
  · go_enter Try.func52, Try.ntmps52
    go_wp2_with fail
    rw [Lib.run_neq_ptr_same w _ Try.underlying54 hj]
    go_wp2_with fail
    go_end0
    exact ⟨rfl, H.out, Step.refl _ _⟩
/-- the builder's memory -/
def bF (b : Nat) (v : Value) : Nat → Prop := fun k => k = b ∨ v.ownBlock = some k
theorem bu_put {w w1 wa w2 : World} {b g cap : Nat} {v : Value} {l m : List UInt8} (s1 : Step w w1 (oneF b) (oneF b)) (h1 : BU w1 b (.pointer (some ⟨b, 0, none⟩)) v l) (ha : BK w1 wa) (hg : wa.grownBy w2 v.ownBlock) (hgc : v.ownBlock = some g ∨ g = wa.heap.size)
    (ho : w2.ownsRow (b + 1) 5 1 (.slice (some ⟨g, 0, none⟩) (l.length + m.length) cap) (l.length + m.length) (Lib.byteCells (l ++ m))) :
    BU (w2.setCell ⟨b, 1, none⟩ (.slice (some ⟨g, 0, none⟩) (l.length + m.length) cap)) b (.pointer (some ⟨b, 0, none⟩)) (.slice (some ⟨g, 0, none⟩) (l.length + m.length) cap) (l ++ m) ∧
    Step w (w2.setCell ⟨b, 1, none⟩ (.slice (some ⟨g, 0, none⟩) (l.length + m.length) cap)) (bF b v) (bF b (.slice (some ⟨g, 0, none⟩) (l.length + m.length) cap)) := by
  have hlt : b < w1.heap.size := (Array.getElem?_eq_some_iff.1 h1.h).1
  have hsz := bk_size ha
  have hne : v.ownBlock ≠ some b := fun e => by have := (h1.own.lt b e).1; omega
  have hb2 : w2.heap[b]? = some (.cells #[.pointer (some ⟨b, 0, none⟩), v] 56 (0, 0)) := (hg.block b (by omega) (fun e => hne e.symm)).trans ((bk_block ha hlt).trans h1.h)
  have hgb := (ho.lt g rfl).1
  refine ⟨⟨by rw [heap_setCell_same w2 b 1 _ 56 _ hb2]; rfl, ?_⟩, hg.os.trans (ha.bl.os.trans s1.os), hg.tape.trans (ha.bl.tape.trans s1.tape), hg.output.trans (ha.bl.output.trans s1.output), ?_, fun k hk hn => ?_, fun k hk => ?_⟩
  · rw [List.length_append]
    exact own_at ho fun k hk => heap_setCell_other w2 ⟨b, 1, none⟩ k _ (fun e => by have := (ho.lt k hk).1; have e : k = b := e; omega)
  · have := s1.size; have := hg.size; simp [World.setCell]; omega
  · have hkb : k ≠ b := fun e => hn (.inl e)
    have := s1.size
    rw [heap_setCell_other w2 ⟨b, 1, none⟩ k _ (fun e => hkb e), hg.block k (by omega) (fun e => hn (.inr e.symm)), bk_block ha (by omega)]
    exact s1.block k hk (fun e => hkb e)
  · rcases hk with hk | hk
    · exact .inl (.inl hk)
    · obtain rfl : g = k := by simpa [Value.ownBlock] using hk
      rcases hgc with q | q
      · exact .inl (.inr q)
      · have := s1.size; exact .inr (by omega)
theorem info5 : (Try.prog.info? 5).map (fun i => (i.zero, i.size, i.bytes)) = some (some (.int .u8 0), 1, 1) := by kernel_rfl
set_option maxRecDepth 100000 in
set_option maxHeartbeats 4000000 in
theorem byte40 (w : World) (b : Nat) (x v : Value) (l : List UInt8) (h : BU w b x v l) (hx : adr b x) (c : UInt8) (hl : l.length ≤ 1000000) : Calls Try.prog 40 #[.pointer (some ⟨b, 0, none⟩), .int .u8 (c.toNat : Int)] w fun e w' => e = .returned .nilIface ∧ ∃ v', BU w' b (.pointer (some ⟨b, 0, none⟩)) v' (l ++ [c]) ∧ Step w w' (bF b v) (bF b v') := by
  have CC := Lib.hid (copy52 w b x v l h hx)
  obtain ⟨i0, hi, hz0, hz1, hz2⟩ := info_parts info5
  clear h hx
  go_enter Try.func40, Try.ntmps40
  go_wp2_with fail
  refine CC.out.mono ?_
  rintro e w1 ⟨rfl, h1, hs1⟩
  have H1 := Lib.hid h1
  have S1 := Lib.hid hs1
  have c0 := cell_of_row w1 b 0 _ 56 (0, 0) h1.h
  have c1 := cell_of_row w1 b 1 _ 56 (0, 0) h1.h
  have LT := Lib.hid (show b < w1.heap.size from (Array.getElem?_eq_some_iff.1 h1.h).1)
  clear h1 hs1
  go_wp2_with (at_builtin; go_must (refine wpList_append_lies _ rfl _ _ 42 rfl (b + 1) 5 i0 (.int .u8 0) 1 1 Try.underlying42 hi hz0 hz1 hz2 rfl (by decide) v l.length (Lib.byteCells l) rfl (H1.out.own.alloc _) ⟨w1.heap.size, 0, none⟩ 1 1 [.int .u8 (c.toNat : Int)] rfl rfl ?c1 ?c2 (by omega) ?c3 ?c4 ?c5 _ rfl ?_))
  case c1 =>
    intro j u hj
    match j, hj with
    | 0, hj => simp at hj; subst hj; simp [Addr.add]
  case c2 => intro u hu; simp at hu; subst hu; rfl
  case c3 => unfold maxLen; omega
  case c4 => omega
  case c5 => have := LT.out; simp; omega
  intro g cap w2 ho hg hgc hgl
  have hbc : Lib.byteCells l ++ [.int .u8 (c.toNat : Int)] = Lib.byteCells (l ++ [c]) := by simp [Lib.byteCells]
  rw [hbc] at ho
  have PUT := Lib.hid (bu_put S1.out H1.out (bk_alloc (BK.refl w1) _) hg (by rw [sz1]; exact hgc) (m := [c]) ho)
  have hb2 : w2.heap[b]? = some (.cells #[.pointer (some ⟨b, 0, none⟩), v] 56 (0, 0)) := (hg.block b (by rw [sz1]; have := LT.out; omega) (fun e => by have := (H1.out.own.lt b e.symm).1; omega)).trans ((heap_alloc_old w1 _ LT.out).trans H1.out.h)
  have d1 := cell_of_row w2 b 1 _ 56 (0, 0) hb2
  have f1 := frozen_of_row w2 b 1 _ 56 hb2
  clear ho hg hgc hgl hb2 c0 c1 hbc
  go_wp2_with fail
  go_ret
  exact ⟨rfl, _, PUT.out.1, PUT.out.2⟩
end Go.Proofs.Ytgiheheakgigkaa
