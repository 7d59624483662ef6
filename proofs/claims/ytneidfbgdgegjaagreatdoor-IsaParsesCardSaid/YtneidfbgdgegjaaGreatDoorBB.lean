/- strings.Builder: copyCheck, WriteByte, WriteString. -/
import Derived.Test.YtneidfbgdgegjaaGreatDoorPS
import Derived.Test.YtneidfbgdgegjaaGreatDoorShelf
namespace Go.Proofs.YtneidfbgdgegjaaGreatDoor
open Go.RowKit
set_option linter.unusedVariables false
set_option linter.unusedSimpArgs false
/-- what a call leaves: outside the footprint all is as it was, and the new footprint is old or new memory -/
structure Step (w w' : World) (F F' : Nat → Prop) : Prop where
  os : w'.os = w.os
  tape : w'.tape = w.tape
  output : w'.output = w.output
  size : w.heap.size ≤ w'.heap.size
  block : ∀ k, k < w.heap.size → ¬ F k → w'.heap[k]? = w.heap[k]?
  sub : ∀ k, F' k → F k ∨ w.heap.size ≤ k
theorem Step.trans {a b c : World} {F G H : Nat → Prop} (h : Step a b F G) (k : Step b c G H) : Step a c F H :=
  ⟨k.os.trans h.os, k.tape.trans h.tape, k.output.trans h.output, Nat.le_trans h.size k.size,
   fun i hi hn => (k.block i (Nat.lt_of_lt_of_le hi h.size) (fun g => by rcases h.sub i g with q | q; exact hn q; omega)).trans (h.block i hi hn),
   fun i hi => by
    rcases k.sub i hi with q | q
    · exact h.sub i q
    · exact .inr (Nat.le_trans h.size q)⟩
theorem Step.refl (w : World) (F : Nat → Prop) : Step w w F F := ⟨rfl, rfl, rfl, Nat.le_refl _, fun _ _ _ => rfl, fun _ h => .inl h⟩
theorem Step.bk {w w' : World} {F : Nat → Prop} (h : BK w w') : Step w w' F F :=
  ⟨h.bl.os, h.bl.tape, h.bl.output, h.bl.size, fun k hk _ => h.bl.block k hk, fun _ h => .inl h⟩
theorem Step.bk_new {w0 w w' : World} {F F' : Nat → Prop} (h : BK w0 w) (s : Step w w' F F') (hF : ∀ k, F k → w0.heap.size ≤ k) : BK w0 w' :=
  ⟨s.os.trans h.bl.os, s.tape.trans h.bl.tape, s.output.trans h.bl.output, Nat.le_trans h.bl.size s.size, fun k hk => (s.block k (Nat.lt_of_lt_of_le hk h.bl.size) (fun g => by have := hF k g; omega)).trans (h.bl.block k hk)⟩
theorem Step.to_drew {w w' : World} {F F' : Nat → Prop} (h : Step w w' F F') : Step w w'.drew F F' := ⟨h.os, h.tape, h.output, h.size, h.block, h.sub⟩
theorem Step.drew {w w' : World} {F F' : Nat → Prop} (h : Step w.drew w' F F') : Step w w' F F' := ⟨h.os, h.tape, h.output, h.size, h.block, h.sub⟩
def oneF (b : Nat) : Nat → Prop := fun k => k = b
theorem step_set {w : World} {b : Nat} (i : Nat) (v : Value) : Step w (w.setCell ⟨b, i, none⟩ v) (oneF b) (oneF b) :=
  ⟨rfl, rfl, rfl, by simp [World.setCell], fun k hk hn => heap_setCell_other w ⟨b, i, none⟩ k v (fun e => hn e), fun k hk => .inl hk⟩

/-- a builder of the call's own: its block, what its address holds, its bytes -/
structure BU (w : World) (b : Nat) (x : Value) (v : Value) (l : List UInt8) : Prop where
  h : w.heap[b]? = some (.cells #[x, v] 64 (0, 0))
  own : w.ownsRow (b + 1) 5 1 v l.length (Lib.byteCells l)
/-- fresh, or used -/
def adr (b : Nat) (x : Value) : Prop := x = .pointer none ∨ x = .pointer (some ⟨b, 0, none⟩)
set_option maxRecDepth 100000 in
set_option maxHeartbeats 4000000 in
theorem copy87 (w : World) (b : Nat) (x v : Value) (l : List UInt8) (h : BU w b x v l) (hx : adr b x) : Calls Tryz.prog 87 #[.pointer (some ⟨b, 0, none⟩)] w fun e w' => e = .returned (.tuple #[]) ∧ BU w' b (.pointer (some ⟨b, 0, none⟩)) v l ∧ Step w w' (oneF b) (oneF b) := by
  have H := Lib.hid h
  have c0 := cell_of_row w b 0 _ 64 (0, 0) h.h
  have f0 := frozen_of_row w b 0 _ 64 h.h
  have hsh : w.shape? b = some (64, 2) := by simp [World.shape?, h.h]
  obtain ⟨j, hj, hjs⟩ := Option.map_eq_some_iff.1 Tryz.Builder_Extra_169.sizeBuilder
  have HL := Lib.hid Tryz.Builder_Extra_169.liesBuilder
  clear h
  rcases hx with rfl | rfl
  · go_enter Tryz.func87, Tryz.ntmps87
    go_wp2_with fail
    rw [Lib.run_to_unsafe w ⟨b, 0, none⟩ Tryz.underlying62 Tryz.underlying129 hj (by rw [hjs]; decide) hsh (Nat.zero_lt_succ 1)]
    simp only [Result.andThen]
    rw [Oper.upon_value]
    go_wp2_with fail
    rw [run_callFunc_extern Tryz.func101 (by kernel_rfl) (by kernel_rfl) (by kernel_rfl) (e := Extern.AbiNoEscape.same) (by kernel_rfl)]
    rw [Lib.run_noEscape]
    simp only [Result.andThen]
    rw [Oper.upon_value]
    go_wp2_with fail
    rw [Lib.run_from_unsafe w ⟨b, 0, none⟩ Tryz.underlying129 Tryz.underlying62 hj hsh HL.out]
    simp only [Result.andThen]
    rw [Oper.upon_value]
    go_wp2_with fail
    go_end0
    exact ⟨rfl, ⟨by rw [heap_setCell_same w b 0 _ 64 _ H.out.h]; rfl, own_at H.out.own fun k hk => heap_setCell_other w ⟨b, 0, none⟩ k _ (fun e => by have := (H.out.own.lt k hk).1; have e : k = b := e; omega)⟩, step_set 0 _⟩
  · go_enter Tryz.func87, Tryz.ntmps87
    go_wp2_with fail
    rw [Lib.run_neq_ptr_same w _ Tryz.underlying62 hj]
    go_wp2_with fail
    go_end0
    exact ⟨rfl, H.out, Step.refl _ _⟩
/-- the builder's memory -/
def bF (b : Nat) (v : Value) : Nat → Prop := fun k => k = b ∨ v.ownBlock = some k
theorem bu_put {w w1 wa w2 : World} {b g cap : Nat} {v : Value} {l m : List UInt8} (s1 : Step w w1 (oneF b) (oneF b)) (h1 : BU w1 b (.pointer (some ⟨b, 0, none⟩)) v l) (ha : BK w1 wa) (hg : wa.grownBy w2 v.ownBlock) (hgc : v.ownBlock = some g ∨ g = wa.heap.size)
    (ho : w2.ownsRow (b + 1) 5 1 (.slice (some ⟨g, 0, none⟩) (l.length + m.length) cap) (l.length + m.length) (Lib.byteCells (l ++ m))) :
    BU (w2.setCell ⟨b, 1, none⟩ (.slice (some ⟨g, 0, none⟩) (l.length + m.length) cap)) b (.pointer (some ⟨b, 0, none⟩)) (.slice (some ⟨g, 0, none⟩) (l.length + m.length) cap) (l ++ m) ∧
    Step w (w2.setCell ⟨b, 1, none⟩ (.slice (some ⟨g, 0, none⟩) (l.length + m.length) cap)) (bF b v) (bF b (.slice (some ⟨g, 0, none⟩) (l.length + m.length) cap)) := by
  have hlt : b < w1.heap.size := (Array.getElem?_eq_some_iff.1 h1.h).1
  have hsz := bk_size ha
  have hne : v.ownBlock ≠ some b := fun e => by have := (h1.own.lt b e).1; omega
  have hb2 : w2.heap[b]? = some (.cells #[.pointer (some ⟨b, 0, none⟩), v] 64 (0, 0)) := (hg.block b (by omega) (fun e => hne e.symm)).trans ((bk_block ha hlt).trans h1.h)
  have hgb := (ho.lt g rfl).1
  refine ⟨⟨by rw [heap_setCell_same w2 b 1 _ 64 _ hb2]; rfl, ?_⟩, hg.os.trans (ha.bl.os.trans s1.os), hg.tape.trans (ha.bl.tape.trans s1.tape), hg.output.trans (ha.bl.output.trans s1.output), ?_, fun k hk hn => ?_, fun k hk => ?_⟩
  · rw [List.length_append]
    exact own_at ho fun k hk => heap_setCell_other w2 ⟨b, 1, none⟩ k _ (fun e => by have := (ho.lt k hk).1; have e : k = b := e; omega)
  · have := s1.size; have := hg.size; simp [World.setCell]; omega
  · have hkb : k ≠ b := fun e => hn (.inl e)
    have := s1.size
    rw [heap_setCell_other w2 ⟨b, 1, none⟩ k _ (fun e => hkb e), hg.block k (by omega) (fun e => hn (.inr e.symm)), bk_block ha (by omega)]
    exact s1.block k hk (fun e => hkb e)
  · rcases hk with hk | hk
    · exact .inl (.inl hk)
    · obtain rfl : g = k := by simpa [Value.ownBlock] using hk
      rcases hgc with q | q
      · exact .inl (.inr q)
      · have := s1.size; exact .inr (by omega)
theorem info5 : (Tryz.prog.info? 5).map (fun i => (i.zero, i.size, i.bytes)) = some (some (.int .u8 0), 1, 1) := by kernel_rfl
set_option maxRecDepth 100000 in
set_option maxHeartbeats 4000000 in
theorem byte70 (w : World) (b : Nat) (x v : Value) (l : List UInt8) (h : BU w b x v l) (hx : adr b x) (c : UInt8) (hl : l.length ≤ 1000000) : Calls Tryz.prog 70 #[.pointer (some ⟨b, 0, none⟩), .int .u8 (c.toNat : Int)] w fun e w' => e = .returned .nilIface ∧ ∃ v', BU w' b (.pointer (some ⟨b, 0, none⟩)) v' (l ++ [c]) ∧ Step w w' (bF b v) (bF b v') := by
  have CC := Lib.hid (copy87 w b x v l h hx)
  obtain ⟨i0, hi, hz0, hz1, hz2⟩ := info_parts info5
  clear h hx
  go_enter Tryz.func70, Tryz.ntmps70
  go_wp2_with fail
  refine CC.out.mono ?_
  rintro e w1 ⟨rfl, h1, hs1⟩
  have H1 := Lib.hid h1
  have S1 := Lib.hid hs1
  have c0 := cell_of_row w1 b 0 _ 64 (0, 0) h1.h
  have c1 := cell_of_row w1 b 1 _ 64 (0, 0) h1.h
  have LT := Lib.hid (show b < w1.heap.size from (Array.getElem?_eq_some_iff.1 h1.h).1)
  clear h1 hs1
  go_wp2_with (at_builtin; go_must (refine wpList_append_lies _ rfl _ _ 54 rfl (b + 1) 5 i0 (.int .u8 0) 1 1 Tryz.underlying54 hi hz0 hz1 hz2 rfl (by decide) v l.length (Lib.byteCells l) rfl (H1.out.own.alloc _) ⟨w1.heap.size, 0, none⟩ 1 1 [.int .u8 (c.toNat : Int)] rfl rfl ?c1 ?c2 (by omega) ?c3 ?c4 ?c5 _ rfl ?_))
  case c1 =>
    intro j u hj
    match j, hj with
    | 0, hj => simp at hj; subst hj; simp [Addr.add]
  case c2 => intro u hu; simp at hu; subst hu; rfl
  case c3 => unfold maxLen; omega
  case c4 => omega
  case c5 => have := LT.out; simp; omega
  intro g cap w2 ho hg hgc hgl
  have hbc : Lib.byteCells l ++ [.int .u8 (c.toNat : Int)] = Lib.byteCells (l ++ [c]) := by simp [Lib.byteCells]
  rw [hbc] at ho
  have PUT := Lib.hid (bu_put S1.out H1.out (bk_alloc (BK.refl w1) _) hg (by rw [sz1]; exact hgc) (m := [c]) ho)
  have hb2 : w2.heap[b]? = some (.cells #[.pointer (some ⟨b, 0, none⟩), v] 64 (0, 0)) := (hg.block b (by rw [sz1]; have := LT.out; omega) (fun e => by have := (H1.out.own.lt b e.symm).1; omega)).trans ((heap_alloc_old w1 _ LT.out).trans H1.out.h)
  have d1 := cell_of_row w2 b 1 _ 64 (0, 0) hb2
  have f1 := frozen_of_row w2 b 1 _ 64 hb2
  clear ho hg hgc hgl hb2 c0 c1 hbc
  go_wp2_with fail
  go_ret
  exact ⟨rfl, _, PUT.out.1, PUT.out.2⟩

/-- what a write into the builder at b leaves as it was: all below it, and every block that is no row of bytes -/
structure Fr (b : Nat) (w w' : World) : Prop where
  os : w'.os = w.os
  tape : w'.tape = w.tape
  output : w'.output = w.output
  size : w.heap.size ≤ w'.heap.size
  low : ∀ k, k < w.heap.size → k < b → w'.heap[k]? = w.heap[k]?
  far : ∀ k, k < w.heap.size → k ≠ b → (∀ cs fr, w.heap[k]? ≠ some (.cells cs 5 fr)) → w'.heap[k]? = w.heap[k]?
theorem Fr.refl (b : Nat) (w : World) : Fr b w w := ⟨rfl, rfl, rfl, Nat.le_refl _, fun _ _ _ => rfl, fun _ _ _ _ => rfl⟩
theorem Fr.trans {b : Nat} {x y z : World} (h : Fr b x y) (k : Fr b y z) : Fr b x z :=
  ⟨k.os.trans h.os, k.tape.trans h.tape, k.output.trans h.output, Nat.le_trans h.size k.size, fun i hi hb => (k.low i (Nat.lt_of_lt_of_le hi h.size) hb).trans (h.low i hi hb),
   fun i hi hb hn => by
    have e := h.far i hi hb hn
    exact (k.far i (Nat.lt_of_lt_of_le hi h.size) hb (fun cs fr => by rw [e]; exact hn cs fr)).trans e⟩
theorem Fr.bk {b : Nat} {w w' : World} (h : BK w w') : Fr b w w' := ⟨h.bl.os, h.bl.tape, h.bl.output, h.bl.size, fun k hk _ => bk_block h hk, fun k hk _ _ => bk_block h hk⟩
theorem Fr.step {b : Nat} {w w' : World} {x v : Value} {l : List UInt8} {G : Nat → Prop} (h : BU w b x v l) (s : Step w w' (bF b v) G) : Fr b w w' := by
  refine ⟨s.os, s.tape, s.output, s.size, fun k hk hb => s.block k hk ?_, fun k hk hb hn => s.block k hk ?_⟩
  · rintro (e | e)
    · omega
    · have := (h.own.lt k e).1; omega
  · rintro (e | e)
    · exact hb e
    · obtain ⟨cur, hc⟩ := own_tag h.own e
      exact hn _ _ hc
/-- below the builder's block all is as it was -/
theorem Fr.bk_of {w0 w w' : World} {b : Nat} (h : BK w0 w) (f : Fr b w w') (hb : w0.heap.size ≤ b) : BK w0 w' :=
  ⟨f.os.trans h.bl.os, f.tape.trans h.bl.tape, f.output.trans h.bl.output, Nat.le_trans h.bl.size f.size, fun k hk => (f.low k (Nat.lt_of_lt_of_le hk h.bl.size) (Nat.lt_of_lt_of_le hk hb)).trans (h.bl.block k hk)⟩
theorem strCells_eq (s : ByteArray) : Lib.strCells s = Lib.byteCells s.data.toList := by
  simp [Lib.strCells, Lib.byteCells]
set_option maxRecDepth 100000 in
set_option maxHeartbeats 4000000 in
theorem str68 (w : World) (b : Nat) (x v : Value) (l : List UInt8) (h : BU w b x v l) (hx : adr b x) (s : ByteArray) (hl : l.length ≤ 1000000) (hsz : s.size ≤ 1000000) : Calls Tryz.prog 68 #[.pointer (some ⟨b, 0, none⟩), .string s] w fun e w' => e = .returned (.tuple #[.int .i64 (s.size : Int), .nilIface]) ∧ ∃ v', BU w' b (.pointer (some ⟨b, 0, none⟩)) v' (l ++ s.data.toList) ∧ Fr b w w' := by
  have CC := Lib.hid (copy87 w b x v l h hx)
  have HW := Lib.hid h
  obtain ⟨i0, hi, hz0, hz1, hz2⟩ := info_parts info5
  clear h hx
  go_enter Tryz.func68, Tryz.ntmps68
  go_wp2_with fail
  refine CC.out.mono ?_
  rintro e w1 ⟨rfl, h1, hs1⟩
  have H1 := Lib.hid h1
  have S1 := Lib.hid hs1
  have c0 := cell_of_row w1 b 0 _ 64 (0, 0) h1.h
  have c1 := cell_of_row w1 b 1 _ 64 (0, 0) h1.h
  have LT := Lib.hid (show b < w1.heap.size from (Array.getElem?_eq_some_iff.1 h1.h).1)
  clear h1 hs1
  go_wp2_with (at_builtin; go_must (refine Lib.wpList_append_own_string _ rfl _ _ 54 9 rfl (b + 1) 5 i0 Tryz.underlying54 Tryz.underlying9 hi hz0 hz1 hz2 v l.length (Lib.byteCells l) rfl H1.out.own s rfl ?c3 ?c4 ?c5 ?_))
  case c3 => unfold maxLen; omega
  case c4 => omega
  case c5 => have := LT.out; omega
  intro v' w2 ho hg _
  have hll : (l ++ s.data.toList).length = l.length + s.size := by rw [List.length_append]; rfl
  have hb2 : w2.heap[b]? = some (.cells #[.pointer (some ⟨b, 0, none⟩), v] 64 (0, 0)) := (hg.block b LT.out (fun e => by have := (H1.out.own.lt b e.symm).1; omega)).trans H1.out.h
  have HO := Lib.hid (show w2.ownsRow (b + 1) 5 1 v' (l ++ s.data.toList).length (Lib.byteCells (l ++ s.data.toList)) from by
    rw [hll, show Lib.byteCells (l ++ s.data.toList) = Lib.byteCells l ++ Lib.strCells s by rw [strCells_eq]; simp [Lib.byteCells]]; exact ho)
  have FR := Lib.hid (show Fr b w1 w2 from ⟨hg.os, hg.tape, hg.output, hg.size, fun k hk hb => hg.block k hk (fun e => by have := (H1.out.own.lt k e.symm).1; omega), fun k hk hb hn => hg.block k hk (fun e => by obtain ⟨cur, hc⟩ := own_tag H1.out.own e.symm; exact hn _ _ hc)⟩)
  have HB2 := Lib.hid hb2
  have d1 := cell_of_row w2 b 1 _ 64 (0, 0) hb2
  have f1 := frozen_of_row w2 b 1 _ 64 hb2
  clear ho hg hb2 c0 c1 hll
  obtain ⟨p9, n9, c9, rfl⟩ : ∃ p9 n9 c9, v' = .slice p9 n9 c9 := by
    obtain ⟨p9, c9, e⟩ := own_shape HO.out
    exact ⟨_, _, _, e⟩
  go_wp2_with fail
  go_ret2
  have f0 : Fr b w w1 := ⟨S1.out.os, S1.out.tape, S1.out.output, S1.out.size, fun k hk hb => S1.out.block k hk (fun e => by unfold oneF at e; omega), fun k hk hb _ => S1.out.block k hk (fun e => hb e)⟩
  have f3 : Fr b w2 (w2.setCell ⟨b, 1, none⟩ (.slice p9 n9 c9)) := ⟨rfl, rfl, rfl, by simp [World.setCell], fun k hk hb => heap_setCell_other w2 ⟨b, 1, none⟩ k _ (fun e => by have e : k = b := e; omega), fun k hk hb _ => heap_setCell_other w2 ⟨b, 1, none⟩ k _ (fun e => hb e)⟩
  exact ⟨rfl, _, ⟨by rw [heap_setCell_same w2 b 1 _ 64 _ HB2.out]; rfl, own_at HO.out fun k hk => heap_setCell_other w2 ⟨b, 1, none⟩ k _ (fun e => by have := (HO.out.lt k hk).1; have e : k = b := e; omega)⟩, f0.trans (FR.out.trans f3)⟩
end Go.Proofs.YtneidfbgdgegjaaGreatDoor
