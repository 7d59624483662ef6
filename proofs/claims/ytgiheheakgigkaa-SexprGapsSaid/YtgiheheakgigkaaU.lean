/- ParseAll: how it is left. -/
import Derived.Test.YtgiheheakgigkaaS
import Derived.Test.YtgiheheakgigkaaG
namespace Go.Proofs.Ytgiheheakgigkaa
open Go.RowKit
set_option linter.unusedVariables false
set_option linter.unusedSimpArgs false
theorem leaves_eq {P : Program} {fn : Func} {tmps tmps' : Array Value} {R : Ending → World → Prop} (h : results fn tmps = results fn tmps') : ∀ ds u w, Leaves P fn tmps R ds u w = Leaves P fn tmps' R ds u w := by
  intro ds
  induction ds with
  | nil => intro u w; cases u <;> simp only [Leaves, h]
  | cons d ds ih => intro u w; simp only [Leaves, ih]
set_option maxRecDepth 100000 in
set_option maxHeartbeats 4000000 in
theorem parse13_long (s : ByteArray) (hs : 65536 < s.size) (hm : s.size ≤ maxLen) (w : World) : Calls Try.prog 13 #[.string s] w (PAP w (.err 0 7)) := by
  have hi : (65536 : Int) < (s.size : Int) := by omega
  have KB := Lib.hid (bk_alloc (bk_alloc (bk_alloc (BK.refl w) (.cells #[.slice none 0 0] 23)) (.cells #[.int .i64 0] 3)) (.cells #[.int .i64 7] 26))
  have hr := Try.results13
  go_enter_defers Try.func13, Try.ntmps13
  go_wp2_with fail
  show Leaves _ _ _ _ _ _ _
  simp [Leaves, settle, results, Try.results13, go_sem]
  exact ⟨rfl, KB.out⟩
/-- the deferred call -/
def DD (b : Nat) : Deferred := { target := .fn (.func 34) #[.pointer (some ⟨b, 0, none⟩), .pointer (some ⟨b + 1, 0, none⟩), .pointer (some ⟨b + 1 + 1, 0, none⟩)], args := #[] }
/-- the results' boxes -/
structure RB (w : World) (b : Nat) (v x y : Value) : Prop where
  bl : w.heap[b]? = some (.cells #[v] 23 (0, 0))
  ba : w.heap[b + 1]? = some (.cells #[x] 3 (0, 0))
  be : w.heap[b + 1 + 1]? = some (.cells #[y] 26 (0, 0))
theorem RB.bk {w w' : World} {b : Nat} {v x y : Value} (h : RB w b v x y) (hb : BK w w') : RB w' b v x y :=
  ⟨(bk_block hb (Array.getElem?_eq_some_iff.1 h.bl).1).trans h.bl, (bk_block hb (Array.getElem?_eq_some_iff.1 h.ba).1).trans h.ba, (bk_block hb (Array.getElem?_eq_some_iff.1 h.be).1).trans h.be⟩
theorem RB.sets {w : World} {b : Nat} {v x y : Value} (h : RB w b v x y) (v' x' y' : Value) : RB (((w.setCell ⟨b, 0, none⟩ v').setCell ⟨b + 1, 0, none⟩ x').setCell ⟨b + 1 + 1, 0, none⟩ y') b v' x' y' := by
  refine ⟨?_, ?_, ?_⟩
  · rw [heap_setCell_other _ ⟨b + 1 + 1, 0, none⟩ b _ (by show b ≠ b + 1 + 1; omega), heap_setCell_other _ ⟨b + 1, 0, none⟩ b _ (by show b ≠ b + 1; omega), heap_setCell_same w b 0 _ 23 _ h.bl]; rfl
  · rw [heap_setCell_other _ ⟨b + 1 + 1, 0, none⟩ (b + 1) _ (by show b + 1 ≠ b + 1 + 1; omega), heap_setCell_same _ (b + 1) 0 _ 3 _ ((heap_setCell_other w ⟨b, 0, none⟩ (b + 1) _ (by show b + 1 ≠ b; omega)).trans h.ba)]; rfl
  · rw [heap_setCell_same _ (b + 1 + 1) 0 _ 26 _ ((heap_setCell_other _ ⟨b + 1, 0, none⟩ (b + 1 + 1) _ (by show b + 1 + 1 ≠ b + 1; omega)).trans ((heap_setCell_other w ⟨b, 0, none⟩ (b + 1 + 1) _ (by show b + 1 + 1 ≠ b; omega)).trans h.be))]; rfl
theorem RB.drew {w : World} {b : Nat} {v x y : Value} (h : RB w b v x y) : RB w.drew b v x y := ⟨h.bl, h.ba, h.be⟩
/-- the slots of the results' boxes -/
structure RS (tmps : Array Value) (b : Nat) : Prop where
  h2 : tmps[2]?.getD undef = .pointer (some ⟨b, 0, none⟩)
  h3 : tmps[3]?.getD undef = .pointer (some ⟨b + 1, 0, none⟩)
  h4 : tmps[4]?.getD undef = .pointer (some ⟨b + 1 + 1, 0, none⟩)
theorem results_13 {tmps : Array Value} {b : Nat} (hs : RS tmps b) {w : World} {v x y : Value} (h : RB w b v x y) : (results Try.f13 tmps).run Try.prog w = .ok (.tuple #[v, x, y]) w := by
  have c0 := cell_of_row w b 0 _ 23 (0, 0) h.bl
  have c1 := cell_of_row w (b + 1) 0 _ 3 (0, 0) h.ba
  have c2 := cell_of_row w (b + 1 + 1) 0 _ 26 (0, 0) h.be
  simp [results, Try.results13, go_sem, hs.h2, hs.h3, hs.h4, c0, c1, c2]
theorem leave_ret {tmps : Array Value} {b : Nat} (hs : RS tmps b) {w : World} {v x y : Value} (h : RB w b v x y) {R : Ending → World → Prop} (hR : R (.returned (.tuple #[v, x, y])) (w.alloc (.cells #[.int .i64 0, .int .i64 0] 48))) : Leaves Try.prog Try.f13 tmps R [DD b] .returning w := by
  refine leaves_cons (f := 34) (args := #[.pointer (some ⟨b, 0, none⟩), .pointer (some ⟨b + 1, 0, none⟩), .pointer (some ⟨b + 1 + 1, 0, none⟩)]) (by simp) (by simp [go_sem]) ((catch_idle b (b + 1) (b + 1 + 1) w).mono ?_)
  rintro e u w' ⟨rfl, rfl, rfl⟩
  show Leaves _ _ _ _ _ _ _
  simp only [settle, Leaves]
  exact ⟨_, results_13 hs (h.bk (bk_alloc (BK.refl w) _)), hR⟩
theorem leave_panic {tmps : Array Value} {b : Nat} (hs : RS tmps b) {w : World} {v x y : Value} (h : RB w b v x y) (j c : Nat) {R : Ending → World → Prop} (hR : ∀ w', (∀ w0 : World, BK w0 w → w0.heap.size ≤ b → BK w0 w') → R (.returned (.tuple #[.slice none 0 0, .int .i64 (j : Int), .int .i64 (c : Int)])) w') : Leaves Try.prog Try.f13 tmps R [DD b] (.panicking [{ v := failV j c, recovered := false }]) w := by
  have c0 := cell_of_row w b 0 _ 23 (0, 0) h.bl
  have c1 := cell_of_row w (b + 1) 0 _ 3 (0, 0) h.ba
  have c2 := cell_of_row w (b + 1 + 1) 0 _ 26 (0, 0) h.be
  refine leaves_cons (f := 34) (args := #[.pointer (some ⟨b, 0, none⟩), .pointer (some ⟨b + 1, 0, none⟩), .pointer (some ⟨b + 1 + 1, 0, none⟩)]) (by simp) (by simp [go_sem]) ((catch_panicking b (b + 1) (b + 1 + 1) j c w _ _ _ c0 c1 c2 (frozen_of_row w b 0 _ 23 h.bl) (frozen_of_row w (b + 1) 0 _ 3 h.ba) (frozen_of_row w (b + 1 + 1) 0 _ 26 h.be) (by omega) (by omega) (by omega)).mono ?_)
  rintro e u w' ⟨rfl, rfl, rfl⟩
  show Leaves _ _ _ _ _ _ _
  have hx := h.bk (bk_alloc (BK.refl w) (.cells #[.int .i64 (j : Int), .int .i64 (c : Int)] 48))
  have hb : RB (CW w b (b + 1) (b + 1 + 1) j c).drew b (.slice none 0 0) (.int .i64 (j : Int)) (.int .i64 (c : Int)) := (hx.sets _ _ _).drew
  show Leaves Try.prog Try.f13 tmps R [] .returning _
  simp only [Leaves]
  exact ⟨_, results_13 hs hb, hR _ fun w0 k0 k1 => bk_drew (bk_set (bk_set (bk_set (bk_alloc k0 _) _ _ k1) _ _ (Nat.le_succ_of_le k1)) _ _ (Nat.le_succ_of_le (Nat.le_succ_of_le k1)))⟩
end Go.Proofs.Ytgiheheakgigkaa
