/- ParseAll. -/
import Derived.Test.YtgiheheakgigkaaU
namespace Go.Proofs.Ytgiheheakgigkaa
open Go.RowKit
set_option linter.unusedVariables false
set_option linter.unusedSimpArgs false
/-- while a text is read -/
structure AL (w : World) (s : ByteArray) (RR : R (List T)) (v : Value) (acc : List T) (fu i : Nat) (wr : World) : Prop where
  box : RB wr w.heap.size v (.int .i64 0) (.int .i64 0)
  lv : LV (w.heap.size + 1 + 1 + 1 + 1) wr v acc
  al : acc.length ≤ i
  il : i ≤ s.size
  fl : s.size - i < fu
  eq : alF (xo s) fu acc i = RR
  pb : PB wr (w.heap.size + 1 + 1 + 1) s i
  bk : BK w wr
def w13 (w : World) (s : ByteArray) : World := (((w.alloc (.cells #[.slice none 0 0] 23)).alloc (.cells #[.int .i64 0] 3)).alloc (.cells #[.int .i64 0] 26)).alloc (.cells #[.string s, .int .i64 0] 51)
theorem al_new (w : World) (s : ByteArray) : AL w s (allR (xo s)) (.slice none 0 0) [] (s.size + 1) 0 (w13 w s) := by
  have k3 := heap_alloc_new (((w.alloc (.cells #[.slice none 0 0] 23)).alloc (.cells #[.int .i64 0] 3)).alloc (.cells #[.int .i64 0] 26)) (.cells #[.string s, .int .i64 0] 51)
  have k2 := heap_alloc_new ((w.alloc (.cells #[.slice none 0 0] 23)).alloc (.cells #[.int .i64 0] 3)) (.cells #[.int .i64 0] 26)
  have k1 := heap_alloc_new (w.alloc (.cells #[.slice none 0 0] 23)) (.cells #[.int .i64 0] 3)
  have k0 := heap_alloc_new w (.cells #[.slice none 0 0] 23)
  simp only [sz1] at k0 k1 k2 k3
  refine ⟨⟨?_, ?_, ?_⟩, LV.nil _ _, Nat.zero_le _, Nat.zero_le _, by omega, rfl, k3, ?_⟩
  · exact (heap_alloc_old _ _ (by simp only [sz1]; omega)).trans ((heap_alloc_old _ _ (by simp only [sz1]; omega)).trans ((heap_alloc_old _ _ (by simp only [sz1]; omega)).trans k0))
  · exact (heap_alloc_old _ _ (by simp only [sz1]; omega)).trans ((heap_alloc_old _ _ (by simp only [sz1]; omega)).trans k1)
  · exact (heap_alloc_old _ _ (by simp only [sz1]; omega)).trans k2
  · exact bk_alloc (bk_alloc (bk_alloc (bk_alloc (BK.refl w) _) _) _) _
theorem AL.sz {w wr : World} {s : ByteArray} {RR : R (List T)} {v : Value} {acc : List T} {fu i : Nat} (h : AL w s RR v acc fu i wr) : w.heap.size + 4 ≤ wr.heap.size := by
  have := (Array.getElem?_eq_some_iff.1 h.pb).1; omega
theorem RB.st {w w' : World} {b pb : Nat} {v x y : Value} (h : RB w b v x y) (s : Step w w' (oneF pb) (oneF pb)) (hp : b + 1 + 1 < pb) : RB w' b v x y :=
  ⟨(s.block b (Array.getElem?_eq_some_iff.1 h.bl).1 (fun e => by unfold oneF at e; omega)).trans h.bl, (s.block (b + 1) (Array.getElem?_eq_some_iff.1 h.ba).1 (fun e => by unfold oneF at e; omega)).trans h.ba, (s.block (b + 1 + 1) (Array.getElem?_eq_some_iff.1 h.be).1 (fun e => by unfold oneF at e; omega)).trans h.be⟩
theorem step_bk {w w1 w2 : World} {pb : Nat} (h : BK w w1) (s : Step w1 w2 (oneF pb) (oneF pb)) (hp : w.heap.size ≤ pb) : BK w w2 := Step.bk_new h s (fun k hk => by unfold oneF at hk; omega)
/-- before the append: the world as it stands -/
structure GX (w : World) (s : ByteArray) (v : Value) (acc : List T) (k : Nat) (wx : World) : Prop where
  box : RB wx w.heap.size v (.int .i64 0) (.int .i64 0)
  lv : LV (w.heap.size + 1 + 1 + 1 + 1) wx v acc
  pb : PB wx (w.heap.size + 1 + 1 + 1) s k
  bk : BK w wx
theorem GX.keep {w wx wy : World} {s : ByteArray} {v : Value} {acc : List T} {k : Nat} (h : GX w s v acc k wx) (hb : BK wx wy) : GX w s v acc k wy :=
  ⟨h.box.bk hb, h.lv.bk hb, h.pb.bk hb, bk_tr h.bk hb⟩
theorem GX.step {w wx wy : World} {s : ByteArray} {v : Value} {acc : List T} {k k' : Nat} (h : GX w s v acc k wx) (st : Step wx wy (oneF (w.heap.size + 1 + 1 + 1)) (oneF (w.heap.size + 1 + 1 + 1))) (hp : PB wy (w.heap.size + 1 + 1 + 1) s k') : GX w s v acc k' wy :=
  ⟨h.box.st st (by omega), h.lv.step st (by omega), hp, step_bk h.bk st (by omega)⟩
theorem GX.b0 {w wx : World} {s : ByteArray} {v : Value} {acc : List T} {k : Nat} (h : GX w s v acc k wx) : wx.cell? ⟨w.heap.size, 0, none⟩ = some v := cell_of_row _ w.heap.size 0 _ 23 (0, 0) h.box.bl
theorem GX.sz {w wx : World} {s : ByteArray} {v : Value} {acc : List T} {k : Nat} (h : GX w s v acc k wx) : w.heap.size + 1 + 1 + 1 + 1 ≤ wx.heap.size := by
  have := (Array.getElem?_eq_some_iff.1 h.pb).1; omega
/-- behind the append -/
structure AP (w : World) (s : ByteArray) (v : Value) (acc : List T) (t : T) (p : Option Addr) (c g cap k : Nat) (wx : World) : Prop where
  box : RB wx w.heap.size v (.int .i64 0) (.int .i64 0)
  lv : LV (w.heap.size + 1 + 1 + 1 + 1) wx (.slice (some ⟨g, 0, none⟩) (acc.length + 1) cap) (acc ++ [zeroT])
  row : RowD (fun b => w.heap.size + 1 + 1 + 1 + 1 ≤ b ∧ b < wx.heap.size ∧ b ≠ g) wx p c t.ts
  pb : PB wx (w.heap.size + 1 + 1 + 1) s k
  bk : BK w wx
theorem AP.of {w wx w3 : World} {s : ByteArray} {v : Value} {acc : List T} {t : T} {p : Option Addr} {c g cap k lo1 : Nat} (h : GX w s v acc k wx) (hr : RowD (mem lo1 wx) wx p c t.ts) (hlo : w.heap.size + 1 + 1 + 1 + 1 ≤ lo1) (hv : ∀ b, v.ownBlock = some b → b < lo1)
    (l3 : LV (w.heap.size + 1 + 1 + 1 + 1) w3 (.slice (some ⟨g, 0, none⟩) (acc.length + 1) cap) (acc ++ [zeroT])) (s3 : Step wx w3 (fun b => v.ownBlock = some b) (fun b => b = g)) (hg : v.ownBlock = some g ∨ g = wx.heap.size) : AP w s v acc t p c g cap k w3 := by
  have hvl := h.lv.vlt
  have blk : ∀ b, b < w.heap.size + 1 + 1 + 1 + 1 → w3.heap[b]? = wx.heap[b]? := fun b hb => s3.block b (by have := h.sz; omega) (fun e => by have := (hvl b e).1; omega)
  refine ⟨⟨(blk _ (by omega)).trans h.box.bl, (blk _ (by omega)).trans h.box.ba, (blk _ (by omega)).trans h.box.be⟩, l3, hr.keep fun b hb => ⟨s3.block b hb.2 (fun e => by have := hv b e; have := hb.1; omega), Nat.le_trans hlo hb.1, Nat.lt_of_lt_of_le hb.2 s3.size, fun e => ?_⟩, (blk _ (by omega)).trans h.pb, Step.bk_new h.bk s3 (fun b hb => by have := (hvl b hb).1; omega)⟩
  subst e
  rcases hg with q | q
  · have := hv b q; have := hb.1; omega
  · have := hb.2; omega
theorem AP.gl {w wx : World} {s : ByteArray} {v : Value} {acc : List T} {t : T} {p : Option Addr} {c g cap k : Nat} (h : AP w s v acc t p c g cap k wx) : w.heap.size + 1 + 1 + 1 + 1 ≤ g := (h.lv.vlt g rfl).1
theorem AP.cells {w wx : World} {s : ByteArray} {v : Value} {acc : List T} {t : T} {p : Option Addr} {c g cap k : Nat} (h : AP w s v acc t p c g cap k wx) :
    (∃ u, wx.cell? ⟨g, acc.length * 2, none⟩ = some u) ∧ (∃ u, wx.cell? ⟨g, acc.length * 2 + 1, none⟩ = some u) ∧ (∀ j, wx.frozen? ⟨g, j, none⟩ = false) ∧ wx.cell? ⟨w.heap.size, 0, none⟩ = some v ∧ wx.frozen? ⟨w.heap.size, 0, none⟩ = false := by
  obtain ⟨xs, h1, _⟩ := h.lv.own
  rw [show (acc ++ [zeroT]).length = acc.length + 1 by simp] at h1
  have hl : xs.length = (acc.length + 1) * 2 := h1.1
  refine ⟨⟨xs[acc.length * 2], ?_⟩, ⟨xs[acc.length * 2 + 1], ?_⟩, h1.frozenAt, cell_of_row _ w.heap.size 0 _ 23 (0, 0) h.box.bl, frozen_of_row _ w.heap.size 0 _ 23 h.box.bl⟩
  · rw [h1.cellAt (acc.length * 2) (by omega)]; exact List.getElem?_eq_getElem _
  · rw [h1.cellAt (acc.length * 2 + 1) (by omega)]; exact List.getElem?_eq_getElem _
/-- the element's store -/
theorem AP.fill {w wx : World} {s : ByteArray} {v : Value} {acc : List T} {t : T} {p : Option Addr} {c g cap k : Nat} (h : AP w s v acc t p c g cap k wx) :
    RB ((wx.setCell ⟨g, acc.length * 2, none⟩ (.string t.a)).setCell ⟨g, acc.length * 2 + 1, none⟩ (.slice p t.ts.length c)) w.heap.size v (.int .i64 0) (.int .i64 0) ∧
    LV (w.heap.size + 1 + 1 + 1 + 1) ((wx.setCell ⟨g, acc.length * 2, none⟩ (.string t.a)).setCell ⟨g, acc.length * 2 + 1, none⟩ (.slice p t.ts.length c)) (.slice (some ⟨g, 0, none⟩) (acc.length + 1) cap) (acc ++ [t]) ∧
    PB ((wx.setCell ⟨g, acc.length * 2, none⟩ (.string t.a)).setCell ⟨g, acc.length * 2 + 1, none⟩ (.slice p t.ts.length c)) (w.heap.size + 1 + 1 + 1) s k ∧
    BK w ((wx.setCell ⟨g, acc.length * 2, none⟩ (.string t.a)).setCell ⟨g, acc.length * 2 + 1, none⟩ (.slice p t.ts.length c)) := by
  have hg := h.gl
  have blk : ∀ b, b < w.heap.size + 1 + 1 + 1 + 1 → ((wx.setCell ⟨g, acc.length * 2, none⟩ (.string t.a)).setCell ⟨g, acc.length * 2 + 1, none⟩ (.slice p t.ts.length c)).heap[b]? = wx.heap[b]? := fun b hb => by
    rw [heap_setCell_other _ ⟨g, _, none⟩ b _ (by show b ≠ g; omega), heap_setCell_other _ ⟨g, _, none⟩ b _ (by show b ≠ g; omega)]
  exact ⟨⟨(blk _ (by omega)).trans h.box.bl, (blk _ (by omega)).trans h.box.ba, (blk _ (by omega)).trans h.box.be⟩, LV.fill rfl h.lv h.row (fun b hb => hb), (blk _ (by omega)).trans h.pb, bk_set (bk_set h.bk _ _ (by show w.heap.size ≤ g; omega)) _ _ (by show w.heap.size ≤ g; omega)⟩
/-- the list's store -/
theorem RB.set0 {w : World} {b : Nat} {v x y : Value} (h : RB w b v x y) (v' : Value) : RB (w.setCell ⟨b, 0, none⟩ v') b v' x y := by
  refine ⟨?_, ?_, ?_⟩
  · rw [heap_setCell_same w b 0 _ 23 _ h.bl]; rfl
  · exact (heap_setCell_other w ⟨b, 0, none⟩ (b + 1) _ (by show b + 1 ≠ b; omega)).trans h.ba
  · exact (heap_setCell_other w ⟨b, 0, none⟩ (b + 1 + 1) _ (by show b + 1 + 1 ≠ b; omega)).trans h.be
theorem AP.end67 {w wx : World} {s : ByteArray} {v : Value} {acc : List T} {t : T} {p : Option Addr} {c g cap k fu : Nat} {RR : R (List T)} (h : AP w s v acc t p c g cap k wx) (al : (acc ++ [t]).length ≤ k) (il : k ≤ s.size) (fl : s.size - k < fu) (eq : alF (xo s) fu (acc ++ [t]) k = RR) :
    AL w s RR (.slice (some ⟨g, 0, none⟩) (acc.length + 1) cap) (acc ++ [t]) fu k (((wx.setCell ⟨g, acc.length * 2, none⟩ (.string t.a)).setCell ⟨g, acc.length * 2 + 1, none⟩ (.slice p t.ts.length c)).setCell ⟨w.heap.size, 0, none⟩ (.slice (some ⟨g, 0, none⟩) (acc.length + 1) cap)) := by
  obtain ⟨f1, f2, f3, f4⟩ := h.fill
  exact ⟨f1.set0 _, f2.step (step_set 0 _) (by omega), al, il, fl, eq, f3.setNe (by omega) 0 _, bk_set f4 _ _ (Nat.le_refl _)⟩
theorem AP.set0 {w wx : World} {s : ByteArray} {v : Value} {acc : List T} {t : T} {p : Option Addr} {c g cap k : Nat} (h : AP w s v acc t p c g cap k wx) (v' : Value) : AP w s v' acc t p c g cap k (wx.setCell ⟨w.heap.size, 0, none⟩ v') :=
  ⟨h.box.set0 _, h.lv.step (step_set 0 _) (by omega), h.row.keep fun b hb => ⟨heap_setCell_other _ ⟨w.heap.size, 0, none⟩ b _ (by have := hb.1; show b ≠ w.heap.size; omega), hb.1, by simpa [World.setCell] using hb.2.1, hb.2.2⟩, h.pb.setNe (by omega) 0 _, bk_set h.bk _ _ (Nat.le_refl _)⟩
theorem AP.end76 {w wx : World} {s : ByteArray} {v : Value} {acc : List T} {t : T} {p : Option Addr} {c g cap k fu : Nat} {RR : R (List T)} (h : AP w s v acc t p c g cap k wx) (al : (acc ++ [t]).length ≤ k) (il : k ≤ s.size) (fl : s.size - k < fu) (eq : alF (xo s) fu (acc ++ [t]) k = RR) :
    AL w s RR (.slice (some ⟨g, 0, none⟩) (acc.length + 1) cap) (acc ++ [t]) fu k (((wx.setCell ⟨w.heap.size, 0, none⟩ (.slice (some ⟨g, 0, none⟩) (acc.length + 1) cap)).setCell ⟨g, acc.length * 2, none⟩ (.string t.a)).setCell ⟨g, acc.length * 2 + 1, none⟩ (.slice p t.ts.length c)) := by
  obtain ⟨f1, f2, f3, f4⟩ := (h.set0 (.slice (some ⟨g, 0, none⟩) (acc.length + 1) cap)).fill
  exact ⟨f1, f2, al, il, fl, eq, f3, f4⟩
end Go.Proofs.Ytgiheheakgigkaa
