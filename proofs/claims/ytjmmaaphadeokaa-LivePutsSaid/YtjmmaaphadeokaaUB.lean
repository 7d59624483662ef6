/- Remove; writable cells. -/
import Derived.Test.YtjmmaaphadeokaaUA
namespace Go.Proofs.Ytjmmaaphadeokaa
open Go.RowKit Go.Shelf
set_option linter.unusedVariables false
set_option linter.unusedSimpArgs false
/-- four cells that may be written -/
structure W4 (w : World) (b : Nat) (x0 x1 x2 x3 : Value) : Prop where
  h : w.heap[b]? = some (.cells #[x0, x1, x2, x3] 25 (0, 0))
theorem W4.cells {w : World} {b : Nat} {x0 x1 x2 x3 : Value} (h : W4 w b x0 x1 x2 x3) : (w.cell? ⟨b, 0, none⟩ = some x0 ∧ w.cell? ⟨b, 1, none⟩ = some x1 ∧ w.cell? ⟨b, 2, none⟩ = some x2 ∧ w.cell? ⟨b, 3, none⟩ = some x3) ∧ (w.frozen? ⟨b, 0, none⟩ = false ∧ w.frozen? ⟨b, 1, none⟩ = false ∧ w.frozen? ⟨b, 2, none⟩ = false ∧ w.frozen? ⟨b, 3, none⟩ = false) := by
  have h := h.h
  refine ⟨⟨?_, ?_, ?_, ?_⟩, ?_, ?_, ?_, ?_⟩
  · rw [cell_of_row _ _ _ _ _ _ h]; rfl
  · rw [cell_of_row _ _ _ _ _ _ h]; rfl
  · rw [cell_of_row _ _ _ _ _ _ h]; rfl
  · rw [cell_of_row _ _ _ _ _ _ h]; rfl
  all_goals simp [World.frozen?, h]
theorem W4.lt {w : World} {b : Nat} {x0 x1 x2 x3 : Value} (h : W4 w b x0 x1 x2 x3) : b < w.heap.size := (Array.getElem?_eq_some_iff.1 h.h).1
theorem W4.keep {w w' : World} {b : Nat} {x0 x1 x2 x3 : Value} (h : W4 w b x0 x1 x2 x3) (hb : BK w w') : W4 w' b x0 x1 x2 x3 := ⟨(bk_block hb h.lt).trans h.h⟩
theorem W4.new (w : World) (x0 x1 x2 x3 : Value) : W4 (w.alloc (.cells #[x0, x1, x2, x3] 25)) w.heap.size x0 x1 x2 x3 := ⟨heap_alloc_new w _⟩
theorem W4.b4 {w : World} {b : Nat} {x0 x1 x2 x3 : Value} (h : W4 w b x0 x1 x2 x3) : B4 w b x0 x1 x2 x3 := h.cells.1
theorem W4.range {w : World} {b : Nat} {x0 x1 x2 x3 : Value} (h : W4 w b x0 x1 x2 x3) : w.there b 0 4 := there4 h.h
/-- nothing but an error comes back -/
def ZP (x : Int) (w : World) (e : Ending) (w' : World) : Prop := e = .returned (.tuple #[.agg #[.int .i64 0, .int .i64 0, .slice none 0 0, .slice none 0 0], .int .i64 x]) ∧ BK w w'
set_option maxRecDepth 100000 in
set_option maxHeartbeats 1000000 in
theorem remove19_err (W R : Int) (p q : Option Addr) (pc qc : Nat) (ins : List I6) (out : List Int) (w : World) (hi : RI w p pc ins) (ho : RO w q qc out) (li : ins.length ≤ 1000) (lo : out.length ≤ 1000) (hx : chkE W R ins out ≠ 0) : Calls Try.prog 19 #[.agg #[.int .i64 W, .int .i64 R, .slice p ins.length pc, .slice q out.length qc]] w (ZP (chkE W R ins out) w) := by
  have b4 := (b4_new w (.int .i64 W) (.int .i64 R) (.slice p ins.length pc) (.slice q out.length qc) 25).keep (bk_alloc (BK.refl _) (.cells #[.int .i64 0, .int .i64 0, .slice none 0 0, .slice none 0 0] 25))
  have hz := W4.new (w.alloc (.cells #[.int .i64 W, .int .i64 R, .slice p ins.length pc, .slice q out.length qc] 25)) (.int .i64 0) (.int .i64 0) (.slice none 0 0) (.slice none 0 0)
  rw [sz1] at hz
  have k0 := bk_alloc (bk_alloc (BK.refl w) (.cells #[.int .i64 W, .int .i64 R, .slice p ins.length pc, .slice q out.length qc] 25)) (.cells #[.int .i64 0, .int .i64 0, .slice none 0 0, .slice none 0 0] 25)
  have C30 := Lib.hid (fun (wc : World) (hb : BK w wc) => chk30 W R p q pc qc ins out wc (hi.keep hb) (ho.keep hb) li lo)
  have hn : (chkE W R ins out != 0) = true := by simpa using hx
  clear hi ho hx
  generalize chkE W R ins out = x at C30 hn ⊢
  go_enter Try.func19, Try.ntmps19
  go_upto_region 1 with (fail)
  generalize (w.alloc (.cells #[.int .i64 W, .int .i64 R, .slice p ins.length pc, .slice q out.length qc] 25)).alloc (.cells #[.int .i64 0, .int .i64 0, .slice none 0 0, .slice none 0 0] 25) = w0 at b4 hz k0 ⊢
  obtain ⟨c0, c1, c2, c3⟩ := b4
  have HZ := Lib.hid hz
  have K0 := Lib.hid k0
  clear hz k0
  go_wp2_with fail
  refine (C30.out w0 K0.out).mono ?_
  rintro e w1 ⟨rfl, hb1⟩
  obtain ⟨⟨z0, z1, z2, z3⟩, f0, f1, f2, f3⟩ := (HZ.out.keep hb1).cells
  have K1 := Lib.hid (bk_tr K0.out hb1)
  clear hb1 c0 c1 c2 c3
  go_wp2_with fail
  refine bodyPost_ret (v := .tuple #[.agg #[.int .i64 0, .int .i64 0, .slice none 0 0, .slice none 0 0], .int .i64 x]) (by simp [results, Try.results19, go_sem, z0, z1, z2, z3]) rfl ⟨rfl, ?_⟩
  repeat (first | exact K1.out | refine bk_set ?_ _ _ (by show w.heap.size ≤ w.heap.size + 1; omega))
theorem remove19 (W R : Int) (p q : Option Addr) (pc qc : Nat) (ins : List I6) (out : List Int) (w : World) (hi : RI w p pc ins) (ho : RO w q qc out) (li : ins.length ≤ 1000) (lo : out.length ≤ 20) :
    Calls Try.prog 19 #[.agg #[.int .i64 W, .int .i64 R, .slice p ins.length pc, .slice q out.length qc]] w (fun e w' => (chkE W R ins out = 0 ∧ RP w W R (removeL out ins) out e w') ∨ (chkE W R ins out ≠ 0 ∧ ZP (chkE W R ins out) w e w')) := by
  by_cases h : chkE W R ins out = 0
  · exact (remove19_ok W R p q pc qc ins out w hi ho lo (chk_zero.1 h)).mono fun e w' h2 => .inl ⟨h, h2⟩
  · exact (remove19_err W R p q pc qc ins out w hi ho li (by omega) h).mono fun e w' h2 => .inr ⟨h, h2⟩
/-! Dead -/
def deadAt (W R : Int) (ins : List I6) (out : List Int) (x : Int) : Bool :=
  if h : chkE W R ins out = 0 ∧ 0 ≤ x ∧ x < ins.length then deadB (ins[x.toNat]'(by omega)) (ins.drop (x.toNat + 1)) out else false
theorem rs_get {w : World} {g n : Nat} {ins : List I6} {out : List Int} (h : RS w g n ins out 0) {k : Nat} (hk : k < n) : w.rangeAt g (k * 8) (bs (lvL (ins.drop k) out)) := h.at_ k (Nat.zero_le _) hk
end Go.Proofs.Ytjmmaaphadeokaa
