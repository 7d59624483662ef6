/- Remove of the reference. -/
import Derived.Test.YtjmmaaphadeokaaYA
import Derived.Test.YtjmmaaphadeokaaYB
import Derived.Lib.SmallJoins
namespace Go.Proofs.Ytjmmaaphadeokaa
open Go.RowKit Go.Shelf
set_option linter.unusedVariables false
set_option linter.unusedSimpArgs false
/-- what stays of k instructions and those behind them -/
def curL (out : List Int) (ins : List I6) (k : Nat) : List I6 := ins.take k ++ removeL out (ins.drop k)
theorem curL_succ (out : List Int) (ins : List I6) (k : Nat) (h : k < ins.length) : curL out ins (k + 1) = ins.take k ++ ins[k] :: removeL out (ins.drop (k + 1)) := by
  unfold curL
  rw [List.take_succ_eq_append_getElem h, List.append_assoc]; rfl
theorem curL_dead (out : List Int) (ins : List I6) (k : Nat) (h : k < ins.length) (hd : deadB ins[k] (removeL out (ins.drop (k + 1))) out = true) : curL out ins k = ins.take k ++ removeL out (ins.drop (k + 1)) := by
  unfold curL
  rw [List.drop_eq_getElem_cons h, removeL, if_pos hd]
theorem curL_live (out : List Int) (ins : List I6) (k : Nat) (h : k < ins.length) (hd : deadB ins[k] (removeL out (ins.drop (k + 1))) out = false) : curL out ins k = curL out ins (k + 1) := by
  rw [curL_succ out ins k h]
  unfold curL
  rw [List.drop_eq_getElem_cons h, removeL, if_neg (by rw [hd]; simp)]
theorem curL_mem (out : List Int) (ins : List I6) (k : Nat) : ∀ i ∈ curL out ins k, i ∈ ins := fun i h => by
  rcases List.mem_append.1 h with h | h
  · exact List.mem_of_mem_take h
  · exact List.mem_of_mem_drop (removeL_mem _ _ _ h)
theorem curL_len (out : List Int) (ins : List I6) (k : Nat) : (curL out ins k).length ≤ ins.length := by
  have := removeL_len out (ins.drop k)
  unfold curL; simp at *; omega
theorem dead_cut (W R : Int) (p q : Option Addr) (pc qc : Nat) (a : List I6) (i : I6) (t : List I6) (k : Nat) (ha : a.length = k) (out : List Int) (w : World) (hi : RI w p pc (a ++ i :: t)) (ho : RO w q qc out) (hv : Vd W R (a ++ i :: t) out) (lo : out.length ≤ 20) :
    Calls Try.prog 22 #[.agg #[.int .i64 W, .int .i64 R, .slice p (a ++ i :: t).length pc, .slice q out.length qc], .int .i64 (k : Int)] w fun e w' => e = .returned (.bool (deadB i t out)) ∧ BK w w' := by
  subst ha
  have hk : a.length < (a ++ i :: t).length := by simp
  have h := dead22_ok W R p q pc qc (a ++ i :: t) out w hi ho hv lo a.length hk
  have e1 : (a ++ i :: t)[a.length] = i := by simp
  have e2 : (a ++ i :: t).drop (a.length + 1) = t := by rw [List.drop_append]; simp
  rw [e1, e2] at h
  exact h
theorem without_cut (W R : Int) (p q : Option Addr) (pc qc m : Nat) (a : List I6) (i : I6) (t : List I6) (k : Nat) (ha : a.length = k) (w : World) (hi : RI w p pc (a ++ i :: t)) (li : (a ++ i :: t).length ≤ 300) :
    Calls Try.prog 42 #[.agg #[.int .i64 W, .int .i64 R, .slice p (a ++ i :: t).length pc, .slice q m qc], .int .i64 (k : Int)] w (CPQ w W R (a ++ t) q m qc) := by
  subst ha
  have h := without42 W R p q pc qc (a ++ i :: t) m w hi li a.length (by simp)
  rw [List.eraseIdx_append_of_length_le (Nat.le_refl _)] at h
  simp only [Nat.sub_self, List.eraseIdx_cons_zero] at h
  exact h
/-- a block of four cells holds no instruction -/
theorem RI.off {w : World} {p : Option Addr} {c : Nat} {l : List I6} (h : RI w p c l) {B : Nat} {x0 x1 x2 x3 : Value} (h4 : W4 w B x0 x1 x2 x3) {k : Nat} (hk : k < l.length) {b o : Nat} (hp : p = some ⟨b, o, none⟩) : b ≠ B := by
  rintro rfl
  obtain ⟨b', o', e, hc⟩ := h.get k hk
  rw [hp] at e
  simp only [Option.some.injEq, Addr.mk.injEq] at e
  obtain ⟨rfl, rfl, -⟩ := e
  have := hc.2.2.2.2.2
  rw [cell_of_row _ _ _ _ _ _ h4.h] at this
  simp at this
theorem ri_at {w w' : World} {p : Option Addr} {c : Nat} {l : List I6} (h : RI w p c l) {B : Nat} {x0 x1 x2 x3 : Value} (h4 : W4 w B x0 x1 x2 x3) (hk : ∀ a : Addr, a.block ≠ B → w'.cell? a = w.cell? a) : RI w' p c l :=
  ⟨h.nl, h.le, fun k hl => by
    obtain ⟨b, o, h1, h2⟩ := h.get k hl
    have hb := h.off h4 hl h1
    refine ⟨b, o, h1, ?_⟩
    unfold A6 at *
    rw [hk _ hb, hk _ hb, hk _ hb, hk _ hb, hk _ hb, hk _ hb]
    exact h2⟩
/-- four stores into a box -/
def put4 (w : World) (B : Nat) (y0 y1 y2 y3 : Value) : World := (((w.setCell ⟨B, 0, none⟩ y0).setCell ⟨B, 1, none⟩ y1).setCell ⟨B, 2, none⟩ y2).setCell ⟨B, 3, none⟩ y3
theorem put4_cell (w : World) (B : Nat) (y0 y1 y2 y3 : Value) (a : Addr) (h : a.block ≠ B) : (put4 w B y0 y1 y2 y3).cell? a = w.cell? a := by
  unfold put4
  have h' : B ≠ a.block := fun e => h e.symm
  rw [World.cell?_setCell_far _ _ _ _ h', World.cell?_setCell_far _ _ _ _ h', World.cell?_setCell_far _ _ _ _ h', World.cell?_setCell_far _ _ _ _ h']
theorem put4_w4 {w : World} {B : Nat} {x0 x1 x2 x3 : Value} (h : W4 w B x0 x1 x2 x3) (y0 y1 y2 y3 : Value) : W4 (put4 w B y0 y1 y2 y3) B y0 y1 y2 y3 :=
  ⟨by have := Go.Joins.block_setCell (i := 3) (Go.Joins.block_setCell (i := 2) (Go.Joins.block_setCell (i := 1) (Go.Joins.block_setCell (i := 0) h.h y0) y1) y2) y3; exact this⟩
theorem put4_other {w : World} {B C : Nat} {x0 x1 x2 x3 : Value} (h : W4 w C x0 x1 x2 x3) (hne : C ≠ B) (y0 y1 y2 y3 : Value) : W4 (put4 w B y0 y1 y2 y3) C x0 x1 x2 x3 :=
  ⟨by
    unfold put4
    rw [heap_setCell_other _ _ _ _ hne, heap_setCell_other _ _ _ _ hne, heap_setCell_other _ _ _ _ hne, heap_setCell_other _ _ _ _ hne]
    exact h.h⟩
theorem put4_bk {w0 w : World} (h : BK w0 w) (B : Nat) (hB : w0.heap.size ≤ B) (y0 y1 y2 y3 : Value) : BK w0 (put4 w B y0 y1 y2 y3) :=
  bk_set (bk_set (bk_set (bk_set h _ _ hB) _ _ hB) _ _ hB) _ _ hB
/-- the state of the loop -/
structure RS2 (w : World) (W R : Int) (q : Option Addr) (m qc : Nat) (L : List I6) (wr : World) : Prop where
  bk : BK w wr
  box : ∃ p' pc', RI wr p' pc' L ∧ W4 wr w.heap.size (.int .i64 W) (.int .i64 R) (.slice p' L.length pc') (.slice q m qc)
  res : W4 wr (w.heap.size + 1) (.int .i64 0) (.int .i64 0) (.slice none 0 0) (.slice none 0 0)
theorem RS2.put {w : World} {W R : Int} {q : Option Addr} {m qc : Nat} {L L' : List I6} {wr w' : World} (h : RS2 w W R q m qc L wr) (hb : BK wr w') {p' : Option Addr} {pc' : Nat} (hi : RI w' p' pc' L') :
    RS2 w W R q m qc L' (put4 w' w.heap.size (.int .i64 W) (.int .i64 R) (.slice p' L'.length pc') (.slice q m qc)) := by
  obtain ⟨p0, c0, h1, h2⟩ := h.box
  have h2' := h2.keep hb
  exact ⟨put4_bk (bk_tr h.bk hb) _ (Nat.le_refl _) _ _ _ _, ⟨p', pc', ri_at hi h2' (fun a ha => put4_cell _ _ _ _ _ _ a ha), put4_w4 h2' _ _ _ _⟩, put4_other (h.res.keep hb) (by omega) _ _ _ _⟩
theorem RS2.keep {w : World} {W R : Int} {q : Option Addr} {m qc : Nat} {L : List I6} {wr w' : World} (h : RS2 w W R q m qc L wr) (hb : BK wr w') : RS2 w W R q m qc L w' := by
  obtain ⟨p0, c0, h1, h2⟩ := h.box
  exact ⟨bk_tr h.bk hb, ⟨p0, c0, h1.keep hb, h2.keep hb⟩, h.res.keep hb⟩
set_option maxRecDepth 100000 in
set_option maxHeartbeats 1000000 in
theorem remove20_err (W R : Int) (p q : Option Addr) (pc qc : Nat) (ins : List I6) (out : List Int) (w : World) (hi : RI w p pc ins) (ho : RO w q qc out) (li : ins.length ≤ 1000) (lo : out.length ≤ 1000) (hx : chkE W R ins out ≠ 0) : Calls Try.prog 20 #[.agg #[.int .i64 W, .int .i64 R, .slice p ins.length pc, .slice q out.length qc]] w (ZP (chkE W R ins out) w) := by
  have hz := W4.new (w.alloc (.cells #[.int .i64 W, .int .i64 R, .slice p ins.length pc, .slice q out.length qc] 25)) (.int .i64 0) (.int .i64 0) (.slice none 0 0) (.slice none 0 0)
  rw [sz1] at hz
  have b4 := (b4_new w (.int .i64 W) (.int .i64 R) (.slice p ins.length pc) (.slice q out.length qc) 25).keep (bk_alloc (BK.refl _) (.cells #[.int .i64 0, .int .i64 0, .slice none 0 0, .slice none 0 0] 25))
  have k0 := bk_alloc (bk_alloc (BK.refl w) (.cells #[.int .i64 W, .int .i64 R, .slice p ins.length pc, .slice q out.length qc] 25)) (.cells #[.int .i64 0, .int .i64 0, .slice none 0 0, .slice none 0 0] 25)
  have C30 := Lib.hid (fun (wc : World) (hb : BK w wc) => rchk28 W R p q pc qc ins out wc (hi.keep hb) (ho.keep hb) li lo)
  have hn : (chkE W R ins out != 0) = true := by simpa using hx
  clear hi ho hx
  generalize chkE W R ins out = x at C30 hn ⊢
  go_enter Try.func20, Try.ntmps20
  go_upto_region 1 with (fail)
  generalize (w.alloc (.cells #[.int .i64 W, .int .i64 R, .slice p ins.length pc, .slice q out.length qc] 25)).alloc (.cells #[.int .i64 0, .int .i64 0, .slice none 0 0, .slice none 0 0] 25) = w0 at b4 hz k0 ⊢
  have HZ := Lib.hid hz
  have K0 := Lib.hid k0
  obtain ⟨c0, c1, c2, c3⟩ := b4
  clear hz k0
  go_wp2_with fail
  refine (C30.out w0 K0.out).mono ?_
  rintro e w1 ⟨rfl, hb1⟩
  have K1 := Lib.hid (bk_tr K0.out hb1)
  have J1 := Lib.hid hb1
  clear hb1 c0 c1 c2 c3
  obtain ⟨⟨z0, z1, z2, z3⟩, g0, g1, g2, g3⟩ := (HZ.out.keep J1.out).cells
  go_wp2_with fail
  refine bodyPost_ret (v := .tuple #[.agg #[.int .i64 0, .int .i64 0, .slice none 0 0, .slice none 0 0], .int .i64 x]) (by simp [results, Try.results20, go_sem, z0, z1, z2, z3]) rfl ⟨rfl, ?_⟩
  repeat (first | exact K1.out | refine bk_set ?_ _ _ (by show w.heap.size ≤ w.heap.size + 1; omega))
end Go.Proofs.Ytjmmaaphadeokaa
