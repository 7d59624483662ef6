/- The kit: what stays, boxes, lists of numbers and instructions in memory. -/
import Derived.Test.YtneidfbgdgegjaaGreatDoorProg
import Derived.Test.YtneidfbgdgegjaaGreatDoorPC
import Derived.WalkKit
import Derived.WalkSpells
import Derived.WalkLawsBesides
import Derived.Lib.Hide
import Derived.RowKit
import Derived.Below
import Derived.Laws.Rows
import Derived.Deep.WholeRow
import Derived.Deep.MidRow
import Derived.Laws.AppendOwnNone
import Derived.Maps.Own
import Derived.Deep.DeepCutAuto
import Derived.Deep.DeepMust
import Derived.Deep.AppendLies
import Derived.Deep.RegionHeld3
import Derived.Deep.RegionWith
import Derived.Deep.QuietTactic
import Derived.BigQuiet
import Derived.WalkSmall
import Derived.IntWalk
import Derived.OneCell
namespace Go.Proofs.YtneidfbgdgegjaaGreatDoor
open Go.RowKit
set_option linter.unusedVariables false
set_option linter.unusedSimpArgs false
theorem ret_bool {a b : Bool} (h : a = b) : Ending.returned (.bool a) = .returned (.bool b) := by rw [h]
theorem ret_int {k : IntKind} {a b : Int} (h : a = b) : Ending.returned (.int k a) = .returned (.int k b) := by rw [h]
def BK (w0 w' : World) : Prop := Below w0.heap.size w0 w'
theorem BK.refl (w : World) : BK w w := Below.refl _ _
theorem BK.bl {a b : World} (h : BK a b) : Below a.heap.size a b := h
theorem bk_tr {a b c : World} (h : BK a b) (k : BK b c) : BK a c := Below.trans h (Below.mono k h.bl.size)
theorem bk_drew {w0 wc : World} (h : BK w0 wc) : BK w0 wc.drew := ⟨h.os, h.tape, h.output, h.size, h.block⟩
theorem bk_drewN {a b : World} (h : BK a b) (q : Nat) : BK a (b.drewN q) := ⟨h.os, h.tape, h.output, h.size, h.block⟩
theorem of_drew {a b : World} (h : BK a.drew b) : BK a b := ⟨h.os, h.tape, h.output, h.size, h.block⟩
theorem bk_alloc {w0 w : World} (h : BK w0 w) (o : Obj) : BK w0 (w.alloc o) := h.bl.alloc h.bl.size o
theorem bk_size {w0 w : World} (h : BK w0 w) : w0.heap.size ≤ w.heap.size := h.bl.size
theorem bk_set {w0 w : World} (h : BK w0 w) (p : Addr) (x : Value) (hp : w0.heap.size ≤ p.block) : BK w0 (w.setCell p x) := h.bl.setCell hp x
theorem bk_block {w0 w : World} (h : BK w0 w) {b : Nat} (hb : b < w0.heap.size) : w.heap[b]? = w0.heap[b]? := h.bl.block b hb
theorem box_lt (w : World) (cs : Array Value) (T : Nat) : w.heap.size < (w.alloc (.cells cs T)).heap.size := by simp
theorem sz1 (w : World) (o : Obj) : (w.alloc o).heap.size = w.heap.size + 1 := by simp
theorem below_alloc (w : World) (o : Obj) : Below w.heap.size w (w.alloc o) := (Below.refl _ _).alloc (Nat.le_refl _) o
theorem own_at {w w' : World} {B e sz n : Nat} {v : Value} {xs : List Value} (o : w.ownsRow B e sz v n xs) (h : ∀ k, v.ownBlock = some k → w'.heap[k]? = w.heap[k]?) : w'.ownsRow B e sz v n xs := by
  refine ⟨o.1, ?_⟩
  rcases o.2 with hn | ⟨g, cap, cur, hv, hb, hg, rest⟩
  · exact .inl hn
  · exact .inr ⟨g, cap, cur, hv, hb, (h g (by rw [hv]; rfl)).trans hg, rest⟩
theorem own_below {w w' : World} {B e sz n : Nat} {v : Value} {xs : List Value} (o : w.ownsRow B e sz v n xs) (hb : BK w w') : w'.ownsRow B e sz v n xs :=
  own_at o fun k hk => hb.bl.block k (o.lt k hk).2
theorem own_set {w : World} {B e sz n : Nat} {v : Value} {xs : List Value} (o : w.ownsRow B e sz v n xs) (p : Addr) (x : Value) (hp : p.block < B) : (w.setCell p x).ownsRow B e sz v n xs :=
  own_at o fun k hk => Below.heap_setCell w p x k (by have := (o.lt k hk).1; omega)
theorem own_mono {w : World} {B B' e sz n : Nat} {v : Value} {xs : List Value} (o : w.ownsRow B e sz v n xs) (h : B' ≤ B) : w.ownsRow B' e sz v n xs := by
  refine ⟨o.1, ?_⟩
  rcases o.2 with hn | ⟨g, cap, cur, hv, hb, rest⟩
  · exact .inl hn
  · exact .inr ⟨g, cap, cur, hv, Nat.le_trans h hb, rest⟩
theorem own_shape {w : World} {B e sz n : Nat} {v : Value} {xs : List Value} (h : w.ownsRow B e sz v n xs) : ∃ p c, v = .slice p n c := by
  rcases h.2 with ⟨hv, h0⟩ | ⟨g, cap, cur, hv, _⟩
  · exact ⟨none, 0, by rw [hv, h0]⟩
  · exact ⟨_, cap, hv⟩
theorem own_cast {w : World} {B e sz n m : Nat} {v : Value} {xs ys : List Value} (h : w.ownsRow B e sz v n xs) (e1 : n = m) (e2 : xs = ys) : w.ownsRow B e sz v m ys := by subst e1 e2; exact h
theorem wp_region_class {P : Program} {C : World → Prop} {id : Nat} {Q : Exit → Act → World → Prop} {a : Act} {w : World} {l : List Oper} (hm : P.follows .mixedOrders = true) (hB : Region.lexB .any l.toArray = true) (hC : C w.drew)
    (h : wpQuiet P l.toArray C (fun a' => ∀ w', C w' → Q .normal a' w') l a) : (Code.region id l.toArray true).wp P Q a w :=
  wp_region_quiet hm hB hC (by simpa using h)
/-- n cells from a place on -/
def Cs (w : World) (b o : Nat) (l : List Value) : Prop := ∀ j (h : j < l.length), w.cell? ⟨b, o + j, none⟩ = some l[j]
theorem Cs.keep {w w' : World} {b o : Nat} {l : List Value} (h : Cs w b o l) (hb : BK w w') : Cs w' b o l := fun j hj =>
  (hb.bl.cell (p := ⟨b, o + j, none⟩) (World.block_lt_of_cell? w _ (h j hj))).trans (h j hj)
theorem Cs.new (w : World) (l : List Value) (T : Nat) : Cs (w.alloc (.cells l.toArray T)) w.heap.size 0 l := fun j hj => by
  rw [World.cell?_alloc_new]; simp [hj]
/-- the four cells of a boxed program -/
def B4 (w : World) (b : Nat) (x0 x1 x2 x3 : Value) : Prop := w.cell? ⟨b, 0, none⟩ = some x0 ∧ w.cell? ⟨b, 1, none⟩ = some x1 ∧ w.cell? ⟨b, 2, none⟩ = some x2 ∧ w.cell? ⟨b, 3, none⟩ = some x3
theorem b4_new (w : World) (x0 x1 x2 x3 : Value) (T : Nat) : B4 (w.alloc (.cells #[x0, x1, x2, x3] T)) w.heap.size x0 x1 x2 x3 := by
  refine ⟨?_, ?_, ?_, ?_⟩ <;> (rw [World.cell?_alloc_new]; rfl)
theorem B4.keep {w w' : World} {b : Nat} {x0 x1 x2 x3 : Value} (h : B4 w b x0 x1 x2 x3) (hb : BK w w') : B4 w' b x0 x1 x2 x3 := by
  have hl : b < w.heap.size := World.block_lt_of_cell? w _ h.1
  obtain ⟨a0, a1, a2, a3⟩ := h
  exact ⟨(hb.bl.cell (p := ⟨b, 0, none⟩) hl).trans a0, (hb.bl.cell (p := ⟨b, 1, none⟩) hl).trans a1, (hb.bl.cell (p := ⟨b, 2, none⟩) hl).trans a2, (hb.bl.cell (p := ⟨b, 3, none⟩) hl).trans a3⟩
/-- the six cells of an instruction, from a place on -/
def A6 (w : World) (b o : Nat) (i : I6) : Prop := w.cell? ⟨b, o, none⟩ = some (.int .i64 i.op) ∧ w.cell? ⟨b, o + 1, none⟩ = some (.int .i64 i.dst) ∧ w.cell? ⟨b, o + 2, none⟩ = some (.int .i64 i.a) ∧ w.cell? ⟨b, o + 3, none⟩ = some (.int .i64 i.b) ∧ w.cell? ⟨b, o + 4, none⟩ = some (.int .i64 i.c) ∧ w.cell? ⟨b, o + 5, none⟩ = some (.int .u64 i.imm)
theorem A6.keep {w w' : World} {b o : Nat} {i : I6} (h : A6 w b o i) (hb : BK w w') : A6 w' b o i := by
  have hl : b < w.heap.size := World.block_lt_of_cell? w _ h.1
  obtain ⟨a0, a1, a2, a3, a4, a5⟩ := h
  exact ⟨(hb.bl.cell (p := ⟨b, o, none⟩) hl).trans a0, (hb.bl.cell (p := ⟨b, o + 1, none⟩) hl).trans a1, (hb.bl.cell (p := ⟨b, o + 2, none⟩) hl).trans a2, (hb.bl.cell (p := ⟨b, o + 3, none⟩) hl).trans a3, (hb.bl.cell (p := ⟨b, o + 4, none⟩) hl).trans a4, (hb.bl.cell (p := ⟨b, o + 5, none⟩) hl).trans a5⟩
/-- a boxed instruction: its cells with their own numbers -/
def X6 (w : World) (b : Nat) (i : I6) : Prop := w.cell? ⟨b, 0, none⟩ = some (.int .i64 i.op) ∧ w.cell? ⟨b, 1, none⟩ = some (.int .i64 i.dst) ∧ w.cell? ⟨b, 2, none⟩ = some (.int .i64 i.a) ∧ w.cell? ⟨b, 3, none⟩ = some (.int .i64 i.b) ∧ w.cell? ⟨b, 4, none⟩ = some (.int .i64 i.c) ∧ w.cell? ⟨b, 5, none⟩ = some (.int .u64 i.imm)
theorem x6_new (w : World) (i : I6) (T : Nat) : X6 (w.alloc (.cells #[.int .i64 i.op, .int .i64 i.dst, .int .i64 i.a, .int .i64 i.b, .int .i64 i.c, .int .u64 i.imm] T)) w.heap.size i := by
  refine ⟨?_, ?_, ?_, ?_, ?_, ?_⟩ <;> (rw [World.cell?_alloc_new]; rfl)
theorem X6.keep {w w' : World} {b : Nat} {i : I6} (h : X6 w b i) (hb : BK w w') : X6 w' b i := by
  have h1 : A6 w b 0 i := by simpa [A6, X6] using h
  simpa [A6, X6] using h1.keep hb
/-- the cells of instructions -/
def cells6 (i : I6) : List Value := [.int .i64 i.op, .int .i64 i.dst, .int .i64 i.a, .int .i64 i.b, .int .i64 i.c, .int .u64 i.imm]
def flat6 (l : List I6) : List Value := l.flatMap cells6
theorem flat6_len (l : List I6) : (flat6 l).length = l.length * 6 := by
  induction l with
  | nil => rfl
  | cons i t ih => simp only [flat6, List.flatMap_cons, List.length_append] at *; rw [ih]; simp [cells6]; omega
theorem flat6_app (l m : List I6) : flat6 (l ++ m) = flat6 l ++ flat6 m := by simp [flat6]
theorem flat6_get : ∀ (l : List I6) (k : Nat) (h : k < l.length) (j : Nat) (hj : j < 6), (flat6 l)[k * 6 + j]? = (cells6 l[k])[j]?
  | i :: t, 0, _, j, hj => by simp only [flat6, List.flatMap_cons, Nat.zero_mul, Nat.zero_add]; rw [List.getElem?_append_left (by simp [cells6]; omega)]; rfl
  | i :: t, k + 1, h, j, hj => by
    have := flat6_get t k (by simpa using h) j hj
    simp only [flat6, List.flatMap_cons] at *
    rw [List.getElem?_append_right (by simp [cells6]; omega)]
    rw [show (k + 1) * 6 + j - (cells6 i).length = k * 6 + j by simp [cells6]; omega]
    simpa using this
/-- the instructions behind a slice -/
structure RI (w : World) (p : Option Addr) (c : Nat) (l : List I6) : Prop where
  nl : p = none → c = 0
  le : l.length ≤ c
  get : ∀ k (h : k < l.length), ∃ b o, p = some ⟨b, o, none⟩ ∧ A6 w b (o + k * 6) l[k]
theorem RI.keep {w w' : World} {p : Option Addr} {c : Nat} {l : List I6} (h : RI w p c l) (hb : BK w w') : RI w' p c l :=
  ⟨h.nl, h.le, fun k hk => by obtain ⟨b, o, h1, h2⟩ := h.get k hk; exact ⟨b, o, h1, h2.keep hb⟩⟩
/-- the numbers behind a slice -/
structure RO (w : World) (p : Option Addr) (c : Nat) (l : List Int) : Prop where
  nl : p = none → c = 0
  le : l.length ≤ c
  get : ∀ k (h : k < l.length), ∃ b o, p = some ⟨b, o, none⟩ ∧ w.cell? ⟨b, o + k, none⟩ = some (.int .i64 l[k])
theorem RO.keep {w w' : World} {p : Option Addr} {c : Nat} {l : List Int} (h : RO w p c l) (hb : BK w w') : RO w' p c l :=
  ⟨h.nl, h.le, fun k hk => by obtain ⟨b, o, h1, h2⟩ := h.get k hk; exact ⟨b, o, h1, (hb.bl.cell (p := ⟨b, o + k, none⟩) (World.block_lt_of_cell? w _ h2)).trans h2⟩⟩
def ints (zs : List Int) : List Value := zs.map (Value.int .i64)
/-- a row of the call's own, read -/
theorem RO.own {w : World} {B e n c : Nat} {p : Option Addr} {l : List Int} (h : w.ownsRow B e 1 (.slice p n c) l.length (ints l)) : RO w p c l := by
  rcases h.2 with ⟨hv, h0⟩ | ⟨g, cap, cur, hv, hb, hg, h1, h2, h3, h4⟩
  · simp only [Value.slice.injEq] at hv
    obtain ⟨rfl, rfl, rfl⟩ := hv
    exact ⟨fun _ => rfl, by omega, fun k hk => by omega⟩
  · have hc := fun k (hk : k < l.length) => World.ownsRow.cellAt (g := g) (cap := cap) (by rw [hv] at h; exact h) k (by simpa using hk)
    simp only [Value.slice.injEq] at hv
    obtain ⟨rfl, rfl, rfl⟩ := hv
    refine ⟨fun h => (by cases h), by omega, fun k hk => ⟨g, 0, rfl, ?_⟩⟩
    rw [Nat.zero_add, hc k hk]
    simp [ints]
theorem RI.own {w : World} {B e n c : Nat} {p : Option Addr} {l : List I6} (h : w.ownsRow B e 6 (.slice p n c) l.length (flat6 l)) : RI w p c l := by
  rcases h.2 with ⟨hv, h0⟩ | ⟨g, cap, cur, hv, hb, hg, h1, h2, h3, h4⟩
  · simp only [Value.slice.injEq] at hv
    obtain ⟨rfl, rfl, rfl⟩ := hv
    exact ⟨fun _ => rfl, by omega, fun k hk => by omega⟩
  · have hc := fun k u (hu : (flat6 l)[k]? = some u) => World.ownsRow.cells h (g := g) (by rw [hv]; rfl) k u hu
    simp only [Value.slice.injEq] at hv
    obtain ⟨rfl, rfl, rfl⟩ := hv
    refine ⟨fun h => (by cases h), by omega, fun k hk => ⟨g, 0, rfl, ?_⟩⟩
    have hd : ∀ j (hj : j < 6), w.cell? ⟨g, 0 + k * 6 + j, none⟩ = (cells6 l[k])[j]? := by
      intro j hj
      have hu : (cells6 l[k])[j]? = some ((cells6 l[k])[j]'(by simp [cells6]; omega)) := List.getElem?_eq_getElem _
      have := hc (k * 6 + j) _ ((flat6_get l k hk j hj).trans hu)
      rw [show (⟨g, 0, none⟩ : Addr).add (k * 6 + j) = ⟨g, 0 + (k * 6 + j), none⟩ from Go.WideShapes.add_plain _ _ _] at this
      rw [show 0 + k * 6 + j = 0 + (k * 6 + j) by omega, this, hu]
    exact ⟨hd 0 (by omega), hd 1 (by omega), hd 2 (by omega), hd 3 (by omega), hd 4 (by omega), hd 5 (by omega)⟩
end Go.Proofs.YtneidfbgdgegjaaGreatDoor
