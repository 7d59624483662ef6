/- The kit: what stays, links in memory, maps of numbers, the forest. -/
import Derived.Test.YtpnjmkmobdaefaaRows
import Derived.Test.YtpnjmkmobdaefaaU
import Derived.WalkKit
import Derived.WalkSpells
import Derived.WalkLawsBesides
import Derived.Lib.Hide
import Derived.RowKit
import Derived.Below
import Derived.Laws.Rows
import Derived.Deep.DeepMust
import Derived.Deep.AppendLies
import Derived.Deep.RegionHeld3
import Derived.Deep.RegionWith
import Derived.Deep.QuietTactic
import Derived.BigQuiet
import Derived.WalkSmall
import Derived.IntWalk
import Derived.OneCell
import Derived.LaidEqlPtr
import Derived.Maps.Own
import Derived.Maps.OwnOps
import Derived.Maps.OwnSet
import Derived.Maps.Views
import Derived.Lib.SmallJoins
namespace Go.Proofs.Ytpnjmkmobdaefaa
open Go.RowKit Go.Maps
set_option linter.unusedVariables false
set_option linter.unusedSimpArgs false
theorem ret_bool {a b : Bool} (h : a = b) : Ending.returned (.bool a) = .returned (.bool b) := by rw [h]
theorem ret_int {k : IntKind} {a b : Int} (h : a = b) : Ending.returned (.int k a) = .returned (.int k b) := by rw [h]
def BK (w0 w' : World) : Prop := Below w0.heap.size w0 w'
theorem BK.refl (w : World) : BK w w := Below.refl _ _
theorem BK.bl {a b : World} (h : BK a b) : Below a.heap.size a b := h
theorem bk_tr {a b c : World} (h : BK a b) (k : BK b c) : BK a c := Below.trans h (Below.mono k h.bl.size)
theorem bk_drew {w0 wc : World} (h : BK w0 wc) : BK w0 wc.drew := ⟨h.os, h.tape, h.output, h.size, h.block⟩
theorem bk_drewN {a b : World} (h : BK a b) (q : Nat) : BK a (b.drewN q) := ⟨h.os, h.tape, h.output, h.size, h.block⟩
theorem of_drew {a b : World} (h : BK a.drew b) : BK a b := ⟨h.os, h.tape, h.output, h.size, h.block⟩
theorem bk_alloc {w0 w : World} (h : BK w0 w) (o : Obj) : BK w0 (w.alloc o) := h.bl.alloc h.bl.size o
theorem bk_size {w0 w : World} (h : BK w0 w) : w0.heap.size ≤ w.heap.size := h.bl.size
theorem bk_set {w0 w : World} (h : BK w0 w) (p : Addr) (x : Value) (hp : w0.heap.size ≤ p.block) : BK w0 (w.setCell p x) := h.bl.setCell hp x
theorem bk_block {w0 w : World} (h : BK w0 w) {b : Nat} (hb : b < w0.heap.size) : w.heap[b]? = w0.heap[b]? := h.bl.block b hb
theorem sz1 (w : World) (o : Obj) : (w.alloc o).heap.size = w.heap.size + 1 := by simp
theorem cellBk {w w' : World} {b j : Nat} {v : Value} (h : w.cell? ⟨b, j, none⟩ = some v) (hb : BK w w') : w'.cell? ⟨b, j, none⟩ = some v := (hb.bl.cell (p := ⟨b, j, none⟩) (World.block_lt_of_cell? w _ h)).trans h
theorem cell_at {w w' : World} {b j : Nat} (h : w'.heap[b]? = w.heap[b]?) : w'.cell? ⟨b, j, none⟩ = w.cell? ⟨b, j, none⟩ := by unfold World.cell?; rw [h]
theorem own_at {w w' : World} {B e sz n : Nat} {v : Value} {xs : List Value} (o : w.ownsRow B e sz v n xs) (h : ∀ k, v.ownBlock = some k → w'.heap[k]? = w.heap[k]?) : w'.ownsRow B e sz v n xs := by
  refine ⟨o.1, ?_⟩
  rcases o.2 with hn | ⟨g, cap, cur, hv, hb, hg, rest⟩
  · exact .inl hn
  · exact .inr ⟨g, cap, cur, hv, hb, (h g (by rw [hv]; rfl)).trans hg, rest⟩
theorem own_below {w w' : World} {B e sz n : Nat} {v : Value} {xs : List Value} (o : w.ownsRow B e sz v n xs) (hb : BK w w') : w'.ownsRow B e sz v n xs :=
  own_at o fun k hk => hb.bl.block k (o.lt k hk).2
theorem own_mono {w : World} {B B' e sz n : Nat} {v : Value} {xs : List Value} (o : w.ownsRow B e sz v n xs) (h : B' ≤ B) : w.ownsRow B' e sz v n xs := by
  refine ⟨o.1, ?_⟩
  rcases o.2 with hn | ⟨g, cap, cur, hv, hb, rest⟩
  · exact .inl hn
  · exact .inr ⟨g, cap, cur, hv, Nat.le_trans h hb, rest⟩
theorem own_shape {w : World} {B e sz n : Nat} {v : Value} {xs : List Value} (h : w.ownsRow B e sz v n xs) : ∃ p c, v = .slice p n c := by
  rcases h.2 with ⟨hv, h0⟩ | ⟨g, cap, cur, hv, _⟩
  · exact ⟨none, 0, by rw [hv, h0]⟩
  · exact ⟨_, cap, hv⟩
/-- a row's block is told by its elements' type -/
theorem own_tag {w : World} {B e sz n : Nat} {v : Value} {xs : List Value} (h : w.ownsRow B e sz v n xs) {g : Nat} (hg : v.ownBlock = some g) : ∃ cur, w.heap[g]? = some (.cells cur e (0, 0)) := by
  rcases h.2 with ⟨hv, h0⟩ | ⟨g', cap, cur, hv, hb, hc, _⟩
  · rw [hv] at hg; cases hg
  · rw [hv] at hg
    obtain rfl : g' = g := by simpa [Value.ownBlock] using hg
    exact ⟨cur, hc⟩
theorem wp_region_class {P : Program} {C : World → Prop} {id : Nat} {Q : Exit → Act → World → Prop} {a : Act} {w : World} {l : List Oper} (hm : P.follows .mixedOrders = true) (hB : Region.lexB .any l.toArray = true) (hC : C w.drew)
    (h : wpQuiet P l.toArray C (fun a' => ∀ w', C w' → Q .normal a' w') l a) : (Code.region id l.toArray true).wp P Q a w :=
  wp_region_quiet hm hB hC (by simpa using h)
def okI (x : Int) : Prop := -9223372036854775808 ≤ x ∧ x ≤ 9223372036854775807
theorem i64min : IntKind.i64.min = -9223372036854775808 := by decide
theorem i64max : IntKind.i64.max = 9223372036854775807 := by decide
theorem ok_wf {x : Int} (h : okI x) : (Lit.int .i64 x).wf = true := by
  simp only [Lit.wf, Bool.and_eq_true, decide_eq_true_eq, i64min, i64max]
  exact h
theorem wf_ok {x : Int} (h : (Lit.int .i64 x).wf = true) : okI x := by
  simp only [Lit.wf, Bool.and_eq_true, decide_eq_true_eq, i64min, i64max] at h
  exact h
/-! links in memory -/
def A3 (w : World) (b o : Nat) (l : L3) : Prop := w.cell? ⟨b, o, none⟩ = some (.int .i64 l.a) ∧ w.cell? ⟨b, o + 1, none⟩ = some (.int .i64 l.b) ∧ w.cell? ⟨b, o + 2, none⟩ = some (.int .i64 l.y)
theorem A3.keep {w w' : World} {b o : Nat} {l : L3} (h : A3 w b o l) (hb : BK w w') : A3 w' b o l := ⟨cellBk h.1 hb, cellBk h.2.1 hb, cellBk h.2.2 hb⟩
def cells3 (l : L3) : List Value := [.int .i64 l.a, .int .i64 l.b, .int .i64 l.y]
def flat3 (l : List L3) : List Value := l.flatMap cells3
theorem flat3_len (l : List L3) : (flat3 l).length = l.length * 3 := by
  induction l with
  | nil => rfl
  | cons i t ih => simp only [flat3, List.flatMap_cons, List.length_append] at *; rw [ih]; simp [cells3]; omega
theorem flat3_app (l m : List L3) : flat3 (l ++ m) = flat3 l ++ flat3 m := by simp [flat3]
theorem flat3_get : ∀ (l : List L3) (k : Nat) (h : k < l.length) (j : Nat) (hj : j < 3), (flat3 l)[k * 3 + j]? = (cells3 l[k])[j]?
  | i :: t, 0, _, j, hj => by simp only [flat3, List.flatMap_cons, Nat.zero_mul, Nat.zero_add]; rw [List.getElem?_append_left (by simp [cells3]; omega)]; rfl
  | i :: t, k + 1, h, j, hj => by
    have := flat3_get t k (by simpa using h) j hj
    simp only [flat3, List.flatMap_cons] at *
    rw [List.getElem?_append_right (by simp [cells3]; omega)]
    rw [show (k + 1) * 3 + j - (cells3 i).length = k * 3 + j by simp [cells3]; omega]
    simpa using this
theorem flat3_one (l : List L3) : ∀ u ∈ flat3 l, u.oneCell' = true := by
  intro u hu
  simp only [flat3, List.mem_flatMap] at hu
  obtain ⟨i, _, hu⟩ := hu
  simp [cells3] at hu
  rcases hu with rfl | rfl | rfl <;> rfl
/-- the links behind a slice -/
structure RL (w : World) (p : Option Addr) (c : Nat) (l : List L3) : Prop where
  nl : p = none → c = 0
  le : l.length ≤ c
  get : ∀ k (h : k < l.length), ∃ b o, p = some ⟨b, o, none⟩ ∧ A3 w b (o + k * 3) l[k]
theorem RL.keep {w w' : World} {p : Option Addr} {c : Nat} {l : List L3} (h : RL w p c l) (hb : BK w w') : RL w' p c l :=
  ⟨h.nl, h.le, fun k hk => by obtain ⟨b, o, h1, h2⟩ := h.get k hk; exact ⟨b, o, h1, h2.keep hb⟩⟩
theorem RL.own {w : World} {B e n c : Nat} {p : Option Addr} {l : List L3} (h : w.ownsRow B e 3 (.slice p n c) l.length (flat3 l)) : RL w p c l := by
  rcases h.2 with ⟨hv, h0⟩ | ⟨g, cap, cur, hv, hb, hg, h1, h2, h3, h4⟩
  · simp only [Value.slice.injEq] at hv
    obtain ⟨rfl, rfl, rfl⟩ := hv
    exact ⟨fun _ => rfl, by omega, fun k hk => by omega⟩
  · have hc := fun k u (hu : (flat3 l)[k]? = some u) => World.ownsRow.cells h (g := g) (by rw [hv]; rfl) k u hu
    simp only [Value.slice.injEq] at hv
    obtain ⟨rfl, rfl, rfl⟩ := hv
    refine ⟨fun h => (by cases h), by omega, fun k hk => ⟨g, 0, rfl, ?_⟩⟩
    have hd : ∀ j (hj : j < 3), w.cell? ⟨g, 0 + k * 3 + j, none⟩ = (cells3 l[k])[j]? := by
      intro j hj
      have hu : (cells3 l[k])[j]? = some ((cells3 l[k])[j]'(by simp [cells3]; omega)) := List.getElem?_eq_getElem _
      have := hc (k * 3 + j) _ ((flat3_get l k hk j hj).trans hu)
      rw [show (⟨g, 0, none⟩ : Addr).add (k * 3 + j) = ⟨g, 0 + (k * 3 + j), none⟩ from Go.WideShapes.add_plain _ _ _] at this
      rw [show 0 + k * 3 + j = 0 + (k * 3 + j) by omega, this, hu]
    exact ⟨hd 0 (by omega), hd 1 (by omega), hd 2 (by omega)⟩
def ints (zs : List Int) : List Value := zs.map (Value.int .i64)
/-! maps of numbers -/
theorem keyLaw : Keyed Try.prog 3 := int_keyed Try.underlying3
theorem zero3 (w : World) : (zeroValue 3).run Try.prog w = .ok (.int .i64 0) w := by kernel_rfl
def Rd (D : DataW Unit) (f : Int → Option Int) : Prop := Tidy D ∧ ∀ x, has D (.int .i64 x) = (f x).isSome ∧ D.atKey (.int .i64 x) (.lit (.int .i64 0)) = .lit (.int .i64 ((f x).getD 0))
theorem Rd.empty : Rd (.map []) (fun _ => none) := ⟨tidy_empty, fun x => ⟨rfl, by simp; rfl⟩⟩
def put1 (f : Int → Option Int) (x : Int) (v : Option Int) : Int → Option Int := fun y => if y = x then v else f y
theorem put1_same (f : Int → Option Int) (x : Int) (v : Option Int) : put1 f x v x = v := if_pos rfl
theorem put1_other {f : Int → Option Int} {x y : Int} {v : Option Int} (h : y ≠ x) : put1 f x v y = f y := if_neg h
theorem isKey (x : Int) : WideAt.IsKeyLit (.int .i64 x) := by unfold WideAt.IsKeyLit; trivial
theorem Rd.put {D : DataW Unit} {f : Int → Option Int} (h : Rd D f) (x v : Int) : Rd (D.put (.int .i64 x) (.lit (.int .i64 v))) (put1 f x (some v)) := by
  refine ⟨h.1.put (isKey x) _, fun y => ?_⟩
  by_cases e : y = x
  · subst e
    rw [put1_same, has_put_same h.1.isMap (isKey y), atKey_put_same h.1.isMap (isKey y)]
    exact ⟨rfl, rfl⟩
  · rw [put1_other e, has_put_other (by simpa using e), atKey_put_other (by simpa using e)]
    exact h.2 y
theorem Rd.del {D : DataW Unit} {f : Int → Option Int} (h : Rd D f) (x : Int) : Rd (D.del (.int .i64 x)) (put1 f x none) := by
  refine ⟨h.1.del _, fun y => ?_⟩
  by_cases e : y = x
  · subst e
    rw [put1_same, has_del_same, atKey_del_same]
    exact ⟨rfl, rfl⟩
  · rw [put1_other e, has_del_other (by simpa using e), atKey_del_other (by simpa using e)]
    exact h.2 y
/-- block b is a map of numbers of at most n entries -/
def MP (w : World) (b n : Nat) (f : Int → Option Int) : Prop := ∃ D : DataW Unit, w.ownsMap Try.prog 3 (plainElem Try.prog 3) b n D ∧ Rd D f
theorem MP.mono {w : World} {b n m : Nat} {f : Int → Option Int} (h : MP w b n f) (hm : n ≤ m) : MP w b m f := by
  obtain ⟨D, h1, h2⟩ := h; exact ⟨D, h1.mono hm, h2⟩
theorem MP.congr {w : World} {b n : Nat} {f g : Int → Option Int} (h : MP w b n f) (e : ∀ x, f x = g x) : MP w b n g := by
  obtain rfl : f = g := funext e; exact h
theorem MP.at {w w' : World} {b n : Nat} {f : Int → Option Int} (h : MP w b n f) (hb : w'.heap[b]? = w.heap[b]?) : MP w' b n f := by
  obtain ⟨D, ⟨es, cl, h1, h2⟩, h3⟩ := h
  exact ⟨D, ⟨es, cl, hb.trans h1, h2⟩, h3⟩
theorem MP.lt {w : World} {b n : Nat} {f : Int → Option Int} (h : MP w b n f) : b < w.heap.size := by obtain ⟨D, h1, _⟩ := h; exact h1.lt
theorem MP.keep {w w' : World} {b n : Nat} {f : Int → Option Int} (h : MP w b n f) (hb : BK w w') : MP w' b n f := h.at (hb.bl.block b h.lt)
theorem MP.ne {w : World} {b n k : Nat} {f : Int → Option Int} {C : Array Value} {t : TypeId} {z : Nat × Nat} (h : MP w b n f) (hb : w.heap[k]? = some (.cells C t z)) : b ≠ k := by
  obtain ⟨D, ⟨es, clock, h1, _⟩, _⟩ := h
  intro e; subst e; rw [h1] at hb; cases hb
theorem MP.ok {w : World} {b n : Nat} {f : Int → Option Int} (h : MP w b n f) {x v : Int} (hx : okI x) (hv : f x = some v) : okI v := by
  obtain ⟨D, h1, h2⟩ := h
  obtain ⟨c, _, hc, hw⟩ := h1.lookup_int (t := 49) keyLaw Try.underlying49 Try.underlying3 (zero3 w) (keyOf_int_mk Try.underlying3 (ok_wf hx))
  have := (h2.2 x).2
  rw [hv, hc] at this
  simp at this
  subst this
  exact wf_ok hw
theorem MP.look {w : World} {b n : Nat} {f : Int → Option Int} (h : MP w b n f) {x : Int} (hx : okI x) : (Instr.lookup 49 (.map (some b)) (.int .i64 x) true).run Try.prog w = .ok (.tuple #[.int .i64 ((f x).getD 0), .bool (f x).isSome]) w := by
  obtain ⟨D, h1, h2⟩ := h
  obtain ⟨v, ps, hrun, hv⟩ := h1.look_ok (t := 49) keyLaw Try.underlying49 (zero3 w) (plainElem_int Try.underlying3 (by decide)) (keyOf_int_mk Try.underlying3 (ok_wf hx))
  rw [hrun, (h2.2 x).1]
  obtain ⟨a, rfl, ha, _⟩ := plainElem_int_inv Try.underlying3 hv
  have := (h2.2 x).2
  simp only [Prod.mk.injEq] at ha
  rw [this] at ha
  simp at ha
  rw [ha.1]
theorem MP.look1 {w : World} {b n : Nat} {f : Int → Option Int} (h : MP w b n f) {x : Int} (hx : okI x) : (Instr.lookup 49 (.map (some b)) (.int .i64 x) false).run Try.prog w = .ok (.int .i64 ((f x).getD 0)) w := by
  obtain ⟨D, h1, h2⟩ := h
  obtain ⟨c, hrun, hc, hw⟩ := h1.lookup_int (t := 49) keyLaw Try.underlying49 Try.underlying3 (zero3 w) (keyOf_int_mk Try.underlying3 (ok_wf hx))
  rw [hrun]
  have := (h2.2 x).2
  rw [hc] at this
  simp at this
  rw [this]
theorem MP.getD_ok {w : World} {b n : Nat} {f : Int → Option Int} (h : MP w b n f) {x : Int} (hx : okI x) : okI ((f x).getD 0) := by
  cases e : f x with
  | none => exact ⟨by decide, by decide⟩
  | some v => exact h.ok hx e
theorem MP.store {w : World} {b n : Nat} {f : Int → Option Int} (h : MP w b n f) (hn : n < 1000000) {x v : Int} (hx : okI x) (hv : okI v) : ∃ w', (Instr.mapUpdate 49 (.map (some b)) (.int .i64 x) (.int .i64 v)).run Try.prog w = .ok () w' ∧ MP w' b (n + 1) (put1 f x (some v)) ∧ w.mapTurned w' b := by
  obtain ⟨D, h1, h2⟩ := h
  obtain ⟨w', a, c, d⟩ := h1.store (t := 49) keyLaw Try.underlying49 (by unfold maxLen; omega) (keyOf_int_mk Try.underlying3 (ok_wf hx)) (plainElem_int Try.underlying3 (ok_wf hv))
  exact ⟨w', a, ⟨_, c, h2.put x v⟩, d⟩
theorem MP.drop {w : World} {b n : Nat} {f : Int → Option Int} (h : MP w b n f) {x : Int} (hx : okI x) (ty : TypeId) : ∃ w', (Builtin.delete_ #[49, 3] ty #[.map (some b), .int .i64 x]).run Try.prog w = .ok (.tuple #[]) w' ∧ MP w' b n (put1 f x none) ∧ w.mapTurned w' b := by
  obtain ⟨D, h1, h2⟩ := h
  obtain ⟨w', a, c, d⟩ := h1.drop (t := 49) keyLaw Try.underlying49 (keyOf_int_mk Try.underlying3 (ok_wf hx)) ty
  exact ⟨w', a, ⟨_, c, h2.del x⟩, d⟩
end Go.Proofs.Ytpnjmkmobdaefaa
