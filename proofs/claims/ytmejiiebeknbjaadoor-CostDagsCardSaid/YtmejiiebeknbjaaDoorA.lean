/- The kit: what stays, bytes appended. -/
import Derived.Test.YtmejiiebeknbjaaDoorRows
import Derived.Test.YtmejiiebeknbjaaDoorShelf
import Derived.WalkKit
import Derived.WalkSpells
import Derived.WalkLawsBesides
import Derived.Lib.Hide
import Derived.RowKit
import Derived.Below
import Derived.Laws.Rows
import Derived.Deep.WholeRow
import Derived.Laws.AppendOwnNone
import Derived.Maps.Own
import Derived.Maps.OwnOps
import Derived.Maps.OwnSet
import Derived.Maps.Views
import Derived.DeepKeys4
import Derived.Deep.DeepCutAuto
import Derived.Deep.DeepMust
import Derived.Deep.AppendLies
import Derived.Deep.RegionHeld3
import Derived.Deep.RegionWith
import Derived.Deep.QuietTactic
import Derived.BigQuiet
import Derived.WalkSmall
import Derived.IntWalk
import Derived.Lib.AppendStr
import Derived.Lib.ItoaLen
import Derived.Lib.ItoaMem
namespace Go.Proofs.YtmejiiebeknbjaaDoor
open Go.RowKit
set_option linter.unusedVariables false
set_option linter.unusedSimpArgs false
theorem ret_bool {a b : Bool} (h : a = b) : Ending.returned (.bool a) = .returned (.bool b) := by rw [h]
theorem below_chain {a b c : World} (h : Below a.heap.size a b) (k : Below b.heap.size b c) : Below a.heap.size a c := h.trans (k.mono h.size)
def BK (w0 w' : World) : Prop := Below w0.heap.size w0 w'
theorem BK.refl (w : World) : BK w w := Below.refl _ _
theorem bk_drew {w0 wc : World} (h : BK w0 wc) : BK w0 wc.drew := below_drewN (B := w0.heap.size) (a := w0) (w := wc) h 1
theorem bk_tr {a b c : World} (h : BK a b) (k : BK b c) : BK a c := below_chain h k
theorem bk_alloc {w0 w : World} (h : BK w0 w) (o : Obj) : BK w0 (w.alloc o) := by
  have h : Below w0.heap.size w0 w := h
  exact h.alloc h.size o
theorem bk_size {w0 w : World} (h : BK w0 w) : w0.heap.size ≤ w.heap.size := by
  have h : Below w0.heap.size w0 w := h
  exact h.size
/-- the table of powers stands -/
def Tb (w : World) : Prop := Lib.TabIs Tryd.prog w "internal/strconv.uint64pow10" .u64 Lib.pow10Tab
theorem Tb.keep {w w' : World} (h : Tb w) (hb : BK w w') : Tb w' := (Lib.tabBelow_of_tabIs h) w' hb
theorem own_at {w w' : World} {B e sz n : Nat} {v : Value} {xs : List Value} (o : w.ownsRow B e sz v n xs) (h : ∀ k, v.ownBlock = some k → w'.heap[k]? = w.heap[k]?) : w'.ownsRow B e sz v n xs := by
  refine ⟨o.1, ?_⟩
  rcases o.2 with hn | ⟨g, cap, cur, hv, hb, hg, rest⟩
  · exact .inl hn
  · exact .inr ⟨g, cap, cur, hv, hb, (h g (by rw [hv]; rfl)).trans hg, rest⟩
theorem own_below {w w' : World} {B e sz n : Nat} {v : Value} {xs : List Value} (o : w.ownsRow B e sz v n xs) (hb : BK w w') : w'.ownsRow B e sz v n xs :=
  own_at o fun k hk => (show Below w.heap.size w w' from hb).block k (o.lt k hk).2
theorem bc_append (l m : List UInt8) : Lib.byteCells (l ++ m) = Lib.byteCells l ++ Lib.byteCells m := by simp [Lib.byteCells]
/-- v holds the bytes l, in memory made since w0 -/
structure KS (w0 w : World) (v : Value) (n : Nat) (l : List UInt8) : Prop where
  row : w.ownsRow w0.heap.size 5 1 v n (Lib.byteCells l)
  len : l.length = n
  bel : BK w0 w
def KP (w0 : World) (l : List UInt8) (e : Ending) (w' : World) : Prop := ∃ v', e = .returned v' ∧ KS w0 w' v' l.length l
theorem dec_len (u : Nat) (h : u < 18446744073709551616) : (Lib.decDigits u).length ≤ 21 := by
  rw [Lib.decDigits_length]; have := Lib.nDigits_le20 u h; omega
theorem int_any {w0 wc : World} {v : Value} {n : Nat} {l : List UInt8} (i : Int) (K : KS w0 wc v n l) (ht : Tb w0) (h0 : -9223372036854775808 ≤ i) (h1 : i ≤ 9223372036854775807) (hn : n ≤ 100000000) :
    Calls Tryd.prog 31 #[v, .int .i64 i, .int .i64 10] wc (KP w0 (l ++ Lib.itoa i)) := by
  refine (Tryd.strconv_AppendInt_10 w0.heap.size n i h0 h1 v _ wc K.row (bk_size K.bel) (by omega) (fun w' hb => ht.keep (Below.trans (show Below w0.heap.size w0 wc from K.bel) hb))).mono ?_
  rintro e w' ⟨v', rfl, ho, hb, _⟩
  refine ⟨v', rfl, ?_, rfl, Below.trans (show Below w0.heap.size w0 wc from K.bel) hb⟩
  rw [bc_append, List.length_append, K.len]
  exact ho
theorem info5 : (Tryd.prog.info? 5).map (fun i => (i.zero, i.size, i.bytes)) = some (some (.int .u8 0), 1, 1) := by kernel_rfl
theorem KS.grow {w0 wc w9 : World} {v v9 : Value} {n m : Nat} {l l' : List UInt8} {o : Obj} (K : KS w0 wc v n l) (hg : ((wc.alloc o).drew).grownBy w9 v.ownBlock) (hr : w9.ownsRow w0.heap.size 5 1 v9 m (Lib.byteCells l')) (hl : l'.length = m) : KS w0 w9 v9 m l' := by
  have hb : Below w0.heap.size w0 wc := K.bel
  exact ⟨hr, hl, ((hb.alloc hb.size o).drew).grown hg (by have := hb.size; show _ ≤ (wc.alloc o).heap.size; simp; omega) (fun r hr => (K.row.lt r hr).1)⟩
theorem below_alloc (w : World) (o : Obj) : Below w.heap.size w (w.alloc o) := (Below.refl _ _).alloc (Nat.le_refl _) o
def In64 (i : Int) : Prop := -9223372036854775808 ≤ i ∧ i ≤ 9223372036854775807
/-- the five cells of a boxed node -/
def B5 (w : World) (b : Nat) (x0 x1 x2 x3 x4 : Value) : Prop := w.cell? ⟨b, 0, none⟩ = some x0 ∧ w.cell? ⟨b, 1, none⟩ = some x1 ∧ w.cell? ⟨b, 2, none⟩ = some x2 ∧ w.cell? ⟨b, 3, none⟩ = some x3 ∧ w.cell? ⟨b, 4, none⟩ = some x4
theorem b5_new (w : World) (x0 x1 x2 x3 x4 : Value) (T : Nat) : B5 (w.alloc (.cells #[x0, x1, x2, x3, x4] T)) w.heap.size x0 x1 x2 x3 x4 := by
  refine ⟨?_, ?_, ?_, ?_, ?_⟩ <;> (rw [World.cell?_alloc_new]; rfl)
theorem B5.keep {w w' : World} {b : Nat} {x0 x1 x2 x3 x4 : Value} (h : B5 w b x0 x1 x2 x3 x4) (hb : BK w w') (hlt : b < w.heap.size) : B5 w' b x0 x1 x2 x3 x4 := by
  have hb : Below w.heap.size w w' := hb
  obtain ⟨a0, a1, a2, a3, a4⟩ := h
  exact ⟨(hb.cell (p := ⟨b, 0, none⟩) hlt).trans a0, (hb.cell (p := ⟨b, 1, none⟩) hlt).trans a1, (hb.cell (p := ⟨b, 2, none⟩) hlt).trans a2, (hb.cell (p := ⟨b, 3, none⟩) hlt).trans a3, (hb.cell (p := ⟨b, 4, none⟩) hlt).trans a4⟩
theorem own_shape {w : World} {B e sz n : Nat} {v : Value} {xs : List Value} (h : w.ownsRow B e sz v n xs) : ∃ p c, v = .slice p n c := by
  rcases h.2 with ⟨hv, h0⟩ | ⟨g, cap, cur, hv, _⟩
  · exact ⟨none, 0, by rw [hv, h0]⟩
  · exact ⟨_, cap, hv⟩
theorem bk_set {w0 w : World} (h : BK w0 w) (p : Addr) (x : Value) (hp : w0.heap.size ≤ p.block) : BK w0 (w.setCell p x) := by
  have h : Below w0.heap.size w0 w := h
  exact h.setCell hp x
theorem own_set {w : World} {B e sz n : Nat} {v : Value} {xs : List Value} (o : w.ownsRow B e sz v n xs) (p : Addr) (x : Value) (hp : p.block < B) : (w.setCell p x).ownsRow B e sz v n xs :=
  own_at o fun k hk => Below.heap_setCell w p x k (by have := (o.lt k hk).1; omega)
theorem own_mono {w : World} {B B' e sz n : Nat} {v : Value} {xs : List Value} (o : w.ownsRow B e sz v n xs) (h : B' ≤ B) : w.ownsRow B' e sz v n xs := by
  refine ⟨o.1, ?_⟩
  rcases o.2 with hn | ⟨g, cap, cur, hv, hb, rest⟩
  · exact .inl hn
  · exact .inr ⟨g, cap, cur, hv, Nat.le_trans h hb, rest⟩
theorem fz_keep {w w' : World} {b : Nat} (h : ∀ k, w.frozen? ⟨b, k, none⟩ = false) (hb : BK w w') (hlt : b < w.heap.size) : ∀ k, w'.frozen? ⟨b, k, none⟩ = false := fun k =>
  ((show Below w.heap.size w w' from hb).frozen (p := ⟨b, k, none⟩) hlt).trans (h k)
theorem fz_new (w : World) (cs : Array Value) (T : Nat) : ∀ k, (w.alloc (.cells cs T)).frozen? ⟨w.heap.size, k, none⟩ = false := fun k => by rw [World.frozen?_alloc_new]
def ints (zs : List Int) : List Value := zs.map (Value.int .i64)
theorem of_drew {a b : World} (h : BK a.drew b) : BK a b := ⟨h.os, h.tape, h.output, h.size, h.block⟩
theorem box_lt (w : World) (cs : Array Value) (T : Nat) : w.heap.size < (w.alloc (.cells cs T)).heap.size := by simp
theorem bk_drewN {a b : World} (h : BK a b) (q : Nat) : BK a (b.drewN q) := below_drewN (B := a.heap.size) (a := a) (w := b) h q
theorem ret_int' {k : IntKind} {a b : Int} (h : a = b) : Ending.returned (.int k a) = .returned (.int k b) := by rw [h]
theorem wp_region_class {P : Program} {C : World → Prop} {id : Nat} {Q : Exit → Act → World → Prop} {a : Act} {w : World} {l : List Oper} (hm : P.follows .mixedOrders = true) (hB : Region.lexB .any l.toArray = true) (hC : C w.drew)
    (h : wpQuiet P l.toArray C (fun a' => ∀ w', C w' → Q .normal a' w') l a) : (Code.region id l.toArray true).wp P Q a w :=
  wp_region_quiet hm hB hC (by simpa using h)
/-- the five cells of a block, by the block -/
theorem B5.at {w w' : World} {b : Nat} {x0 x1 x2 x3 x4 : Value} (h : B5 w b x0 x1 x2 x3 x4) (he : w'.heap[b]? = w.heap[b]?) : B5 w' b x0 x1 x2 x3 x4 := by
  obtain ⟨a0, a1, a2, a3, a4⟩ := h
  exact ⟨(World.cell?_of_block (a := ⟨b, 0, none⟩) he).trans a0, (World.cell?_of_block (a := ⟨b, 1, none⟩) he).trans a1, (World.cell?_of_block (a := ⟨b, 2, none⟩) he).trans a2, (World.cell?_of_block (a := ⟨b, 3, none⟩) he).trans a3, (World.cell?_of_block (a := ⟨b, 4, none⟩) he).trans a4⟩
theorem fz_at {w w' : World} {b : Nat} (h : ∀ k, w.frozen? ⟨b, k, none⟩ = false) (he : w'.heap[b]? = w.heap[b]?) : ∀ k, w'.frozen? ⟨b, k, none⟩ = false := fun k => (World.frozen?_of_block (a := ⟨b, k, none⟩) he).trans (h k)
end Go.Proofs.YtmejiiebeknbjaaDoor
