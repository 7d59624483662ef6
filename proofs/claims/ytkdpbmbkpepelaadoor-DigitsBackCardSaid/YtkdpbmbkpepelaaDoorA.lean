/- The kit: what stays, rows. -/
import Derived.Test.YtkdpbmbkpepelaaDoorProg
import Derived.Test.YtkdpbmbkpepelaaDoorP
import Derived.WalkKit
import Derived.WalkSpells
import Derived.WalkLawsBesides
import Derived.Lib.Hide
import Derived.RowKit
import Derived.Below
import Derived.Laws.Rows
import Derived.Deep.DeepMust
import Derived.Deep.DeepCutAuto
import Derived.Deep.AppendLies
import Derived.Deep.RegionHeld3
import Derived.Deep.RegionWith
import Derived.Deep.QuietTactic
import Derived.StillTailTactics
import Derived.BigQuiet
import Derived.WalkSmall
import Derived.IntWalk
import Derived.OneCell
import Derived.Laws.AppendOwnNone
import Derived.Lib.SmallJoins
import Derived.Laws.BytesArg
namespace Go.Proofs.YtkdpbmbkpepelaaDoor
open Go.RowKit
set_option linter.unusedVariables false
set_option linter.unusedSimpArgs false
theorem ret_bool {a b : Bool} (h : a = b) : Ending.returned (.bool a) = .returned (.bool b) := by rw [h]
theorem ret_int {k : IntKind} {a b : Int} (h : a = b) : Ending.returned (.int k a) = .returned (.int k b) := by rw [h]
def BK (w0 w' : World) : Prop := Below w0.heap.size w0 w'
theorem BK.refl (w : World) : BK w w := Below.refl _ _
theorem BK.bl {a b : World} (h : BK a b) : Below a.heap.size a b := h
theorem bk_tr {a b c : World} (h : BK a b) (k : BK b c) : BK a c := Below.trans h (Below.mono k h.bl.size)
theorem bk_drew {w0 wc : World} (h : BK w0 wc) : BK w0 wc.drew := ⟨h.os, h.tape, h.output, h.size, h.block⟩
theorem bk_drewN {a b : World} (h : BK a b) (q : Nat) : BK a (b.drewN q) := ⟨h.os, h.tape, h.output, h.size, h.block⟩
theorem of_drew {a b : World} (h : BK a.drew b) : BK a b := ⟨h.os, h.tape, h.output, h.size, h.block⟩
theorem bk_alloc {w0 w : World} (h : BK w0 w) (o : Obj) : BK w0 (w.alloc o) := h.bl.alloc h.bl.size o
theorem bk_size {w0 w : World} (h : BK w0 w) : w0.heap.size ≤ w.heap.size := h.bl.size
theorem bk_set {w0 w : World} (h : BK w0 w) (p : Addr) (x : Value) (hp : w0.heap.size ≤ p.block) : BK w0 (w.setCell p x) := h.bl.setCell hp x
theorem bk_block {w0 w : World} (h : BK w0 w) {b : Nat} (hb : b < w0.heap.size) : w.heap[b]? = w0.heap[b]? := h.bl.block b hb
theorem sz1 (w : World) (o : Obj) : (w.alloc o).heap.size = w.heap.size + 1 := by simp
theorem cellBk {w w' : World} {b j : Nat} {v : Value} (h : w.cell? ⟨b, j, none⟩ = some v) (hb : BK w w') : w'.cell? ⟨b, j, none⟩ = some v := (hb.bl.cell (p := ⟨b, j, none⟩) (World.block_lt_of_cell? w _ h)).trans h
theorem cell_at {w w' : World} {b j : Nat} (h : w'.heap[b]? = w.heap[b]?) : w'.cell? ⟨b, j, none⟩ = w.cell? ⟨b, j, none⟩ := by unfold World.cell?; rw [h]
theorem own_at {w w' : World} {B e sz n : Nat} {v : Value} {xs : List Value} (o : w.ownsRow B e sz v n xs) (h : ∀ k, v.ownBlock = some k → w'.heap[k]? = w.heap[k]?) : w'.ownsRow B e sz v n xs := by
  refine ⟨o.1, ?_⟩
  rcases o.2 with hn | ⟨g, cap, cur, hv, hb, hg, rest⟩
  · exact .inl hn
  · exact .inr ⟨g, cap, cur, hv, hb, (h g (by rw [hv]; rfl)).trans hg, rest⟩
theorem own_below {w w' : World} {B e sz n : Nat} {v : Value} {xs : List Value} (o : w.ownsRow B e sz v n xs) (hb : BK w w') : w'.ownsRow B e sz v n xs :=
  own_at o fun k hk => hb.bl.block k (o.lt k hk).2
theorem own_mono {w : World} {B B' e sz n : Nat} {v : Value} {xs : List Value} (o : w.ownsRow B e sz v n xs) (h : B' ≤ B) : w.ownsRow B' e sz v n xs := by
  refine ⟨o.1, ?_⟩
  rcases o.2 with hn | ⟨g, cap, cur, hv, hb, rest⟩
  · exact .inl hn
  · exact .inr ⟨g, cap, cur, hv, Nat.le_trans h hb, rest⟩
theorem own_shape {w : World} {B e sz n : Nat} {v : Value} {xs : List Value} (h : w.ownsRow B e sz v n xs) : ∃ p c, v = .slice p n c := by
  rcases h.2 with ⟨hv, h0⟩ | ⟨g, cap, cur, hv, _⟩
  · exact ⟨none, 0, by rw [hv, h0]⟩
  · exact ⟨_, cap, hv⟩
theorem own_tag {w : World} {B e sz n : Nat} {v : Value} {xs : List Value} (h : w.ownsRow B e sz v n xs) {g : Nat} (hg : v.ownBlock = some g) : ∃ cur, w.heap[g]? = some (.cells cur e (0, 0)) := by
  rcases h.2 with ⟨hv, h0⟩ | ⟨g', cap, cur, hv, hb, hc, _⟩
  · rw [hv] at hg; cases hg
  · rw [hv] at hg
    obtain rfl : g' = g := by simpa [Value.ownBlock] using hg
    exact ⟨cur, hc⟩
theorem wp_region_class {P : Program} {C : World → Prop} {id : Nat} {Q : Exit → Act → World → Prop} {a : Act} {w : World} {l : List Oper} (hm : P.follows .mixedOrders = true) (hB : Region.lexB .any l.toArray = true) (hC : C w.drew)
    (h : wpQuiet P l.toArray C (fun a' => ∀ w', C w' → Q .normal a' w') l a) : (Code.region id l.toArray true).wp P Q a w :=
  wp_region_quiet hm hB hC (by simpa using h)

/-- the bytes of a string -/
abbrev bl (s : ByteArray) : List UInt8 := s.data.toList
theorem bl_len (s : ByteArray) : (bl s).length = s.size := rfl
theorem bl_mk (l : List UInt8) : bl ⟨l.toArray⟩ = l := rfl
theorem mk_bl (s : ByteArray) : (⟨(bl s).toArray⟩ : ByteArray) = s := rfl
theorem bl_get {s : ByteArray} {i : Nat} (h : i < s.size) : (bl s).getD i 0 = s[i]'h := by
  show s.data.toList.getD i 0 = s.data[i]'h
  rw [List.getD_eq_getElem?_getD, List.getElem?_eq_getElem (show i < s.data.toList.length from h)]
  simp
theorem bl_extract (s : ByteArray) (i j : Nat) : bl (s.extract i j) = ((bl s).drop i).take (j - i) := by
  show (s.extract i j).data.toList = _
  rw [ByteArray.data_extract, Array.toList_extract]
theorem bl_app (s t : ByteArray) : bl (s ++ t) = bl s ++ bl t := by
  show (s ++ t).data.toList = _
  rw [ByteArray.data_append, Array.toList_append]
theorem bl_inj {s t : ByteArray} (h : bl s = bl t) : s = t := by
  rw [← mk_bl s, ← mk_bl t, h]
theorem idx9 {s : ByteArray} {i : Nat} (h : i < s.size) (w : World) : (Instr.index 9 (.string s) (.int .i64 (i : Int))).run Tryd.prog w = .ok (.int .u8 ((((bl s).getD i 0).toNat : Nat) : Int)) w := by
  rw [run_index_string w 9 s .i64 (i : Int) Tryd.underlying9, dif_pos ⟨by omega, by omega⟩, bl_get h]
  simp only [Int.toNat_natCast]
end Go.Proofs.YtkdpbmbkpepelaaDoor
