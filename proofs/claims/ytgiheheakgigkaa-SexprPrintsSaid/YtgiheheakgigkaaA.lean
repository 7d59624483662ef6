/- The kit: what stays, rows, s-expressions in memory. -/
import Derived.Test.YtgiheheakgigkaaProg
import Derived.Test.YtgiheheakgigkaaP
import Derived.WalkKit
import Derived.WalkSpells
import Derived.WalkLawsBesides
import Derived.Lib.Hide
import Derived.RowKit
import Derived.Below
import Derived.Laws.Rows
import Derived.Deep.DeepMust
import Derived.Deep.DeepCutAuto
import Derived.Deep.AppendLies
import Derived.Deep.RegionHeld3
import Derived.Deep.RegionWith
import Derived.Deep.QuietTactic
import Derived.StillTailTactics
import Derived.BigQuiet
import Derived.WalkSmall
import Derived.IntWalk
import Derived.OneCell
import Derived.Laws.AppendOwnNone
import Derived.Lib.SmallJoins
namespace Go.Proofs.Ytgiheheakgigkaa
open Go.RowKit
set_option linter.unusedVariables false
set_option linter.unusedSimpArgs false
theorem ret_bool {a b : Bool} (h : a = b) : Ending.returned (.bool a) = .returned (.bool b) := by rw [h]
theorem ret_int {k : IntKind} {a b : Int} (h : a = b) : Ending.returned (.int k a) = .returned (.int k b) := by rw [h]
def BK (w0 w' : World) : Prop := Below w0.heap.size w0 w'
theorem BK.refl (w : World) : BK w w := Below.refl _ _
theorem BK.bl {a b : World} (h : BK a b) : Below a.heap.size a b := h
theorem bk_tr {a b c : World} (h : BK a b) (k : BK b c) : BK a c := Below.trans h (Below.mono k h.bl.size)
theorem bk_drew {w0 wc : World} (h : BK w0 wc) : BK w0 wc.drew := ⟨h.os, h.tape, h.output, h.size, h.block⟩
theorem bk_drewN {a b : World} (h : BK a b) (q : Nat) : BK a (b.drewN q) := ⟨h.os, h.tape, h.output, h.size, h.block⟩
theorem of_drew {a b : World} (h : BK a.drew b) : BK a b := ⟨h.os, h.tape, h.output, h.size, h.block⟩
theorem bk_alloc {w0 w : World} (h : BK w0 w) (o : Obj) : BK w0 (w.alloc o) := h.bl.alloc h.bl.size o
theorem bk_size {w0 w : World} (h : BK w0 w) : w0.heap.size ≤ w.heap.size := h.bl.size
theorem bk_set {w0 w : World} (h : BK w0 w) (p : Addr) (x : Value) (hp : w0.heap.size ≤ p.block) : BK w0 (w.setCell p x) := h.bl.setCell hp x
theorem bk_block {w0 w : World} (h : BK w0 w) {b : Nat} (hb : b < w0.heap.size) : w.heap[b]? = w0.heap[b]? := h.bl.block b hb
theorem sz1 (w : World) (o : Obj) : (w.alloc o).heap.size = w.heap.size + 1 := by simp
theorem cellBk {w w' : World} {b j : Nat} {v : Value} (h : w.cell? ⟨b, j, none⟩ = some v) (hb : BK w w') : w'.cell? ⟨b, j, none⟩ = some v := (hb.bl.cell (p := ⟨b, j, none⟩) (World.block_lt_of_cell? w _ h)).trans h
theorem cell_at {w w' : World} {b j : Nat} (h : w'.heap[b]? = w.heap[b]?) : w'.cell? ⟨b, j, none⟩ = w.cell? ⟨b, j, none⟩ := by unfold World.cell?; rw [h]
theorem own_at {w w' : World} {B e sz n : Nat} {v : Value} {xs : List Value} (o : w.ownsRow B e sz v n xs) (h : ∀ k, v.ownBlock = some k → w'.heap[k]? = w.heap[k]?) : w'.ownsRow B e sz v n xs := by
  refine ⟨o.1, ?_⟩
  rcases o.2 with hn | ⟨g, cap, cur, hv, hb, hg, rest⟩
  · exact .inl hn
  · exact .inr ⟨g, cap, cur, hv, hb, (h g (by rw [hv]; rfl)).trans hg, rest⟩
theorem own_below {w w' : World} {B e sz n : Nat} {v : Value} {xs : List Value} (o : w.ownsRow B e sz v n xs) (hb : BK w w') : w'.ownsRow B e sz v n xs :=
  own_at o fun k hk => hb.bl.block k (o.lt k hk).2
theorem own_mono {w : World} {B B' e sz n : Nat} {v : Value} {xs : List Value} (o : w.ownsRow B e sz v n xs) (h : B' ≤ B) : w.ownsRow B' e sz v n xs := by
  refine ⟨o.1, ?_⟩
  rcases o.2 with hn | ⟨g, cap, cur, hv, hb, rest⟩
  · exact .inl hn
  · exact .inr ⟨g, cap, cur, hv, Nat.le_trans h hb, rest⟩
theorem own_shape {w : World} {B e sz n : Nat} {v : Value} {xs : List Value} (h : w.ownsRow B e sz v n xs) : ∃ p c, v = .slice p n c := by
  rcases h.2 with ⟨hv, h0⟩ | ⟨g, cap, cur, hv, _⟩
  · exact ⟨none, 0, by rw [hv, h0]⟩
  · exact ⟨_, cap, hv⟩
theorem own_tag {w : World} {B e sz n : Nat} {v : Value} {xs : List Value} (h : w.ownsRow B e sz v n xs) {g : Nat} (hg : v.ownBlock = some g) : ∃ cur, w.heap[g]? = some (.cells cur e (0, 0)) := by
  rcases h.2 with ⟨hv, h0⟩ | ⟨g', cap, cur, hv, hb, hc, _⟩
  · rw [hv] at hg; cases hg
  · rw [hv] at hg
    obtain rfl : g' = g := by simpa [Value.ownBlock] using hg
    exact ⟨cur, hc⟩
theorem wp_region_class {P : Program} {C : World → Prop} {id : Nat} {Q : Exit → Act → World → Prop} {a : Act} {w : World} {l : List Oper} (hm : P.follows .mixedOrders = true) (hB : Region.lexB .any l.toArray = true) (hC : C w.drew)
    (h : wpQuiet P l.toArray C (fun a' => ∀ w', C w' → Q .normal a' w') l a) : (Code.region id l.toArray true).wp P Q a w :=
  wp_region_quiet hm hB hC (by simpa using h)
/-- what a call leaves: outside the footprint all is as it was, and the new footprint is old or new memory -/
structure Step (w w' : World) (F F' : Nat → Prop) : Prop where
  os : w'.os = w.os
  tape : w'.tape = w.tape
  output : w'.output = w.output
  size : w.heap.size ≤ w'.heap.size
  block : ∀ k, k < w.heap.size → ¬ F k → w'.heap[k]? = w.heap[k]?
  sub : ∀ k, F' k → F k ∨ w.heap.size ≤ k
theorem Step.trans {a b c : World} {F G H : Nat → Prop} (h : Step a b F G) (k : Step b c G H) : Step a c F H :=
  ⟨k.os.trans h.os, k.tape.trans h.tape, k.output.trans h.output, Nat.le_trans h.size k.size,
   fun i hi hn => (k.block i (Nat.lt_of_lt_of_le hi h.size) (fun g => by rcases h.sub i g with q | q; exact hn q; omega)).trans (h.block i hi hn),
   fun i hi => by
    rcases k.sub i hi with q | q
    · exact h.sub i q
    · exact .inr (Nat.le_trans h.size q)⟩
theorem Step.refl (w : World) (F : Nat → Prop) : Step w w F F := ⟨rfl, rfl, rfl, Nat.le_refl _, fun _ _ _ => rfl, fun _ h => .inl h⟩
theorem Step.bk {w w' : World} {F : Nat → Prop} (h : BK w w') : Step w w' F F :=
  ⟨h.bl.os, h.bl.tape, h.bl.output, h.bl.size, fun k hk _ => h.bl.block k hk, fun _ h => .inl h⟩
theorem Step.bk_new {w0 w w' : World} {F F' : Nat → Prop} (h : BK w0 w) (s : Step w w' F F') (hF : ∀ k, F k → w0.heap.size ≤ k) : BK w0 w' :=
  ⟨s.os.trans h.bl.os, s.tape.trans h.bl.tape, s.output.trans h.bl.output, Nat.le_trans h.bl.size s.size, fun k hk => (s.block k (Nat.lt_of_lt_of_le hk h.bl.size) (fun g => by have := hF k g; omega)).trans (h.bl.block k hk)⟩
theorem Step.to_drew {w w' : World} {F F' : Nat → Prop} (h : Step w w' F F') : Step w w'.drew F F' := ⟨h.os, h.tape, h.output, h.size, h.block, h.sub⟩
theorem Step.drew {w w' : World} {F F' : Nat → Prop} (h : Step w.drew w' F F') : Step w w' F F' := ⟨h.os, h.tape, h.output, h.size, h.block, h.sub⟩
def oneF (b : Nat) : Nat → Prop := fun k => k = b
theorem step_set {w : World} {b : Nat} (i : Nat) (v : Value) : Step w (w.setCell ⟨b, i, none⟩ v) (oneF b) (oneF b) :=
  ⟨rfl, rfl, rfl, by simp [World.setCell], fun k hk hn => heap_setCell_other w ⟨b, i, none⟩ k v (fun e => hn e), fun k hk => .inl hk⟩
/-! s-expressions in memory -/
mutual
/-- a tree lies at a place; what lies behind it keeps to D -/
def AtD (D : Nat → Prop) : T → World → Nat → Nat → Prop
  | .mk a ts, w, b, o => ∃ p c, w.cell? ⟨b, o, none⟩ = some (.string a) ∧ w.cell? ⟨b, o + 1, none⟩ = some (.slice p ts.length c) ∧ ((ts.length = 0 ∧ (p = none → c = 0)) ∨ ∃ b' o', p = some ⟨b', o', none⟩ ∧ D b' ∧ AtDL D ts w b' o' ∧ ts.length ≤ c)
def AtDL (D : Nat → Prop) : List T → World → Nat → Nat → Prop
  | [], _, _, _ => True
  | t :: ts, w, b, o => AtD D t w b o ∧ AtDL D ts w b (o + 2)
end
def RowD (D : Nat → Prop) (w : World) (p : Option Addr) (c : Nat) (ts : List T) : Prop := (ts.length = 0 ∧ (p = none → c = 0)) ∨ ∃ b o, p = some ⟨b, o, none⟩ ∧ D b ∧ AtDL D ts w b o ∧ ts.length ≤ c
theorem atD_mk {D : Nat → Prop} {w : World} {b o : Nat} {a : ByteArray} {ts : List T} : AtD D (.mk a ts) w b o ↔ ∃ p c, w.cell? ⟨b, o, none⟩ = some (.string a) ∧ w.cell? ⟨b, o + 1, none⟩ = some (.slice p ts.length c) ∧ RowD D w p c ts := by
  rw [AtD]; rfl
theorem atDL_get : ∀ {ts : List T} {D : Nat → Prop} {w : World} {b o : Nat}, AtDL D ts w b o → ∀ k (h : k < ts.length), AtD D ts[k] w b (o + k * 2)
  | t :: ts, D, w, b, o, h, 0, _ => by rw [AtDL] at h; simpa using h.1
  | t :: ts, D, w, b, o, h, k + 1, hk => by
    rw [AtDL] at h
    have := atDL_get h.2 k (by simpa using hk)
    rw [show o + (k + 1) * 2 = o + 2 + k * 2 by omega]
    simpa using this
theorem atDL_of : ∀ {ts : List T} {D : Nat → Prop} {w : World} {b o : Nat}, (∀ k (h : k < ts.length), AtD D ts[k] w b (o + k * 2)) → AtDL D ts w b o
  | [], D, w, b, o, h => by rw [AtDL]; trivial
  | t :: ts, D, w, b, o, h => by
    rw [AtDL]
    have h0 := h 0 (by simp)
    rw [Nat.zero_mul, Nat.add_zero] at h0
    refine ⟨h0, atDL_of fun k hk => ?_⟩
    have := h (k + 1) (by simpa using hk)
    rw [show o + 2 + k * 2 = o + (k + 1) * 2 by omega]
    exact this
theorem atDL_keep {w w' : World} {D D' : Nat → Prop} : ∀ (ts : List T), (∀ t ∈ ts, ∀ b o, w'.heap[b]? = w.heap[b]? → AtD D t w b o → AtD D' t w' b o) → ∀ b o, w'.heap[b]? = w.heap[b]? → AtDL D ts w b o → AtDL D' ts w' b o
  | [], _, _, _, _, _ => by rw [AtDL]; trivial
  | t :: ts, h, b, o, hb, ha => by
    rw [AtDL] at ha ⊢
    exact ⟨h t (by simp) b o hb ha.1, atDL_keep ts (fun t ht => h t (by simp [ht])) b (o + 2) hb ha.2⟩
theorem atD_keep {w w' : World} {D D' : Nat → Prop} (hk : ∀ k, D k → w'.heap[k]? = w.heap[k]? ∧ D' k) (t : T) : ∀ b o, w'.heap[b]? = w.heap[b]? → AtD D t w b o → AtD D' t w' b o := by
  induction t using T.ind with
  | h a ts ih =>
    intro b o hb h
    rw [atD_mk] at h ⊢
    obtain ⟨p, c, h1, h2, h3⟩ := h
    refine ⟨p, c, (cell_at hb).trans h1, (cell_at hb).trans h2, ?_⟩
    rcases h3 with h3 | ⟨b', o', h3, h4, h5, h6⟩
    · exact .inl h3
    · exact .inr ⟨b', o', h3, (hk b' h4).2, atDL_keep ts ih b' o' (hk b' h4).1 h5, h6⟩
theorem RowD.keep {w w' : World} {D D' : Nat → Prop} {p : Option Addr} {c : Nat} {ts : List T} (h : RowD D w p c ts) (hk : ∀ k, D k → w'.heap[k]? = w.heap[k]? ∧ D' k) : RowD D' w' p c ts := by
  rcases h with h | ⟨b, o, h1, h2, h3, h4⟩
  · exact .inl h
  · exact .inr ⟨b, o, h1, (hk b h2).2, atDL_keep ts (fun t _ => atD_keep hk t) b o (hk b h2).1 h3, h4⟩
/-- the memory from a place on -/
def mem (lo : Nat) (w : World) : Nat → Prop := fun k => lo ≤ k ∧ k < w.heap.size
/-- memory of a world's own, one block aside -/
def memX (lo : Nat) (w : World) (v : Value) : Nat → Prop := fun k => lo ≤ k ∧ k < w.heap.size ∧ v.ownBlock ≠ some k
theorem RowD.bk {w w' : World} {lo lo' : Nat} {p : Option Addr} {c : Nat} {ts : List T} (h : RowD (mem lo w) w p c ts) (hb : BK w w') (hl : lo' ≤ lo) : RowD (mem lo' w') w' p c ts :=
  h.keep fun k hk => ⟨bk_block hb hk.2, by have := hk.1; exact Nat.le_trans hl this, Nat.lt_of_lt_of_le hk.2 (bk_size hb)⟩
theorem RowD.step {w w' : World} {lo lo' : Nat} {F F' : Nat → Prop} {p : Option Addr} {c : Nat} {ts : List T} (h : RowD (mem lo w) w p c ts) (s : Step w w' F F') (hF : ∀ k, lo ≤ k → ¬ F k) (hl : lo' ≤ lo) : RowD (mem lo' w') w' p c ts :=
  h.keep fun k hk => ⟨s.block k hk.2 (hF k hk.1), by have := hk.1; exact Nat.le_trans hl this, Nat.lt_of_lt_of_le hk.2 s.size⟩
/-- the k-th element -/
theorem RowD.get {D : Nat → Prop} {w : World} {p : Option Addr} {c : Nat} {ts : List T} (h : RowD D w p c ts) {k : Nat} (hk : k < ts.length) : ∃ b o a us q d, p = some ⟨b, o, none⟩ ∧ D b ∧ ts[k] = .mk a us ∧ w.cell? ⟨b, o + k * 2, none⟩ = some (.string a) ∧ w.cell? ⟨b, o + k * 2 + 1, none⟩ = some (.slice q us.length d) ∧ RowD D w q d us := by
  rcases h with h | ⟨b, o, h1, h2, h3, h4⟩
  · omega
  · have h5 := atDL_get h3 k hk
    generalize ht : ts[k] = t at h5
    cases t with
    | mk a us =>
      rw [atD_mk] at h5
      obtain ⟨q, d, h6, h7, h8⟩ := h5
      exact ⟨b, o, a, us, q, d, h1, h2, rfl, h6, h7, h8⟩
/-- an s-expression, by value -/
def TV (w : World) (lo : Nat) (e : T) (v : Value) : Prop := match e with | .mk a ts => ∃ p c, v = .agg #[.string a, .slice p ts.length c] ∧ RowD (mem lo w) w p c ts
end Go.Proofs.Ytgiheheakgigkaa
